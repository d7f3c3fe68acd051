/-
  No cell of these rows narrows 'for every input' (looked for: loops, veiled, ifaces, maps, wideKeys, modest, calm, conditions, laid).
  DERIVED. THE GIVEN ROWS OF THIS SEAT. 12 by the template 'for every input the law returns true; each argument reads behind the call as it read before'; 0 by the template 'total and deterministic' (their statements: YtehgelfoboocmaaTotals.lean).
  GIVEN WITH THE SEED: the statements are not yours to turn. If you find one false, say at which input.
  Laid BY PROGRAM, IN A SANDBOX (cutbox-rows.mjs): the forced cells as the released guide's own fill.sh prints them over the translation 5eed845158bb6b64… (all of the seat's roots in one cut). By AI agents, Wed Nov 11 2026. No macro, syntax, notation, axiom, sorry.
-/
import Derived.Test.YtehgelfoboocmaaChecked
import GoSem.Claim
import GoSem.ClaimJoined
import GoSem.ClaimMapViews
import Derived.JoinedTies
import Derived.KernelRfl
namespace Go.Proofs.Ytehgelfoboocmaa
/- THE CELL 'sum', in the pinned program and in every row, IS THE sha256 OF THE DUMP (.gsa) THAT YtehgelfoboocmaaProg.lean LOADS. Nothing in Lean hashes anything: it is a label: what it is worth is what the hold of that sum in a sandbox is worth. -/
noncomputable def Try.pinned : Pinned := { name := "ytehgelfoboocmaa", sum := "5eed845158bb6b64dc016a9008ea61cc90a7e24c59838f56ac5beba3521976ad", checked := Try.checked }
namespace Rows
def none {H : Type} : Left H := { results := [], args := [] }

/-- 'laws.FnExactItemOk': WHATEVER THE INPUT: true; the input reads as it did. -/
def fnExactItemOkSpec : ChangeSpec := { name := "fnExactItemOk", fn := fun _ => fun
  | [d] => { results := [.lit (.bool true)], args := [d] }
  | _ => none }
def fnExactItemOkRow : OpenClaim := { program := "ytehgelfoboocmaa", sum := "5eed845158bb6b64dc016a9008ea61cc90a7e24c59838f56ac5beba3521976ad", func := "loop.example/g00972/laws.FnExactItemOk", spec := "fnExactItemOk", apart := false }
def FnExactItemOkSaid : Prop := fnExactItemOkRow.holds Try.pinned (OpenSpec.ofChange fnExactItemOkSpec)

/-- ITS FALSE NEIGHBOUR: 'it returns false'. Refute it at one input. -/
def fnExactItemOkWrong : ChangeSpec := { name := "fnExactItemOk", fn := fun _ => fun
  | [d] => { results := [.lit (.bool false)], args := [d] }
  | _ => none }
def FnExactItemOkWrongFalsely : Prop := fnExactItemOkRow.holds Try.pinned (OpenSpec.ofChange fnExactItemOkWrong)

/-- 'laws.FnExactItemsOk': WHATEVER THE INPUT: true; the input reads as it did. -/
def fnExactItemsOkSpec : ChangeSpec := { name := "fnExactItemsOk", fn := fun _ => fun
  | [d] => { results := [.lit (.bool true)], args := [d] }
  | _ => none }
def fnExactItemsOkRow : OpenClaim := { program := "ytehgelfoboocmaa", sum := "5eed845158bb6b64dc016a9008ea61cc90a7e24c59838f56ac5beba3521976ad", func := "loop.example/g00972/laws.FnExactItemsOk", spec := "fnExactItemsOk", apart := false }
def FnExactItemsOkSaid : Prop := fnExactItemsOkRow.holds Try.pinned (OpenSpec.ofChange fnExactItemsOkSpec)

/-- ITS FALSE NEIGHBOUR: 'it returns false'. Refute it at one input. -/
def fnExactItemsOkWrong : ChangeSpec := { name := "fnExactItemsOk", fn := fun _ => fun
  | [d] => { results := [.lit (.bool false)], args := [d] }
  | _ => none }
def FnExactItemsOkWrongFalsely : Prop := fnExactItemsOkRow.holds Try.pinned (OpenSpec.ofChange fnExactItemsOkWrong)

/-- 'laws.FnExactHypOf': WHATEVER THE INPUT: true; the input reads as it did. -/
def fnExactHypOfSpec : ChangeSpec := { name := "fnExactHypOf", fn := fun _ => fun
  | [d] => { results := [.lit (.bool true)], args := [d] }
  | _ => none }
def fnExactHypOfRow : OpenClaim := { program := "ytehgelfoboocmaa", sum := "5eed845158bb6b64dc016a9008ea61cc90a7e24c59838f56ac5beba3521976ad", func := "loop.example/g00972/laws.FnExactHypOf", spec := "fnExactHypOf", apart := false }
def FnExactHypOfSaid : Prop := fnExactHypOfRow.holds Try.pinned (OpenSpec.ofChange fnExactHypOfSpec)

/-- ITS FALSE NEIGHBOUR: 'it returns false'. Refute it at one input. -/
def fnExactHypOfWrong : ChangeSpec := { name := "fnExactHypOf", fn := fun _ => fun
  | [d] => { results := [.lit (.bool false)], args := [d] }
  | _ => none }
def FnExactHypOfWrongFalsely : Prop := fnExactHypOfRow.holds Try.pinned (OpenSpec.ofChange fnExactHypOfWrong)

/-- 'laws.FnExactOuterOf': WHATEVER THE INPUT: true; the input reads as it did. -/
def fnExactOuterOfSpec : ChangeSpec := { name := "fnExactOuterOf", fn := fun _ => fun
  | [d1, d2, d3] => { results := [.lit (.bool true)], args := [d1, d2, d3] }
  | _ => none }
def fnExactOuterOfRow : OpenClaim := { program := "ytehgelfoboocmaa", sum := "5eed845158bb6b64dc016a9008ea61cc90a7e24c59838f56ac5beba3521976ad", func := "loop.example/g00972/laws.FnExactOuterOf", spec := "fnExactOuterOf", apart := false }
def FnExactOuterOfSaid : Prop := fnExactOuterOfRow.holds Try.pinned (OpenSpec.ofChange fnExactOuterOfSpec)

/-- ITS FALSE NEIGHBOUR: 'it returns false'. Refute it at one input. -/
def fnExactOuterOfWrong : ChangeSpec := { name := "fnExactOuterOf", fn := fun _ => fun
  | [d1, d2, d3] => { results := [.lit (.bool false)], args := [d1, d2, d3] }
  | _ => none }
def FnExactOuterOfWrongFalsely : Prop := fnExactOuterOfRow.holds Try.pinned (OpenSpec.ofChange fnExactOuterOfWrong)

/-- 'laws.FnExactGrows': WHATEVER THE INPUT: true; the input reads as it did. -/
def fnExactGrowsSpec : ChangeSpec := { name := "fnExactGrows", fn := fun _ => fun
  | [d1, d2, d3] => { results := [.lit (.bool true)], args := [d1, d2, d3] }
  | _ => none }
def fnExactGrowsRow : OpenClaim := { program := "ytehgelfoboocmaa", sum := "5eed845158bb6b64dc016a9008ea61cc90a7e24c59838f56ac5beba3521976ad", func := "loop.example/g00972/laws.FnExactGrows", spec := "fnExactGrows", apart := false }
def FnExactGrowsSaid : Prop := fnExactGrowsRow.holds Try.pinned (OpenSpec.ofChange fnExactGrowsSpec)

/-- ITS FALSE NEIGHBOUR: 'it returns false'. Refute it at one input. -/
def fnExactGrowsWrong : ChangeSpec := { name := "fnExactGrows", fn := fun _ => fun
  | [d1, d2, d3] => { results := [.lit (.bool false)], args := [d1, d2, d3] }
  | _ => none }
def FnExactGrowsWrongFalsely : Prop := fnExactGrowsRow.holds Try.pinned (OpenSpec.ofChange fnExactGrowsWrong)

/-- 'laws.FnExactFlexLine': WHATEVER THE INPUT: true; the input reads as it did. -/
def fnExactFlexLineSpec : ChangeSpec := { name := "fnExactFlexLine", fn := fun _ => fun
  | [d1, d2, d3] => { results := [.lit (.bool true)], args := [d1, d2, d3] }
  | _ => none }
def fnExactFlexLineRow : OpenClaim := { program := "ytehgelfoboocmaa", sum := "5eed845158bb6b64dc016a9008ea61cc90a7e24c59838f56ac5beba3521976ad", func := "loop.example/g00972/laws.FnExactFlexLine", spec := "fnExactFlexLine", apart := false }
def FnExactFlexLineSaid : Prop := fnExactFlexLineRow.holds Try.pinned (OpenSpec.ofChange fnExactFlexLineSpec)

/-- ITS FALSE NEIGHBOUR: 'it returns false'. Refute it at one input. -/
def fnExactFlexLineWrong : ChangeSpec := { name := "fnExactFlexLine", fn := fun _ => fun
  | [d1, d2, d3] => { results := [.lit (.bool false)], args := [d1, d2, d3] }
  | _ => none }
def FnExactFlexLineWrongFalsely : Prop := fnExactFlexLineRow.holds Try.pinned (OpenSpec.ofChange fnExactFlexLineWrong)

/-- 'laws.FnExactFlexPasses': WHATEVER THE INPUT: true; the input reads as it did. -/
def fnExactFlexPassesSpec : ChangeSpec := { name := "fnExactFlexPasses", fn := fun _ => fun
  | [d1, d2, d3] => { results := [.lit (.bool true)], args := [d1, d2, d3] }
  | _ => none }
def fnExactFlexPassesRow : OpenClaim := { program := "ytehgelfoboocmaa", sum := "5eed845158bb6b64dc016a9008ea61cc90a7e24c59838f56ac5beba3521976ad", func := "loop.example/g00972/laws.FnExactFlexPasses", spec := "fnExactFlexPasses", apart := false }
def FnExactFlexPassesSaid : Prop := fnExactFlexPassesRow.holds Try.pinned (OpenSpec.ofChange fnExactFlexPassesSpec)

/-- ITS FALSE NEIGHBOUR: 'it returns false'. Refute it at one input. -/
def fnExactFlexPassesWrong : ChangeSpec := { name := "fnExactFlexPasses", fn := fun _ => fun
  | [d1, d2, d3] => { results := [.lit (.bool false)], args := [d1, d2, d3] }
  | _ => none }
def FnExactFlexPassesWrongFalsely : Prop := fnExactFlexPassesRow.holds Try.pinned (OpenSpec.ofChange fnExactFlexPassesWrong)

/-- 'laws.FnFlexed': WHATEVER THE INPUT: true; the input reads as it did. -/
def fnFlexedSpec : ChangeSpec := { name := "fnFlexed", fn := fun _ => fun
  | [d] => { results := [.lit (.bool true)], args := [d] }
  | _ => none }
def fnFlexedRow : OpenClaim := { program := "ytehgelfoboocmaa", sum := "5eed845158bb6b64dc016a9008ea61cc90a7e24c59838f56ac5beba3521976ad", func := "loop.example/g00972/laws.FnFlexed", spec := "fnFlexed", apart := false }
def FnFlexedSaid : Prop := fnFlexedRow.holds Try.pinned (OpenSpec.ofChange fnFlexedSpec)

/-- ITS FALSE NEIGHBOUR: 'it returns false'. Refute it at one input. -/
def fnFlexedWrong : ChangeSpec := { name := "fnFlexed", fn := fun _ => fun
  | [d] => { results := [.lit (.bool false)], args := [d] }
  | _ => none }
def FnFlexedWrongFalsely : Prop := fnFlexedRow.holds Try.pinned (OpenSpec.ofChange fnFlexedWrong)

/-- 'laws.FnFair': WHATEVER THE INPUT: true; the input reads as it did. -/
def fnFairSpec : ChangeSpec := { name := "fnFair", fn := fun _ => fun
  | [d] => { results := [.lit (.bool true)], args := [d] }
  | _ => none }
def fnFairRow : OpenClaim := { program := "ytehgelfoboocmaa", sum := "5eed845158bb6b64dc016a9008ea61cc90a7e24c59838f56ac5beba3521976ad", func := "loop.example/g00972/laws.FnFair", spec := "fnFair", apart := false }
def FnFairSaid : Prop := fnFairRow.holds Try.pinned (OpenSpec.ofChange fnFairSpec)

/-- ITS FALSE NEIGHBOUR: 'it returns false'. Refute it at one input. -/
def fnFairWrong : ChangeSpec := { name := "fnFair", fn := fun _ => fun
  | [d] => { results := [.lit (.bool false)], args := [d] }
  | _ => none }
def FnFairWrongFalsely : Prop := fnFairRow.holds Try.pinned (OpenSpec.ofChange fnFairWrong)

/-- 'laws.FnExactShares': WHATEVER THE INPUT: true; the input reads as it did. -/
def fnExactSharesSpec : ChangeSpec := { name := "fnExactShares", fn := fun _ => fun
  | [d1, d2] => { results := [.lit (.bool true)], args := [d1, d2] }
  | _ => none }
def fnExactSharesRow : OpenClaim := { program := "ytehgelfoboocmaa", sum := "5eed845158bb6b64dc016a9008ea61cc90a7e24c59838f56ac5beba3521976ad", func := "loop.example/g00972/laws.FnExactShares", spec := "fnExactShares", apart := false }
def FnExactSharesSaid : Prop := fnExactSharesRow.holds Try.pinned (OpenSpec.ofChange fnExactSharesSpec)

/-- ITS FALSE NEIGHBOUR: 'it returns false'. Refute it at one input. -/
def fnExactSharesWrong : ChangeSpec := { name := "fnExactShares", fn := fun _ => fun
  | [d1, d2] => { results := [.lit (.bool false)], args := [d1, d2] }
  | _ => none }
def FnExactSharesWrongFalsely : Prop := fnExactSharesRow.holds Try.pinned (OpenSpec.ofChange fnExactSharesWrong)

/-- 'laws.FnExactShareAt': WHATEVER THE INPUT: true; the input reads as it did. -/
def fnExactShareAtSpec : ChangeSpec := { name := "fnExactShareAt", fn := fun _ => fun
  | [d1, d2, d3] => { results := [.lit (.bool true)], args := [d1, d2, d3] }
  | _ => none }
def fnExactShareAtRow : OpenClaim := { program := "ytehgelfoboocmaa", sum := "5eed845158bb6b64dc016a9008ea61cc90a7e24c59838f56ac5beba3521976ad", func := "loop.example/g00972/laws.FnExactShareAt", spec := "fnExactShareAt", apart := false }
def FnExactShareAtSaid : Prop := fnExactShareAtRow.holds Try.pinned (OpenSpec.ofChange fnExactShareAtSpec)

/-- ITS FALSE NEIGHBOUR: 'it returns false'. Refute it at one input. -/
def fnExactShareAtWrong : ChangeSpec := { name := "fnExactShareAt", fn := fun _ => fun
  | [d1, d2, d3] => { results := [.lit (.bool false)], args := [d1, d2, d3] }
  | _ => none }
def FnExactShareAtWrongFalsely : Prop := fnExactShareAtRow.holds Try.pinned (OpenSpec.ofChange fnExactShareAtWrong)

/-- 'laws.FnExactEvenly': WHATEVER THE INPUT: true; the input reads as it did. -/
def fnExactEvenlySpec : ChangeSpec := { name := "fnExactEvenly", fn := fun _ => fun
  | [d1, d2] => { results := [.lit (.bool true)], args := [d1, d2] }
  | _ => none }
def fnExactEvenlyRow : OpenClaim := { program := "ytehgelfoboocmaa", sum := "5eed845158bb6b64dc016a9008ea61cc90a7e24c59838f56ac5beba3521976ad", func := "loop.example/g00972/laws.FnExactEvenly", spec := "fnExactEvenly", apart := false }
def FnExactEvenlySaid : Prop := fnExactEvenlyRow.holds Try.pinned (OpenSpec.ofChange fnExactEvenlySpec)

/-- ITS FALSE NEIGHBOUR: 'it returns false'. Refute it at one input. -/
def fnExactEvenlyWrong : ChangeSpec := { name := "fnExactEvenly", fn := fun _ => fun
  | [d1, d2] => { results := [.lit (.bool false)], args := [d1, d2] }
  | _ => none }
def FnExactEvenlyWrongFalsely : Prop := fnExactEvenlyRow.holds Try.pinned (OpenSpec.ofChange fnExactEvenlyWrong)

/- THE SECOND FORM. 'bulk': how many values and letters a reading holds, each counted each time it is reached (what is shared counts as often as it is met; a slice's spare places count too). A statement '..UptoSaid' is the law's where the arguments, and the package variables that the reading takes, are together of bulk at most 1048576: NARROWER than '..Said'. Prove '..Said' where nothing that the law and all that it calls make is longer than what came in: it says more and counts as full. Else prove '..UptoSaid'. A law counts once. -/
mutual
def uptoBulk {H : Type} : DataW H → Nat
  | .lit (.string bytes) => bytes.length + 1
  | .lit _ => 1
  | .nil => 1
  | .ptr d => uptoBulk d + 1
  | .slice elems spare => uptoBulkAll elems + uptoBulkAll spare + 1
  | .agg parts => uptoBulkAll parts + 1
  | .iface _ d => uptoBulk d + 1
  | .map entries => uptoBulkEntries entries + 1
  | .held _ => 1
def uptoBulkAll {H : Type} : List (DataW H) → Nat
  | [] => 0
  | d :: r => uptoBulk d + uptoBulkAll r
def uptoBulkEntries {H : Type} : List (Lit × DataW H) → Nat
  | [] => 0
  | x :: r => uptoBulkEntry x + uptoBulkEntries r
def uptoBulkEntry {H : Type} : Lit × DataW H → Nat
  | (.string bytes, d) => bytes.length + uptoBulk d + 1
  | (_, d) => uptoBulk d + 1
 end
def uptoSmall : (H : Type) → List (DataW H) → Bool := fun _ ds => decide (uptoBulkAll ds ≤ 1048576)
def OpenSpec.upto (s : _root_.Go.ChangeSpec) : _root_.Go.OpenSpec := { _root_.Go.OpenSpec.ofChange s with cond := some uptoSmall }

/-- 'laws.FnExactItemOk', WHERE WHAT IT READS IS OF BULK AT MOST 1048576: true; the input reads as it did. -/
def fnExactItemOkUptoRow : OpenClaim := { program := "ytehgelfoboocmaa", sum := "5eed845158bb6b64dc016a9008ea61cc90a7e24c59838f56ac5beba3521976ad", func := "loop.example/g00972/laws.FnExactItemOk", spec := "fnExactItemOk", apart := false, narrowed := true }
def FnExactItemOkUptoSaid : Prop := fnExactItemOkUptoRow.holds Try.pinned (OpenSpec.upto fnExactItemOkSpec)

/-- 'laws.FnExactItemsOk', WHERE WHAT IT READS IS OF BULK AT MOST 1048576: true; the input reads as it did. -/
def fnExactItemsOkUptoRow : OpenClaim := { program := "ytehgelfoboocmaa", sum := "5eed845158bb6b64dc016a9008ea61cc90a7e24c59838f56ac5beba3521976ad", func := "loop.example/g00972/laws.FnExactItemsOk", spec := "fnExactItemsOk", apart := false, narrowed := true }
def FnExactItemsOkUptoSaid : Prop := fnExactItemsOkUptoRow.holds Try.pinned (OpenSpec.upto fnExactItemsOkSpec)

/-- 'laws.FnExactHypOf', WHERE WHAT IT READS IS OF BULK AT MOST 1048576: true; the input reads as it did. -/
def fnExactHypOfUptoRow : OpenClaim := { program := "ytehgelfoboocmaa", sum := "5eed845158bb6b64dc016a9008ea61cc90a7e24c59838f56ac5beba3521976ad", func := "loop.example/g00972/laws.FnExactHypOf", spec := "fnExactHypOf", apart := false, narrowed := true }
def FnExactHypOfUptoSaid : Prop := fnExactHypOfUptoRow.holds Try.pinned (OpenSpec.upto fnExactHypOfSpec)

/-- 'laws.FnExactOuterOf', WHERE WHAT IT READS IS OF BULK AT MOST 1048576: true; the input reads as it did. -/
def fnExactOuterOfUptoRow : OpenClaim := { program := "ytehgelfoboocmaa", sum := "5eed845158bb6b64dc016a9008ea61cc90a7e24c59838f56ac5beba3521976ad", func := "loop.example/g00972/laws.FnExactOuterOf", spec := "fnExactOuterOf", apart := false, narrowed := true }
def FnExactOuterOfUptoSaid : Prop := fnExactOuterOfUptoRow.holds Try.pinned (OpenSpec.upto fnExactOuterOfSpec)

/-- 'laws.FnExactGrows', WHERE WHAT IT READS IS OF BULK AT MOST 1048576: true; the input reads as it did. -/
def fnExactGrowsUptoRow : OpenClaim := { program := "ytehgelfoboocmaa", sum := "5eed845158bb6b64dc016a9008ea61cc90a7e24c59838f56ac5beba3521976ad", func := "loop.example/g00972/laws.FnExactGrows", spec := "fnExactGrows", apart := false, narrowed := true }
def FnExactGrowsUptoSaid : Prop := fnExactGrowsUptoRow.holds Try.pinned (OpenSpec.upto fnExactGrowsSpec)

/-- 'laws.FnExactFlexLine', WHERE WHAT IT READS IS OF BULK AT MOST 1048576: true; the input reads as it did. -/
def fnExactFlexLineUptoRow : OpenClaim := { program := "ytehgelfoboocmaa", sum := "5eed845158bb6b64dc016a9008ea61cc90a7e24c59838f56ac5beba3521976ad", func := "loop.example/g00972/laws.FnExactFlexLine", spec := "fnExactFlexLine", apart := false, narrowed := true }
def FnExactFlexLineUptoSaid : Prop := fnExactFlexLineUptoRow.holds Try.pinned (OpenSpec.upto fnExactFlexLineSpec)

/-- 'laws.FnExactFlexPasses', WHERE WHAT IT READS IS OF BULK AT MOST 1048576: true; the input reads as it did. -/
def fnExactFlexPassesUptoRow : OpenClaim := { program := "ytehgelfoboocmaa", sum := "5eed845158bb6b64dc016a9008ea61cc90a7e24c59838f56ac5beba3521976ad", func := "loop.example/g00972/laws.FnExactFlexPasses", spec := "fnExactFlexPasses", apart := false, narrowed := true }
def FnExactFlexPassesUptoSaid : Prop := fnExactFlexPassesUptoRow.holds Try.pinned (OpenSpec.upto fnExactFlexPassesSpec)

/-- 'laws.FnFlexed', WHERE WHAT IT READS IS OF BULK AT MOST 1048576: true; the input reads as it did. -/
def fnFlexedUptoRow : OpenClaim := { program := "ytehgelfoboocmaa", sum := "5eed845158bb6b64dc016a9008ea61cc90a7e24c59838f56ac5beba3521976ad", func := "loop.example/g00972/laws.FnFlexed", spec := "fnFlexed", apart := false, narrowed := true }
def FnFlexedUptoSaid : Prop := fnFlexedUptoRow.holds Try.pinned (OpenSpec.upto fnFlexedSpec)

/-- 'laws.FnFair', WHERE WHAT IT READS IS OF BULK AT MOST 1048576: true; the input reads as it did. -/
def fnFairUptoRow : OpenClaim := { program := "ytehgelfoboocmaa", sum := "5eed845158bb6b64dc016a9008ea61cc90a7e24c59838f56ac5beba3521976ad", func := "loop.example/g00972/laws.FnFair", spec := "fnFair", apart := false, narrowed := true }
def FnFairUptoSaid : Prop := fnFairUptoRow.holds Try.pinned (OpenSpec.upto fnFairSpec)

/-- 'laws.FnExactShares', WHERE WHAT IT READS IS OF BULK AT MOST 1048576: true; the input reads as it did. -/
def fnExactSharesUptoRow : OpenClaim := { program := "ytehgelfoboocmaa", sum := "5eed845158bb6b64dc016a9008ea61cc90a7e24c59838f56ac5beba3521976ad", func := "loop.example/g00972/laws.FnExactShares", spec := "fnExactShares", apart := false, narrowed := true }
def FnExactSharesUptoSaid : Prop := fnExactSharesUptoRow.holds Try.pinned (OpenSpec.upto fnExactSharesSpec)

/-- 'laws.FnExactShareAt', WHERE WHAT IT READS IS OF BULK AT MOST 1048576: true; the input reads as it did. -/
def fnExactShareAtUptoRow : OpenClaim := { program := "ytehgelfoboocmaa", sum := "5eed845158bb6b64dc016a9008ea61cc90a7e24c59838f56ac5beba3521976ad", func := "loop.example/g00972/laws.FnExactShareAt", spec := "fnExactShareAt", apart := false, narrowed := true }
def FnExactShareAtUptoSaid : Prop := fnExactShareAtUptoRow.holds Try.pinned (OpenSpec.upto fnExactShareAtSpec)

/-- 'laws.FnExactEvenly', WHERE WHAT IT READS IS OF BULK AT MOST 1048576: true; the input reads as it did. -/
def fnExactEvenlyUptoRow : OpenClaim := { program := "ytehgelfoboocmaa", sum := "5eed845158bb6b64dc016a9008ea61cc90a7e24c59838f56ac5beba3521976ad", func := "loop.example/g00972/laws.FnExactEvenly", spec := "fnExactEvenly", apart := false, narrowed := true }
def FnExactEvenlyUptoSaid : Prop := fnExactEvenlyUptoRow.holds Try.pinned (OpenSpec.upto fnExactEvenlySpec)

end Rows
end Go.Proofs.Ytehgelfoboocmaa

/-
  No cell of these rows narrows 'for every input' (looked for: loops, veiled, ifaces, maps, wideKeys, modest, calm, conditions, laid).
  DERIVED. THE GIVEN ROWS OF THIS SEAT. 8 by the template 'for every input the law returns true; each argument reads behind the call as it read before'; 0 by the template 'total and deterministic' (their statements: YtohpcjoifeoolaaTotals.lean).
  GIVEN WITH THE SEED: the statements are not yours to turn. If you find one false, say at which input.
  Laid BY PROGRAM, IN A SANDBOX (cutbox-rows.mjs): the forced cells as the released guide's own fill.sh prints them over the translation 927843f7310f2fb7… (all of the seat's roots in one cut). By AI agents, Wed Nov 11 2026. No macro, syntax, notation, axiom, sorry.
-/
import Derived.Test.YtohpcjoifeoolaaChecked
import GoSem.Claim
import GoSem.ClaimJoined
import GoSem.ClaimMapViews
import Derived.JoinedTies
import Derived.KernelRfl
namespace Go.Proofs.Ytohpcjoifeoolaa
/- THE CELL 'sum', in the pinned program and in every row, IS THE sha256 OF THE DUMP (.gsa) THAT YtohpcjoifeoolaaProg.lean LOADS. Nothing in Lean hashes anything: it is a label: what it is worth is what the hold of that sum in a sandbox is worth. -/
noncomputable def Try.pinned : Pinned := { name := "ytohpcjoifeoolaa", sum := "927843f7310f2fb70d7c5e923565f7b5e4e85c53fae20e94cecb2983d7f31ab7", checked := Try.checked }
namespace Rows
def none {H : Type} : Left H := { results := [], args := [] }

/-- 'laws.FnShares': WHATEVER THE INPUT: true; the input reads as it did. -/
def fnSharesSpec : ChangeSpec := { name := "fnShares", fn := fun _ => fun
  | [d] => { results := [.lit (.bool true)], args := [d] }
  | _ => none }
def fnSharesRow : OpenClaim := { program := "ytohpcjoifeoolaa", sum := "927843f7310f2fb70d7c5e923565f7b5e4e85c53fae20e94cecb2983d7f31ab7", func := "loop.example/g00972/laws.FnShares", spec := "fnShares", apart := false }
def FnSharesSaid : Prop := fnSharesRow.holds Try.pinned (OpenSpec.ofChange fnSharesSpec)

/-- ITS FALSE NEIGHBOUR: 'it returns false'. Refute it at one input. -/
def fnSharesWrong : ChangeSpec := { name := "fnShares", fn := fun _ => fun
  | [d] => { results := [.lit (.bool false)], args := [d] }
  | _ => none }
def FnSharesWrongFalsely : Prop := fnSharesRow.holds Try.pinned (OpenSpec.ofChange fnSharesWrong)

/-- 'laws.FnEvenly': WHATEVER THE INPUT: true; the input reads as it did. -/
def fnEvenlySpec : ChangeSpec := { name := "fnEvenly", fn := fun _ => fun
  | [d] => { results := [.lit (.bool true)], args := [d] }
  | _ => none }
def fnEvenlyRow : OpenClaim := { program := "ytohpcjoifeoolaa", sum := "927843f7310f2fb70d7c5e923565f7b5e4e85c53fae20e94cecb2983d7f31ab7", func := "loop.example/g00972/laws.FnEvenly", spec := "fnEvenly", apart := false }
def FnEvenlySaid : Prop := fnEvenlyRow.holds Try.pinned (OpenSpec.ofChange fnEvenlySpec)

/-- ITS FALSE NEIGHBOUR: 'it returns false'. Refute it at one input. -/
def fnEvenlyWrong : ChangeSpec := { name := "fnEvenly", fn := fun _ => fun
  | [d] => { results := [.lit (.bool false)], args := [d] }
  | _ => none }
def FnEvenlyWrongFalsely : Prop := fnEvenlyRow.holds Try.pinned (OpenSpec.ofChange fnEvenlyWrong)

/-- 'laws.FnExactWeightsOk': WHATEVER THE INPUT: true; the input reads as it did. -/
def fnExactWeightsOkSpec : ChangeSpec := { name := "fnExactWeightsOk", fn := fun _ => fun
  | [d] => { results := [.lit (.bool true)], args := [d] }
  | _ => none }
def fnExactWeightsOkRow : OpenClaim := { program := "ytohpcjoifeoolaa", sum := "927843f7310f2fb70d7c5e923565f7b5e4e85c53fae20e94cecb2983d7f31ab7", func := "loop.example/g00972/laws.FnExactWeightsOk", spec := "fnExactWeightsOk", apart := false }
def FnExactWeightsOkSaid : Prop := fnExactWeightsOkRow.holds Try.pinned (OpenSpec.ofChange fnExactWeightsOkSpec)

/-- ITS FALSE NEIGHBOUR: 'it returns false'. Refute it at one input. -/
def fnExactWeightsOkWrong : ChangeSpec := { name := "fnExactWeightsOk", fn := fun _ => fun
  | [d] => { results := [.lit (.bool false)], args := [d] }
  | _ => none }
def FnExactWeightsOkWrongFalsely : Prop := fnExactWeightsOkRow.holds Try.pinned (OpenSpec.ofChange fnExactWeightsOkWrong)

/-- 'laws.FnExactShares': WHATEVER THE INPUT: true; the input reads as it did. -/
def fnExactSharesSpec : ChangeSpec := { name := "fnExactShares", fn := fun _ => fun
  | [d1, d2] => { results := [.lit (.bool true)], args := [d1, d2] }
  | _ => none }
def fnExactSharesRow : OpenClaim := { program := "ytohpcjoifeoolaa", sum := "927843f7310f2fb70d7c5e923565f7b5e4e85c53fae20e94cecb2983d7f31ab7", func := "loop.example/g00972/laws.FnExactShares", spec := "fnExactShares", apart := false }
def FnExactSharesSaid : Prop := fnExactSharesRow.holds Try.pinned (OpenSpec.ofChange fnExactSharesSpec)

/-- ITS FALSE NEIGHBOUR: 'it returns false'. Refute it at one input. -/
def fnExactSharesWrong : ChangeSpec := { name := "fnExactShares", fn := fun _ => fun
  | [d1, d2] => { results := [.lit (.bool false)], args := [d1, d2] }
  | _ => none }
def FnExactSharesWrongFalsely : Prop := fnExactSharesRow.holds Try.pinned (OpenSpec.ofChange fnExactSharesWrong)

/-- 'laws.FnExactShareAt': WHATEVER THE INPUT: true; the input reads as it did. -/
def fnExactShareAtSpec : ChangeSpec := { name := "fnExactShareAt", fn := fun _ => fun
  | [d1, d2, d3] => { results := [.lit (.bool true)], args := [d1, d2, d3] }
  | _ => none }
def fnExactShareAtRow : OpenClaim := { program := "ytohpcjoifeoolaa", sum := "927843f7310f2fb70d7c5e923565f7b5e4e85c53fae20e94cecb2983d7f31ab7", func := "loop.example/g00972/laws.FnExactShareAt", spec := "fnExactShareAt", apart := false }
def FnExactShareAtSaid : Prop := fnExactShareAtRow.holds Try.pinned (OpenSpec.ofChange fnExactShareAtSpec)

/-- ITS FALSE NEIGHBOUR: 'it returns false'. Refute it at one input. -/
def fnExactShareAtWrong : ChangeSpec := { name := "fnExactShareAt", fn := fun _ => fun
  | [d1, d2, d3] => { results := [.lit (.bool false)], args := [d1, d2, d3] }
  | _ => none }
def FnExactShareAtWrongFalsely : Prop := fnExactShareAtRow.holds Try.pinned (OpenSpec.ofChange fnExactShareAtWrong)

/-- 'laws.FnExactScaled': WHATEVER THE INPUT: true; the input reads as it did. -/
def fnExactScaledSpec : ChangeSpec := { name := "fnExactScaled", fn := fun _ => fun
  | [d1, d2] => { results := [.lit (.bool true)], args := [d1, d2] }
  | _ => none }
def fnExactScaledRow : OpenClaim := { program := "ytohpcjoifeoolaa", sum := "927843f7310f2fb70d7c5e923565f7b5e4e85c53fae20e94cecb2983d7f31ab7", func := "loop.example/g00972/laws.FnExactScaled", spec := "fnExactScaled", apart := false }
def FnExactScaledSaid : Prop := fnExactScaledRow.holds Try.pinned (OpenSpec.ofChange fnExactScaledSpec)

/-- ITS FALSE NEIGHBOUR: 'it returns false'. Refute it at one input. -/
def fnExactScaledWrong : ChangeSpec := { name := "fnExactScaled", fn := fun _ => fun
  | [d1, d2] => { results := [.lit (.bool false)], args := [d1, d2] }
  | _ => none }
def FnExactScaledWrongFalsely : Prop := fnExactScaledRow.holds Try.pinned (OpenSpec.ofChange fnExactScaledWrong)

/-- 'laws.FnExactEvenly': WHATEVER THE INPUT: true; the input reads as it did. -/
def fnExactEvenlySpec : ChangeSpec := { name := "fnExactEvenly", fn := fun _ => fun
  | [d1, d2] => { results := [.lit (.bool true)], args := [d1, d2] }
  | _ => none }
def fnExactEvenlyRow : OpenClaim := { program := "ytohpcjoifeoolaa", sum := "927843f7310f2fb70d7c5e923565f7b5e4e85c53fae20e94cecb2983d7f31ab7", func := "loop.example/g00972/laws.FnExactEvenly", spec := "fnExactEvenly", apart := false }
def FnExactEvenlySaid : Prop := fnExactEvenlyRow.holds Try.pinned (OpenSpec.ofChange fnExactEvenlySpec)

/-- ITS FALSE NEIGHBOUR: 'it returns false'. Refute it at one input. -/
def fnExactEvenlyWrong : ChangeSpec := { name := "fnExactEvenly", fn := fun _ => fun
  | [d1, d2] => { results := [.lit (.bool false)], args := [d1, d2] }
  | _ => none }
def FnExactEvenlyWrongFalsely : Prop := fnExactEvenlyRow.holds Try.pinned (OpenSpec.ofChange fnExactEvenlyWrong)

/-- 'laws.FnExactWanting': WHATEVER THE INPUT: true; the input reads as it did. -/
def fnExactWantingSpec : ChangeSpec := { name := "fnExactWanting", fn := fun _ => fun
  | [d1, d2] => { results := [.lit (.bool true)], args := [d1, d2] }
  | _ => none }
def fnExactWantingRow : OpenClaim := { program := "ytohpcjoifeoolaa", sum := "927843f7310f2fb70d7c5e923565f7b5e4e85c53fae20e94cecb2983d7f31ab7", func := "loop.example/g00972/laws.FnExactWanting", spec := "fnExactWanting", apart := false }
def FnExactWantingSaid : Prop := fnExactWantingRow.holds Try.pinned (OpenSpec.ofChange fnExactWantingSpec)

/-- ITS FALSE NEIGHBOUR: 'it returns false'. Refute it at one input. -/
def fnExactWantingWrong : ChangeSpec := { name := "fnExactWanting", fn := fun _ => fun
  | [d1, d2] => { results := [.lit (.bool false)], args := [d1, d2] }
  | _ => none }
def FnExactWantingWrongFalsely : Prop := fnExactWantingRow.holds Try.pinned (OpenSpec.ofChange fnExactWantingWrong)

/- THE SECOND FORM. 'bulk': how many values and letters a reading holds, each counted each time it is reached (what is shared counts as often as it is met; a slice's spare places count too). A statement '..UptoSaid' is the law's where the arguments, and the package variables that the reading takes, are together of bulk at most 1048576: NARROWER than '..Said'. Prove '..Said' where nothing that the law and all that it calls make is longer than what came in: it says more and counts as full. Else prove '..UptoSaid'. A law counts once. -/
mutual
def uptoBulk {H : Type} : DataW H → Nat
  | .lit (.string bytes) => bytes.length + 1
  | .lit _ => 1
  | .nil => 1
  | .ptr d => uptoBulk d + 1
  | .slice elems spare => uptoBulkAll elems + uptoBulkAll spare + 1
  | .agg parts => uptoBulkAll parts + 1
  | .iface _ d => uptoBulk d + 1
  | .map entries => uptoBulkEntries entries + 1
  | .held _ => 1
def uptoBulkAll {H : Type} : List (DataW H) → Nat
  | [] => 0
  | d :: r => uptoBulk d + uptoBulkAll r
def uptoBulkEntries {H : Type} : List (Lit × DataW H) → Nat
  | [] => 0
  | x :: r => uptoBulkEntry x + uptoBulkEntries r
def uptoBulkEntry {H : Type} : Lit × DataW H → Nat
  | (.string bytes, d) => bytes.length + uptoBulk d + 1
  | (_, d) => uptoBulk d + 1
 end
def uptoSmall : (H : Type) → List (DataW H) → Bool := fun _ ds => decide (uptoBulkAll ds ≤ 1048576)
def OpenSpec.upto (s : _root_.Go.ChangeSpec) : _root_.Go.OpenSpec := { _root_.Go.OpenSpec.ofChange s with cond := some uptoSmall }

/-- 'laws.FnShares', WHERE WHAT IT READS IS OF BULK AT MOST 1048576: true; the input reads as it did. -/
def fnSharesUptoRow : OpenClaim := { program := "ytohpcjoifeoolaa", sum := "927843f7310f2fb70d7c5e923565f7b5e4e85c53fae20e94cecb2983d7f31ab7", func := "loop.example/g00972/laws.FnShares", spec := "fnShares", apart := false, narrowed := true }
def FnSharesUptoSaid : Prop := fnSharesUptoRow.holds Try.pinned (OpenSpec.upto fnSharesSpec)

/-- 'laws.FnEvenly', WHERE WHAT IT READS IS OF BULK AT MOST 1048576: true; the input reads as it did. -/
def fnEvenlyUptoRow : OpenClaim := { program := "ytohpcjoifeoolaa", sum := "927843f7310f2fb70d7c5e923565f7b5e4e85c53fae20e94cecb2983d7f31ab7", func := "loop.example/g00972/laws.FnEvenly", spec := "fnEvenly", apart := false, narrowed := true }
def FnEvenlyUptoSaid : Prop := fnEvenlyUptoRow.holds Try.pinned (OpenSpec.upto fnEvenlySpec)

/-- 'laws.FnExactWeightsOk', WHERE WHAT IT READS IS OF BULK AT MOST 1048576: true; the input reads as it did. -/
def fnExactWeightsOkUptoRow : OpenClaim := { program := "ytohpcjoifeoolaa", sum := "927843f7310f2fb70d7c5e923565f7b5e4e85c53fae20e94cecb2983d7f31ab7", func := "loop.example/g00972/laws.FnExactWeightsOk", spec := "fnExactWeightsOk", apart := false, narrowed := true }
def FnExactWeightsOkUptoSaid : Prop := fnExactWeightsOkUptoRow.holds Try.pinned (OpenSpec.upto fnExactWeightsOkSpec)

/-- 'laws.FnExactShares', WHERE WHAT IT READS IS OF BULK AT MOST 1048576: true; the input reads as it did. -/
def fnExactSharesUptoRow : OpenClaim := { program := "ytohpcjoifeoolaa", sum := "927843f7310f2fb70d7c5e923565f7b5e4e85c53fae20e94cecb2983d7f31ab7", func := "loop.example/g00972/laws.FnExactShares", spec := "fnExactShares", apart := false, narrowed := true }
def FnExactSharesUptoSaid : Prop := fnExactSharesUptoRow.holds Try.pinned (OpenSpec.upto fnExactSharesSpec)

/-- 'laws.FnExactShareAt', WHERE WHAT IT READS IS OF BULK AT MOST 1048576: true; the input reads as it did. -/
def fnExactShareAtUptoRow : OpenClaim := { program := "ytohpcjoifeoolaa", sum := "927843f7310f2fb70d7c5e923565f7b5e4e85c53fae20e94cecb2983d7f31ab7", func := "loop.example/g00972/laws.FnExactShareAt", spec := "fnExactShareAt", apart := false, narrowed := true }
def FnExactShareAtUptoSaid : Prop := fnExactShareAtUptoRow.holds Try.pinned (OpenSpec.upto fnExactShareAtSpec)

/-- 'laws.FnExactScaled', WHERE WHAT IT READS IS OF BULK AT MOST 1048576: true; the input reads as it did. -/
def fnExactScaledUptoRow : OpenClaim := { program := "ytohpcjoifeoolaa", sum := "927843f7310f2fb70d7c5e923565f7b5e4e85c53fae20e94cecb2983d7f31ab7", func := "loop.example/g00972/laws.FnExactScaled", spec := "fnExactScaled", apart := false, narrowed := true }
def FnExactScaledUptoSaid : Prop := fnExactScaledUptoRow.holds Try.pinned (OpenSpec.upto fnExactScaledSpec)

/-- 'laws.FnExactEvenly', WHERE WHAT IT READS IS OF BULK AT MOST 1048576: true; the input reads as it did. -/
def fnExactEvenlyUptoRow : OpenClaim := { program := "ytohpcjoifeoolaa", sum := "927843f7310f2fb70d7c5e923565f7b5e4e85c53fae20e94cecb2983d7f31ab7", func := "loop.example/g00972/laws.FnExactEvenly", spec := "fnExactEvenly", apart := false, narrowed := true }
def FnExactEvenlyUptoSaid : Prop := fnExactEvenlyUptoRow.holds Try.pinned (OpenSpec.upto fnExactEvenlySpec)

/-- 'laws.FnExactWanting', WHERE WHAT IT READS IS OF BULK AT MOST 1048576: true; the input reads as it did. -/
def fnExactWantingUptoRow : OpenClaim := { program := "ytohpcjoifeoolaa", sum := "927843f7310f2fb70d7c5e923565f7b5e4e85c53fae20e94cecb2983d7f31ab7", func := "loop.example/g00972/laws.FnExactWanting", spec := "fnExactWanting", apart := false, narrowed := true }
def FnExactWantingUptoSaid : Prop := fnExactWantingUptoRow.holds Try.pinned (OpenSpec.upto fnExactWantingSpec)

end Rows
end Go.Proofs.Ytohpcjoifeoolaa

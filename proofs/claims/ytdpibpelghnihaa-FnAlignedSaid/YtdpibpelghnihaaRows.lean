/-
  No cell of these rows narrows 'for every input' (looked for: loops, veiled, ifaces, maps, wideKeys, modest, calm, conditions, laid).
  DERIVED. THE GIVEN ROWS OF THIS SEAT. 7 by the template 'for every input the law returns true; each argument reads behind the call as it read before'; 0 by the template 'total and deterministic' (their statements: YtdpibpelghnihaaTotals.lean).
  GIVEN WITH THE SEED: the statements are not yours to turn. If you find one false, say at which input.
  Laid BY PROGRAM, IN A SANDBOX (cutbox-rows.mjs): the forced cells as the released guide's own fill.sh prints them over the translation efe2511d02f07cf2… (all of the seat's roots in one cut). By AI agents, Wed Nov 11 2026. No macro, syntax, notation, axiom, sorry.
-/
import Derived.Test.YtdpibpelghnihaaChecked
import GoSem.Claim
import GoSem.ClaimJoined
import GoSem.ClaimMapViews
import Derived.JoinedTies
import Derived.KernelRfl
namespace Go.Proofs.Ytdpibpelghnihaa
/- THE CELL 'sum', in the pinned program and in every row, IS THE sha256 OF THE DUMP (.gsa) THAT YtdpibpelghnihaaProg.lean LOADS. Nothing in Lean hashes anything: it is a label: what it is worth is what the hold of that sum in a sandbox is worth. -/
noncomputable def Try.pinned : Pinned := { name := "ytdpibpelghnihaa", sum := "efe2511d02f07cf24c87e53abc9b4c2756f689de216d42bc89c67dee6de63c12", checked := Try.checked }
namespace Rows
def none {H : Type} : Left H := { results := [], args := [] }

/-- 'laws.FnAligned': WHATEVER THE INPUT: true; the input reads as it did. -/
def fnAlignedSpec : ChangeSpec := { name := "fnAligned", fn := fun _ => fun
  | [d] => { results := [.lit (.bool true)], args := [d] }
  | _ => none }
def fnAlignedRow : OpenClaim := { program := "ytdpibpelghnihaa", sum := "efe2511d02f07cf24c87e53abc9b4c2756f689de216d42bc89c67dee6de63c12", func := "loop.example/g00972/laws.FnAligned", spec := "fnAligned", unfollowed := true, recurses := true, apart := false }
def FnAlignedSaid : Prop := fnAlignedRow.holds Try.pinned (OpenSpec.ofChange fnAlignedSpec)

/-- ITS FALSE NEIGHBOUR: 'it returns false'. Refute it at one input. -/
def fnAlignedWrong : ChangeSpec := { name := "fnAligned", fn := fun _ => fun
  | [d] => { results := [.lit (.bool false)], args := [d] }
  | _ => none }
def FnAlignedWrongFalsely : Prop := fnAlignedRow.holds Try.pinned (OpenSpec.ofChange fnAlignedWrong)

/-- 'laws.FnExactSideOk': WHATEVER THE INPUT: true; the input reads as it did. -/
def fnExactSideOkSpec : ChangeSpec := { name := "fnExactSideOk", fn := fun _ => fun
  | [d] => { results := [.lit (.bool true)], args := [d] }
  | _ => none }
def fnExactSideOkRow : OpenClaim := { program := "ytdpibpelghnihaa", sum := "efe2511d02f07cf24c87e53abc9b4c2756f689de216d42bc89c67dee6de63c12", func := "loop.example/g00972/laws.FnExactSideOk", spec := "fnExactSideOk", apart := false }
def FnExactSideOkSaid : Prop := fnExactSideOkRow.holds Try.pinned (OpenSpec.ofChange fnExactSideOkSpec)

/-- ITS FALSE NEIGHBOUR: 'it returns false'. Refute it at one input. -/
def fnExactSideOkWrong : ChangeSpec := { name := "fnExactSideOk", fn := fun _ => fun
  | [d] => { results := [.lit (.bool false)], args := [d] }
  | _ => none }
def FnExactSideOkWrongFalsely : Prop := fnExactSideOkRow.holds Try.pinned (OpenSpec.ofChange fnExactSideOkWrong)

/-- 'laws.FnExactOnBase': WHATEVER THE INPUT: true; the input reads as it did. -/
def fnExactOnBaseSpec : ChangeSpec := { name := "fnExactOnBase", fn := fun _ => fun
  | [d] => { results := [.lit (.bool true)], args := [d] }
  | _ => none }
def fnExactOnBaseRow : OpenClaim := { program := "ytdpibpelghnihaa", sum := "efe2511d02f07cf24c87e53abc9b4c2756f689de216d42bc89c67dee6de63c12", func := "loop.example/g00972/laws.FnExactOnBase", spec := "fnExactOnBase", apart := false }
def FnExactOnBaseSaid : Prop := fnExactOnBaseRow.holds Try.pinned (OpenSpec.ofChange fnExactOnBaseSpec)

/-- ITS FALSE NEIGHBOUR: 'it returns false'. Refute it at one input. -/
def fnExactOnBaseWrong : ChangeSpec := { name := "fnExactOnBase", fn := fun _ => fun
  | [d] => { results := [.lit (.bool false)], args := [d] }
  | _ => none }
def FnExactOnBaseWrongFalsely : Prop := fnExactOnBaseRow.holds Try.pinned (OpenSpec.ofChange fnExactOnBaseWrong)

/-- 'laws.FnExactBaseOf': WHATEVER THE INPUT: true; the input reads as it did. -/
def fnExactBaseOfSpec : ChangeSpec := { name := "fnExactBaseOf", fn := fun _ => fun
  | [d] => { results := [.lit (.bool true)], args := [d] }
  | _ => none }
def fnExactBaseOfRow : OpenClaim := { program := "ytdpibpelghnihaa", sum := "efe2511d02f07cf24c87e53abc9b4c2756f689de216d42bc89c67dee6de63c12", func := "loop.example/g00972/laws.FnExactBaseOf", spec := "fnExactBaseOf", apart := false }
def FnExactBaseOfSaid : Prop := fnExactBaseOfRow.holds Try.pinned (OpenSpec.ofChange fnExactBaseOfSpec)

/-- ITS FALSE NEIGHBOUR: 'it returns false'. Refute it at one input. -/
def fnExactBaseOfWrong : ChangeSpec := { name := "fnExactBaseOf", fn := fun _ => fun
  | [d] => { results := [.lit (.bool false)], args := [d] }
  | _ => none }
def FnExactBaseOfWrongFalsely : Prop := fnExactBaseOfRow.holds Try.pinned (OpenSpec.ofChange fnExactBaseOfWrong)

/-- 'laws.FnExactCrossOf': WHATEVER THE INPUT: true; the input reads as it did. -/
def fnExactCrossOfSpec : ChangeSpec := { name := "fnExactCrossOf", fn := fun _ => fun
  | [d] => { results := [.lit (.bool true)], args := [d] }
  | _ => none }
def fnExactCrossOfRow : OpenClaim := { program := "ytdpibpelghnihaa", sum := "efe2511d02f07cf24c87e53abc9b4c2756f689de216d42bc89c67dee6de63c12", func := "loop.example/g00972/laws.FnExactCrossOf", spec := "fnExactCrossOf", unfollowed := true, recurses := true, apart := false }
def FnExactCrossOfSaid : Prop := fnExactCrossOfRow.holds Try.pinned (OpenSpec.ofChange fnExactCrossOfSpec)

/-- ITS FALSE NEIGHBOUR: 'it returns false'. Refute it at one input. -/
def fnExactCrossOfWrong : ChangeSpec := { name := "fnExactCrossOf", fn := fun _ => fun
  | [d] => { results := [.lit (.bool false)], args := [d] }
  | _ => none }
def FnExactCrossOfWrongFalsely : Prop := fnExactCrossOfRow.holds Try.pinned (OpenSpec.ofChange fnExactCrossOfWrong)

/-- 'laws.FnExactPlaceAcross': WHATEVER THE INPUT: true; the input reads as it did. -/
def fnExactPlaceAcrossSpec : ChangeSpec := { name := "fnExactPlaceAcross", fn := fun _ => fun
  | [d1, d2, d3] => { results := [.lit (.bool true)], args := [d1, d2, d3] }
  | _ => none }
def fnExactPlaceAcrossRow : OpenClaim := { program := "ytdpibpelghnihaa", sum := "efe2511d02f07cf24c87e53abc9b4c2756f689de216d42bc89c67dee6de63c12", func := "loop.example/g00972/laws.FnExactPlaceAcross", spec := "fnExactPlaceAcross", unfollowed := true, recurses := true, apart := false }
def FnExactPlaceAcrossSaid : Prop := fnExactPlaceAcrossRow.holds Try.pinned (OpenSpec.ofChange fnExactPlaceAcrossSpec)

/-- ITS FALSE NEIGHBOUR: 'it returns false'. Refute it at one input. -/
def fnExactPlaceAcrossWrong : ChangeSpec := { name := "fnExactPlaceAcross", fn := fun _ => fun
  | [d1, d2, d3] => { results := [.lit (.bool false)], args := [d1, d2, d3] }
  | _ => none }
def FnExactPlaceAcrossWrongFalsely : Prop := fnExactPlaceAcrossRow.holds Try.pinned (OpenSpec.ofChange fnExactPlaceAcrossWrong)

/-- 'laws.FnExactFills': WHATEVER THE INPUT: true; the input reads as it did. -/
def fnExactFillsSpec : ChangeSpec := { name := "fnExactFills", fn := fun _ => fun
  | [d] => { results := [.lit (.bool true)], args := [d] }
  | _ => none }
def fnExactFillsRow : OpenClaim := { program := "ytdpibpelghnihaa", sum := "efe2511d02f07cf24c87e53abc9b4c2756f689de216d42bc89c67dee6de63c12", func := "loop.example/g00972/laws.FnExactFills", spec := "fnExactFills", apart := false }
def FnExactFillsSaid : Prop := fnExactFillsRow.holds Try.pinned (OpenSpec.ofChange fnExactFillsSpec)

/-- ITS FALSE NEIGHBOUR: 'it returns false'. Refute it at one input. -/
def fnExactFillsWrong : ChangeSpec := { name := "fnExactFills", fn := fun _ => fun
  | [d] => { results := [.lit (.bool false)], args := [d] }
  | _ => none }
def FnExactFillsWrongFalsely : Prop := fnExactFillsRow.holds Try.pinned (OpenSpec.ofChange fnExactFillsWrong)

/- THE SECOND FORM. 'bulk': how many values and letters a reading holds, each counted each time it is reached (what is shared counts as often as it is met; a slice's spare places count too). A statement '..UptoSaid' is the law's where the arguments, and the package variables that the reading takes, are together of bulk at most 1048576: NARROWER than '..Said'. Prove '..Said' where nothing that the law and all that it calls make is longer than what came in: it says more and counts as full. Else prove '..UptoSaid'. A law counts once. -/
mutual
def uptoBulk {H : Type} : DataW H → Nat
  | .lit (.string bytes) => bytes.length + 1
  | .lit _ => 1
  | .nil => 1
  | .ptr d => uptoBulk d + 1
  | .slice elems spare => uptoBulkAll elems + uptoBulkAll spare + 1
  | .agg parts => uptoBulkAll parts + 1
  | .iface _ d => uptoBulk d + 1
  | .map entries => uptoBulkEntries entries + 1
  | .held _ => 1
def uptoBulkAll {H : Type} : List (DataW H) → Nat
  | [] => 0
  | d :: r => uptoBulk d + uptoBulkAll r
def uptoBulkEntries {H : Type} : List (Lit × DataW H) → Nat
  | [] => 0
  | x :: r => uptoBulkEntry x + uptoBulkEntries r
def uptoBulkEntry {H : Type} : Lit × DataW H → Nat
  | (.string bytes, d) => bytes.length + uptoBulk d + 1
  | (_, d) => uptoBulk d + 1
 end
def uptoSmall : (H : Type) → List (DataW H) → Bool := fun _ ds => decide (uptoBulkAll ds ≤ 1048576)
def OpenSpec.upto (s : _root_.Go.ChangeSpec) : _root_.Go.OpenSpec := { _root_.Go.OpenSpec.ofChange s with cond := some uptoSmall }

/-- 'laws.FnAligned', WHERE WHAT IT READS IS OF BULK AT MOST 1048576: true; the input reads as it did. -/
def fnAlignedUptoRow : OpenClaim := { program := "ytdpibpelghnihaa", sum := "efe2511d02f07cf24c87e53abc9b4c2756f689de216d42bc89c67dee6de63c12", func := "loop.example/g00972/laws.FnAligned", spec := "fnAligned", unfollowed := true, recurses := true, apart := false, narrowed := true }
def FnAlignedUptoSaid : Prop := fnAlignedUptoRow.holds Try.pinned (OpenSpec.upto fnAlignedSpec)

/-- 'laws.FnExactSideOk', WHERE WHAT IT READS IS OF BULK AT MOST 1048576: true; the input reads as it did. -/
def fnExactSideOkUptoRow : OpenClaim := { program := "ytdpibpelghnihaa", sum := "efe2511d02f07cf24c87e53abc9b4c2756f689de216d42bc89c67dee6de63c12", func := "loop.example/g00972/laws.FnExactSideOk", spec := "fnExactSideOk", apart := false, narrowed := true }
def FnExactSideOkUptoSaid : Prop := fnExactSideOkUptoRow.holds Try.pinned (OpenSpec.upto fnExactSideOkSpec)

/-- 'laws.FnExactOnBase', WHERE WHAT IT READS IS OF BULK AT MOST 1048576: true; the input reads as it did. -/
def fnExactOnBaseUptoRow : OpenClaim := { program := "ytdpibpelghnihaa", sum := "efe2511d02f07cf24c87e53abc9b4c2756f689de216d42bc89c67dee6de63c12", func := "loop.example/g00972/laws.FnExactOnBase", spec := "fnExactOnBase", apart := false, narrowed := true }
def FnExactOnBaseUptoSaid : Prop := fnExactOnBaseUptoRow.holds Try.pinned (OpenSpec.upto fnExactOnBaseSpec)

/-- 'laws.FnExactBaseOf', WHERE WHAT IT READS IS OF BULK AT MOST 1048576: true; the input reads as it did. -/
def fnExactBaseOfUptoRow : OpenClaim := { program := "ytdpibpelghnihaa", sum := "efe2511d02f07cf24c87e53abc9b4c2756f689de216d42bc89c67dee6de63c12", func := "loop.example/g00972/laws.FnExactBaseOf", spec := "fnExactBaseOf", apart := false, narrowed := true }
def FnExactBaseOfUptoSaid : Prop := fnExactBaseOfUptoRow.holds Try.pinned (OpenSpec.upto fnExactBaseOfSpec)

/-- 'laws.FnExactCrossOf', WHERE WHAT IT READS IS OF BULK AT MOST 1048576: true; the input reads as it did. -/
def fnExactCrossOfUptoRow : OpenClaim := { program := "ytdpibpelghnihaa", sum := "efe2511d02f07cf24c87e53abc9b4c2756f689de216d42bc89c67dee6de63c12", func := "loop.example/g00972/laws.FnExactCrossOf", spec := "fnExactCrossOf", unfollowed := true, recurses := true, apart := false, narrowed := true }
def FnExactCrossOfUptoSaid : Prop := fnExactCrossOfUptoRow.holds Try.pinned (OpenSpec.upto fnExactCrossOfSpec)

/-- 'laws.FnExactPlaceAcross', WHERE WHAT IT READS IS OF BULK AT MOST 1048576: true; the input reads as it did. -/
def fnExactPlaceAcrossUptoRow : OpenClaim := { program := "ytdpibpelghnihaa", sum := "efe2511d02f07cf24c87e53abc9b4c2756f689de216d42bc89c67dee6de63c12", func := "loop.example/g00972/laws.FnExactPlaceAcross", spec := "fnExactPlaceAcross", unfollowed := true, recurses := true, apart := false, narrowed := true }
def FnExactPlaceAcrossUptoSaid : Prop := fnExactPlaceAcrossUptoRow.holds Try.pinned (OpenSpec.upto fnExactPlaceAcrossSpec)

/-- 'laws.FnExactFills', WHERE WHAT IT READS IS OF BULK AT MOST 1048576: true; the input reads as it did. -/
def fnExactFillsUptoRow : OpenClaim := { program := "ytdpibpelghnihaa", sum := "efe2511d02f07cf24c87e53abc9b4c2756f689de216d42bc89c67dee6de63c12", func := "loop.example/g00972/laws.FnExactFills", spec := "fnExactFills", apart := false, narrowed := true }
def FnExactFillsUptoSaid : Prop := fnExactFillsUptoRow.holds Try.pinned (OpenSpec.upto fnExactFillsSpec)

end Rows
end Go.Proofs.Ytdpibpelghnihaa

/-
  No cell of these rows narrows 'for every input' (looked for: loops, veiled, ifaces, maps, wideKeys, modest, calm, conditions, laid).
  DERIVED. THE GIVEN ROWS OF THIS SEAT. 9 by the template 'for every input the law returns true; each argument reads behind the call as it read before'; 0 by the template 'total and deterministic' (their statements: YtnncdpkmhpjmbaaTotals.lean).
  GIVEN WITH THE SEED: the statements are not yours to turn. If you find one false, say at which input.
  Laid BY PROGRAM, IN A SANDBOX (cutbox-rows.mjs): the forced cells as the released guide's own fill.sh prints them over the translation d73682399352bcd4… (all of the seat's roots in one cut). By AI agents, Wed Nov 11 2026. No macro, syntax, notation, axiom, sorry.
-/
import Derived.Test.YtnncdpkmhpjmbaaChecked
import GoSem.Claim
import GoSem.ClaimJoined
import GoSem.ClaimMapViews
import Derived.JoinedTies
import Derived.KernelRfl
namespace Go.Proofs.Ytnncdpkmhpjmbaa
/- THE CELL 'sum', in the pinned program and in every row, IS THE sha256 OF THE DUMP (.gsa) THAT YtnncdpkmhpjmbaaProg.lean LOADS. Nothing in Lean hashes anything: it is a label: what it is worth is what the hold of that sum in a sandbox is worth. -/
noncomputable def Try.pinned : Pinned := { name := "ytnncdpkmhpjmbaa", sum := "d73682399352bcd4daba2ac7be573de5c77a65d48fa9fde5777654c1d93f94be", checked := Try.checked }
namespace Rows
def none {H : Type} : Left H := { results := [], args := [] }

/-- 'laws.FnAcross': WHATEVER THE INPUT: true; the input reads as it did. -/
def fnAcrossSpec : ChangeSpec := { name := "fnAcross", fn := fun _ => fun
  | [d] => { results := [.lit (.bool true)], args := [d] }
  | _ => none }
def fnAcrossRow : OpenClaim := { program := "ytnncdpkmhpjmbaa", sum := "d73682399352bcd4daba2ac7be573de5c77a65d48fa9fde5777654c1d93f94be", func := "loop.example/g00972/laws.FnAcross", spec := "fnAcross", unfollowed := true, recurses := true, apart := false }
def FnAcrossSaid : Prop := fnAcrossRow.holds Try.pinned (OpenSpec.ofChange fnAcrossSpec)

/-- ITS FALSE NEIGHBOUR: 'it returns false'. Refute it at one input. -/
def fnAcrossWrong : ChangeSpec := { name := "fnAcross", fn := fun _ => fun
  | [d] => { results := [.lit (.bool false)], args := [d] }
  | _ => none }
def FnAcrossWrongFalsely : Prop := fnAcrossRow.holds Try.pinned (OpenSpec.ofChange fnAcrossWrong)

/-- 'laws.FnExactStretchLines': WHATEVER THE INPUT: true; the input reads as it did. -/
def fnExactStretchLinesSpec : ChangeSpec := { name := "fnExactStretchLines", fn := fun _ => fun
  | [d1, d2, d3, d4] => { results := [.lit (.bool true)], args := [d1, d2, d3, d4] }
  | _ => none }
def fnExactStretchLinesRow : OpenClaim := { program := "ytnncdpkmhpjmbaa", sum := "d73682399352bcd4daba2ac7be573de5c77a65d48fa9fde5777654c1d93f94be", func := "loop.example/g00972/laws.FnExactStretchLines", spec := "fnExactStretchLines", apart := false }
def FnExactStretchLinesSaid : Prop := fnExactStretchLinesRow.holds Try.pinned (OpenSpec.ofChange fnExactStretchLinesSpec)

/-- ITS FALSE NEIGHBOUR: 'it returns false'. Refute it at one input. -/
def fnExactStretchLinesWrong : ChangeSpec := { name := "fnExactStretchLines", fn := fun _ => fun
  | [d1, d2, d3, d4] => { results := [.lit (.bool false)], args := [d1, d2, d3, d4] }
  | _ => none }
def FnExactStretchLinesWrongFalsely : Prop := fnExactStretchLinesRow.holds Try.pinned (OpenSpec.ofChange fnExactStretchLinesWrong)

/-- 'laws.FnExactPlaceLines': WHATEVER THE INPUT: true; the input reads as it did. -/
def fnExactPlaceLinesSpec : ChangeSpec := { name := "fnExactPlaceLines", fn := fun _ => fun
  | [d1, d2, d3, d4] => { results := [.lit (.bool true)], args := [d1, d2, d3, d4] }
  | _ => none }
def fnExactPlaceLinesRow : OpenClaim := { program := "ytnncdpkmhpjmbaa", sum := "d73682399352bcd4daba2ac7be573de5c77a65d48fa9fde5777654c1d93f94be", func := "loop.example/g00972/laws.FnExactPlaceLines", spec := "fnExactPlaceLines", unfollowed := true, recurses := true, apart := false }
def FnExactPlaceLinesSaid : Prop := fnExactPlaceLinesRow.holds Try.pinned (OpenSpec.ofChange fnExactPlaceLinesSpec)

/-- ITS FALSE NEIGHBOUR: 'it returns false'. Refute it at one input. -/
def fnExactPlaceLinesWrong : ChangeSpec := { name := "fnExactPlaceLines", fn := fun _ => fun
  | [d1, d2, d3, d4] => { results := [.lit (.bool false)], args := [d1, d2, d3, d4] }
  | _ => none }
def FnExactPlaceLinesWrongFalsely : Prop := fnExactPlaceLinesRow.holds Try.pinned (OpenSpec.ofChange fnExactPlaceLinesWrong)

/-- 'laws.FnExactCrossTotal': WHATEVER THE INPUT: true; the input reads as it did. -/
def fnExactCrossTotalSpec : ChangeSpec := { name := "fnExactCrossTotal", fn := fun _ => fun
  | [d1, d2] => { results := [.lit (.bool true)], args := [d1, d2] }
  | _ => none }
def fnExactCrossTotalRow : OpenClaim := { program := "ytnncdpkmhpjmbaa", sum := "d73682399352bcd4daba2ac7be573de5c77a65d48fa9fde5777654c1d93f94be", func := "loop.example/g00972/laws.FnExactCrossTotal", spec := "fnExactCrossTotal", apart := false }
def FnExactCrossTotalSaid : Prop := fnExactCrossTotalRow.holds Try.pinned (OpenSpec.ofChange fnExactCrossTotalSpec)

/-- ITS FALSE NEIGHBOUR: 'it returns false'. Refute it at one input. -/
def fnExactCrossTotalWrong : ChangeSpec := { name := "fnExactCrossTotal", fn := fun _ => fun
  | [d1, d2] => { results := [.lit (.bool false)], args := [d1, d2] }
  | _ => none }
def FnExactCrossTotalWrongFalsely : Prop := fnExactCrossTotalRow.holds Try.pinned (OpenSpec.ofChange fnExactCrossTotalWrong)

/-- 'laws.FnExactAcrossOk': WHATEVER THE INPUT: true; the input reads as it did. -/
def fnExactAcrossOkSpec : ChangeSpec := { name := "fnExactAcrossOk", fn := fun _ => fun
  | [d1, d2, d3] => { results := [.lit (.bool true)], args := [d1, d2, d3] }
  | _ => none }
def fnExactAcrossOkRow : OpenClaim := { program := "ytnncdpkmhpjmbaa", sum := "d73682399352bcd4daba2ac7be573de5c77a65d48fa9fde5777654c1d93f94be", func := "loop.example/g00972/laws.FnExactAcrossOk", spec := "fnExactAcrossOk", apart := false }
def FnExactAcrossOkSaid : Prop := fnExactAcrossOkRow.holds Try.pinned (OpenSpec.ofChange fnExactAcrossOkSpec)

/-- ITS FALSE NEIGHBOUR: 'it returns false'. Refute it at one input. -/
def fnExactAcrossOkWrong : ChangeSpec := { name := "fnExactAcrossOk", fn := fun _ => fun
  | [d1, d2, d3] => { results := [.lit (.bool false)], args := [d1, d2, d3] }
  | _ => none }
def FnExactAcrossOkWrongFalsely : Prop := fnExactAcrossOkRow.holds Try.pinned (OpenSpec.ofChange fnExactAcrossOkWrong)

/-- 'laws.FnAlong': WHATEVER THE INPUT: true; the input reads as it did. -/
def fnAlongSpec : ChangeSpec := { name := "fnAlong", fn := fun _ => fun
  | [d] => { results := [.lit (.bool true)], args := [d] }
  | _ => none }
def fnAlongRow : OpenClaim := { program := "ytnncdpkmhpjmbaa", sum := "d73682399352bcd4daba2ac7be573de5c77a65d48fa9fde5777654c1d93f94be", func := "loop.example/g00972/laws.FnAlong", spec := "fnAlong", unfollowed := true, recurses := true, apart := false }
def FnAlongSaid : Prop := fnAlongRow.holds Try.pinned (OpenSpec.ofChange fnAlongSpec)

/-- ITS FALSE NEIGHBOUR: 'it returns false'. Refute it at one input. -/
def fnAlongWrong : ChangeSpec := { name := "fnAlong", fn := fun _ => fun
  | [d] => { results := [.lit (.bool false)], args := [d] }
  | _ => none }
def FnAlongWrongFalsely : Prop := fnAlongRow.holds Try.pinned (OpenSpec.ofChange fnAlongWrong)

/-- 'laws.FnMiddle': WHATEVER THE INPUT: true; the input reads as it did. -/
def fnMiddleSpec : ChangeSpec := { name := "fnMiddle", fn := fun _ => fun
  | [d] => { results := [.lit (.bool true)], args := [d] }
  | _ => none }
def fnMiddleRow : OpenClaim := { program := "ytnncdpkmhpjmbaa", sum := "d73682399352bcd4daba2ac7be573de5c77a65d48fa9fde5777654c1d93f94be", func := "loop.example/g00972/laws.FnMiddle", spec := "fnMiddle", unfollowed := true, recurses := true, apart := false }
def FnMiddleSaid : Prop := fnMiddleRow.holds Try.pinned (OpenSpec.ofChange fnMiddleSpec)

/-- ITS FALSE NEIGHBOUR: 'it returns false'. Refute it at one input. -/
def fnMiddleWrong : ChangeSpec := { name := "fnMiddle", fn := fun _ => fun
  | [d] => { results := [.lit (.bool false)], args := [d] }
  | _ => none }
def FnMiddleWrongFalsely : Prop := fnMiddleRow.holds Try.pinned (OpenSpec.ofChange fnMiddleWrong)

/-- 'laws.FnExactPlacesAlong': WHATEVER THE INPUT: true; the input reads as it did. -/
def fnExactPlacesAlongSpec : ChangeSpec := { name := "fnExactPlacesAlong", fn := fun _ => fun
  | [d1, d2, d3, d4, d5] => { results := [.lit (.bool true)], args := [d1, d2, d3, d4, d5] }
  | _ => none }
def fnExactPlacesAlongRow : OpenClaim := { program := "ytnncdpkmhpjmbaa", sum := "d73682399352bcd4daba2ac7be573de5c77a65d48fa9fde5777654c1d93f94be", func := "loop.example/g00972/laws.FnExactPlacesAlong", spec := "fnExactPlacesAlong", unfollowed := true, recurses := true, apart := false }
def FnExactPlacesAlongSaid : Prop := fnExactPlacesAlongRow.holds Try.pinned (OpenSpec.ofChange fnExactPlacesAlongSpec)

/-- ITS FALSE NEIGHBOUR: 'it returns false'. Refute it at one input. -/
def fnExactPlacesAlongWrong : ChangeSpec := { name := "fnExactPlacesAlong", fn := fun _ => fun
  | [d1, d2, d3, d4, d5] => { results := [.lit (.bool false)], args := [d1, d2, d3, d4, d5] }
  | _ => none }
def FnExactPlacesAlongWrongFalsely : Prop := fnExactPlacesAlongRow.holds Try.pinned (OpenSpec.ofChange fnExactPlacesAlongWrong)

/-- 'laws.FnExactEndsAlong': WHATEVER THE INPUT: true; the input reads as it did. -/
def fnExactEndsAlongSpec : ChangeSpec := { name := "fnExactEndsAlong", fn := fun _ => fun
  | [d1, d2, d3, d4, d5] => { results := [.lit (.bool true)], args := [d1, d2, d3, d4, d5] }
  | _ => none }
def fnExactEndsAlongRow : OpenClaim := { program := "ytnncdpkmhpjmbaa", sum := "d73682399352bcd4daba2ac7be573de5c77a65d48fa9fde5777654c1d93f94be", func := "loop.example/g00972/laws.FnExactEndsAlong", spec := "fnExactEndsAlong", unfollowed := true, recurses := true, apart := false }
def FnExactEndsAlongSaid : Prop := fnExactEndsAlongRow.holds Try.pinned (OpenSpec.ofChange fnExactEndsAlongSpec)

/-- ITS FALSE NEIGHBOUR: 'it returns false'. Refute it at one input. -/
def fnExactEndsAlongWrong : ChangeSpec := { name := "fnExactEndsAlong", fn := fun _ => fun
  | [d1, d2, d3, d4, d5] => { results := [.lit (.bool false)], args := [d1, d2, d3, d4, d5] }
  | _ => none }
def FnExactEndsAlongWrongFalsely : Prop := fnExactEndsAlongRow.holds Try.pinned (OpenSpec.ofChange fnExactEndsAlongWrong)

/- THE SECOND FORM. 'bulk': how many values and letters a reading holds, each counted each time it is reached (what is shared counts as often as it is met; a slice's spare places count too). A statement '..UptoSaid' is the law's where the arguments, and the package variables that the reading takes, are together of bulk at most 1048576: NARROWER than '..Said'. Prove '..Said' where nothing that the law and all that it calls make is longer than what came in: it says more and counts as full. Else prove '..UptoSaid'. A law counts once. -/
mutual
def uptoBulk {H : Type} : DataW H → Nat
  | .lit (.string bytes) => bytes.length + 1
  | .lit _ => 1
  | .nil => 1
  | .ptr d => uptoBulk d + 1
  | .slice elems spare => uptoBulkAll elems + uptoBulkAll spare + 1
  | .agg parts => uptoBulkAll parts + 1
  | .iface _ d => uptoBulk d + 1
  | .map entries => uptoBulkEntries entries + 1
  | .held _ => 1
def uptoBulkAll {H : Type} : List (DataW H) → Nat
  | [] => 0
  | d :: r => uptoBulk d + uptoBulkAll r
def uptoBulkEntries {H : Type} : List (Lit × DataW H) → Nat
  | [] => 0
  | x :: r => uptoBulkEntry x + uptoBulkEntries r
def uptoBulkEntry {H : Type} : Lit × DataW H → Nat
  | (.string bytes, d) => bytes.length + uptoBulk d + 1
  | (_, d) => uptoBulk d + 1
 end
def uptoSmall : (H : Type) → List (DataW H) → Bool := fun _ ds => decide (uptoBulkAll ds ≤ 1048576)
def OpenSpec.upto (s : _root_.Go.ChangeSpec) : _root_.Go.OpenSpec := { _root_.Go.OpenSpec.ofChange s with cond := some uptoSmall }

/-- 'laws.FnAcross', WHERE WHAT IT READS IS OF BULK AT MOST 1048576: true; the input reads as it did. -/
def fnAcrossUptoRow : OpenClaim := { program := "ytnncdpkmhpjmbaa", sum := "d73682399352bcd4daba2ac7be573de5c77a65d48fa9fde5777654c1d93f94be", func := "loop.example/g00972/laws.FnAcross", spec := "fnAcross", unfollowed := true, recurses := true, apart := false, narrowed := true }
def FnAcrossUptoSaid : Prop := fnAcrossUptoRow.holds Try.pinned (OpenSpec.upto fnAcrossSpec)

/-- 'laws.FnExactStretchLines', WHERE WHAT IT READS IS OF BULK AT MOST 1048576: true; the input reads as it did. -/
def fnExactStretchLinesUptoRow : OpenClaim := { program := "ytnncdpkmhpjmbaa", sum := "d73682399352bcd4daba2ac7be573de5c77a65d48fa9fde5777654c1d93f94be", func := "loop.example/g00972/laws.FnExactStretchLines", spec := "fnExactStretchLines", apart := false, narrowed := true }
def FnExactStretchLinesUptoSaid : Prop := fnExactStretchLinesUptoRow.holds Try.pinned (OpenSpec.upto fnExactStretchLinesSpec)

/-- 'laws.FnExactPlaceLines', WHERE WHAT IT READS IS OF BULK AT MOST 1048576: true; the input reads as it did. -/
def fnExactPlaceLinesUptoRow : OpenClaim := { program := "ytnncdpkmhpjmbaa", sum := "d73682399352bcd4daba2ac7be573de5c77a65d48fa9fde5777654c1d93f94be", func := "loop.example/g00972/laws.FnExactPlaceLines", spec := "fnExactPlaceLines", unfollowed := true, recurses := true, apart := false, narrowed := true }
def FnExactPlaceLinesUptoSaid : Prop := fnExactPlaceLinesUptoRow.holds Try.pinned (OpenSpec.upto fnExactPlaceLinesSpec)

/-- 'laws.FnExactCrossTotal', WHERE WHAT IT READS IS OF BULK AT MOST 1048576: true; the input reads as it did. -/
def fnExactCrossTotalUptoRow : OpenClaim := { program := "ytnncdpkmhpjmbaa", sum := "d73682399352bcd4daba2ac7be573de5c77a65d48fa9fde5777654c1d93f94be", func := "loop.example/g00972/laws.FnExactCrossTotal", spec := "fnExactCrossTotal", apart := false, narrowed := true }
def FnExactCrossTotalUptoSaid : Prop := fnExactCrossTotalUptoRow.holds Try.pinned (OpenSpec.upto fnExactCrossTotalSpec)

/-- 'laws.FnExactAcrossOk', WHERE WHAT IT READS IS OF BULK AT MOST 1048576: true; the input reads as it did. -/
def fnExactAcrossOkUptoRow : OpenClaim := { program := "ytnncdpkmhpjmbaa", sum := "d73682399352bcd4daba2ac7be573de5c77a65d48fa9fde5777654c1d93f94be", func := "loop.example/g00972/laws.FnExactAcrossOk", spec := "fnExactAcrossOk", apart := false, narrowed := true }
def FnExactAcrossOkUptoSaid : Prop := fnExactAcrossOkUptoRow.holds Try.pinned (OpenSpec.upto fnExactAcrossOkSpec)

/-- 'laws.FnAlong', WHERE WHAT IT READS IS OF BULK AT MOST 1048576: true; the input reads as it did. -/
def fnAlongUptoRow : OpenClaim := { program := "ytnncdpkmhpjmbaa", sum := "d73682399352bcd4daba2ac7be573de5c77a65d48fa9fde5777654c1d93f94be", func := "loop.example/g00972/laws.FnAlong", spec := "fnAlong", unfollowed := true, recurses := true, apart := false, narrowed := true }
def FnAlongUptoSaid : Prop := fnAlongUptoRow.holds Try.pinned (OpenSpec.upto fnAlongSpec)

/-- 'laws.FnMiddle', WHERE WHAT IT READS IS OF BULK AT MOST 1048576: true; the input reads as it did. -/
def fnMiddleUptoRow : OpenClaim := { program := "ytnncdpkmhpjmbaa", sum := "d73682399352bcd4daba2ac7be573de5c77a65d48fa9fde5777654c1d93f94be", func := "loop.example/g00972/laws.FnMiddle", spec := "fnMiddle", unfollowed := true, recurses := true, apart := false, narrowed := true }
def FnMiddleUptoSaid : Prop := fnMiddleUptoRow.holds Try.pinned (OpenSpec.upto fnMiddleSpec)

/-- 'laws.FnExactPlacesAlong', WHERE WHAT IT READS IS OF BULK AT MOST 1048576: true; the input reads as it did. -/
def fnExactPlacesAlongUptoRow : OpenClaim := { program := "ytnncdpkmhpjmbaa", sum := "d73682399352bcd4daba2ac7be573de5c77a65d48fa9fde5777654c1d93f94be", func := "loop.example/g00972/laws.FnExactPlacesAlong", spec := "fnExactPlacesAlong", unfollowed := true, recurses := true, apart := false, narrowed := true }
def FnExactPlacesAlongUptoSaid : Prop := fnExactPlacesAlongUptoRow.holds Try.pinned (OpenSpec.upto fnExactPlacesAlongSpec)

/-- 'laws.FnExactEndsAlong', WHERE WHAT IT READS IS OF BULK AT MOST 1048576: true; the input reads as it did. -/
def fnExactEndsAlongUptoRow : OpenClaim := { program := "ytnncdpkmhpjmbaa", sum := "d73682399352bcd4daba2ac7be573de5c77a65d48fa9fde5777654c1d93f94be", func := "loop.example/g00972/laws.FnExactEndsAlong", spec := "fnExactEndsAlong", unfollowed := true, recurses := true, apart := false, narrowed := true }
def FnExactEndsAlongUptoSaid : Prop := fnExactEndsAlongUptoRow.holds Try.pinned (OpenSpec.upto fnExactEndsAlongSpec)

end Rows
end Go.Proofs.Ytnncdpkmhpjmbaa

/-
  No cell of these rows narrows 'for every input' (looked for: loops, veiled, ifaces, maps, wideKeys, modest, calm, conditions, laid).
  DERIVED. THE GIVEN ROWS OF THIS SEAT. 9 by the template 'for every input the law returns true; each argument reads behind the call as it read before'; 0 by the template 'total and deterministic' (their statements: YtcnmchcleghcgaaTotals.lean).
  GIVEN WITH THE SEED: the statements are not yours to turn. If you find one false, say at which input.
  Laid BY PROGRAM, IN A SANDBOX (cutbox-rows.mjs): the forced cells as the released guide's own fill.sh prints them over the translation 0b1028816524feb7… (all of the seat's roots in one cut). By AI agents, Wed Nov 11 2026. No macro, syntax, notation, axiom, sorry.
-/
import Derived.Test.YtcnmchcleghcgaaChecked
import GoSem.Claim
import GoSem.ClaimJoined
import GoSem.ClaimMapViews
import Derived.JoinedTies
import Derived.KernelRfl
namespace Go.Proofs.Ytcnmchcleghcgaa
/- THE CELL 'sum', in the pinned program and in every row, IS THE sha256 OF THE DUMP (.gsa) THAT YtcnmchcleghcgaaProg.lean LOADS. Nothing in Lean hashes anything: it is a label: what it is worth is what the hold of that sum in a sandbox is worth. -/
noncomputable def Try.pinned : Pinned := { name := "ytcnmchcleghcgaa", sum := "0b1028816524feb748ea02c30f1f62140780502f3d6b5df0c7ef790d114cea62", checked := Try.checked }
namespace Rows
def none {H : Type} : Left H := { results := [], args := [] }

/-- 'laws.FnAlong': WHATEVER THE INPUT: true; the input reads as it did. -/
def fnAlongSpec : ChangeSpec := { name := "fnAlong", fn := fun _ => fun
  | [d] => { results := [.lit (.bool true)], args := [d] }
  | _ => none }
def fnAlongRow : OpenClaim := { program := "ytcnmchcleghcgaa", sum := "0b1028816524feb748ea02c30f1f62140780502f3d6b5df0c7ef790d114cea62", func := "loop.example/g00972/laws.FnAlong", spec := "fnAlong", unfollowed := true, recurses := true, apart := false }
def FnAlongSaid : Prop := fnAlongRow.holds Try.pinned (OpenSpec.ofChange fnAlongSpec)

/-- ITS FALSE NEIGHBOUR: 'it returns false'. Refute it at one input. -/
def fnAlongWrong : ChangeSpec := { name := "fnAlong", fn := fun _ => fun
  | [d] => { results := [.lit (.bool false)], args := [d] }
  | _ => none }
def FnAlongWrongFalsely : Prop := fnAlongRow.holds Try.pinned (OpenSpec.ofChange fnAlongWrong)

/-- 'laws.FnLead': WHATEVER THE INPUT: true; the input reads as it did. -/
def fnLeadSpec : ChangeSpec := { name := "fnLead", fn := fun _ => fun
  | [d] => { results := [.lit (.bool true)], args := [d] }
  | _ => none }
def fnLeadRow : OpenClaim := { program := "ytcnmchcleghcgaa", sum := "0b1028816524feb748ea02c30f1f62140780502f3d6b5df0c7ef790d114cea62", func := "loop.example/g00972/laws.FnLead", spec := "fnLead", apart := false }
def FnLeadSaid : Prop := fnLeadRow.holds Try.pinned (OpenSpec.ofChange fnLeadSpec)

/-- ITS FALSE NEIGHBOUR: 'it returns false'. Refute it at one input. -/
def fnLeadWrong : ChangeSpec := { name := "fnLead", fn := fun _ => fun
  | [d] => { results := [.lit (.bool false)], args := [d] }
  | _ => none }
def FnLeadWrongFalsely : Prop := fnLeadRow.holds Try.pinned (OpenSpec.ofChange fnLeadWrong)

/-- 'laws.FnMiddle': WHATEVER THE INPUT: true; the input reads as it did. -/
def fnMiddleSpec : ChangeSpec := { name := "fnMiddle", fn := fun _ => fun
  | [d] => { results := [.lit (.bool true)], args := [d] }
  | _ => none }
def fnMiddleRow : OpenClaim := { program := "ytcnmchcleghcgaa", sum := "0b1028816524feb748ea02c30f1f62140780502f3d6b5df0c7ef790d114cea62", func := "loop.example/g00972/laws.FnMiddle", spec := "fnMiddle", unfollowed := true, recurses := true, apart := false }
def FnMiddleSaid : Prop := fnMiddleRow.holds Try.pinned (OpenSpec.ofChange fnMiddleSpec)

/-- ITS FALSE NEIGHBOUR: 'it returns false'. Refute it at one input. -/
def fnMiddleWrong : ChangeSpec := { name := "fnMiddle", fn := fun _ => fun
  | [d] => { results := [.lit (.bool false)], args := [d] }
  | _ => none }
def FnMiddleWrongFalsely : Prop := fnMiddleRow.holds Try.pinned (OpenSpec.ofChange fnMiddleWrong)

/-- 'laws.FnExactLeadOf': WHATEVER THE INPUT: true; the input reads as it did. -/
def fnExactLeadOfSpec : ChangeSpec := { name := "fnExactLeadOf", fn := fun _ => fun
  | [d1, d2, d3] => { results := [.lit (.bool true)], args := [d1, d2, d3] }
  | _ => none }
def fnExactLeadOfRow : OpenClaim := { program := "ytcnmchcleghcgaa", sum := "0b1028816524feb748ea02c30f1f62140780502f3d6b5df0c7ef790d114cea62", func := "loop.example/g00972/laws.FnExactLeadOf", spec := "fnExactLeadOf", apart := false }
def FnExactLeadOfSaid : Prop := fnExactLeadOfRow.holds Try.pinned (OpenSpec.ofChange fnExactLeadOfSpec)

/-- ITS FALSE NEIGHBOUR: 'it returns false'. Refute it at one input. -/
def fnExactLeadOfWrong : ChangeSpec := { name := "fnExactLeadOf", fn := fun _ => fun
  | [d1, d2, d3] => { results := [.lit (.bool false)], args := [d1, d2, d3] }
  | _ => none }
def FnExactLeadOfWrongFalsely : Prop := fnExactLeadOfRow.holds Try.pinned (OpenSpec.ofChange fnExactLeadOfWrong)

/-- 'laws.FnExactPlacesAlong': WHATEVER THE INPUT: true; the input reads as it did. -/
def fnExactPlacesAlongSpec : ChangeSpec := { name := "fnExactPlacesAlong", fn := fun _ => fun
  | [d1, d2, d3, d4, d5] => { results := [.lit (.bool true)], args := [d1, d2, d3, d4, d5] }
  | _ => none }
def fnExactPlacesAlongRow : OpenClaim := { program := "ytcnmchcleghcgaa", sum := "0b1028816524feb748ea02c30f1f62140780502f3d6b5df0c7ef790d114cea62", func := "loop.example/g00972/laws.FnExactPlacesAlong", spec := "fnExactPlacesAlong", unfollowed := true, recurses := true, apart := false }
def FnExactPlacesAlongSaid : Prop := fnExactPlacesAlongRow.holds Try.pinned (OpenSpec.ofChange fnExactPlacesAlongSpec)

/-- ITS FALSE NEIGHBOUR: 'it returns false'. Refute it at one input. -/
def fnExactPlacesAlongWrong : ChangeSpec := { name := "fnExactPlacesAlong", fn := fun _ => fun
  | [d1, d2, d3, d4, d5] => { results := [.lit (.bool false)], args := [d1, d2, d3, d4, d5] }
  | _ => none }
def FnExactPlacesAlongWrongFalsely : Prop := fnExactPlacesAlongRow.holds Try.pinned (OpenSpec.ofChange fnExactPlacesAlongWrong)

/-- 'laws.FnExactEndsAlong': WHATEVER THE INPUT: true; the input reads as it did. -/
def fnExactEndsAlongSpec : ChangeSpec := { name := "fnExactEndsAlong", fn := fun _ => fun
  | [d1, d2, d3, d4, d5] => { results := [.lit (.bool true)], args := [d1, d2, d3, d4, d5] }
  | _ => none }
def fnExactEndsAlongRow : OpenClaim := { program := "ytcnmchcleghcgaa", sum := "0b1028816524feb748ea02c30f1f62140780502f3d6b5df0c7ef790d114cea62", func := "loop.example/g00972/laws.FnExactEndsAlong", spec := "fnExactEndsAlong", unfollowed := true, recurses := true, apart := false }
def FnExactEndsAlongSaid : Prop := fnExactEndsAlongRow.holds Try.pinned (OpenSpec.ofChange fnExactEndsAlongSpec)

/-- ITS FALSE NEIGHBOUR: 'it returns false'. Refute it at one input. -/
def fnExactEndsAlongWrong : ChangeSpec := { name := "fnExactEndsAlong", fn := fun _ => fun
  | [d1, d2, d3, d4, d5] => { results := [.lit (.bool false)], args := [d1, d2, d3, d4, d5] }
  | _ => none }
def FnExactEndsAlongWrongFalsely : Prop := fnExactEndsAlongRow.holds Try.pinned (OpenSpec.ofChange fnExactEndsAlongWrong)

/-- 'laws.FnExactAutosIn': WHATEVER THE INPUT: true; the input reads as it did. -/
def fnExactAutosInSpec : ChangeSpec := { name := "fnExactAutosIn", fn := fun _ => fun
  | [d] => { results := [.lit (.bool true)], args := [d] }
  | _ => none }
def fnExactAutosInRow : OpenClaim := { program := "ytcnmchcleghcgaa", sum := "0b1028816524feb748ea02c30f1f62140780502f3d6b5df0c7ef790d114cea62", func := "loop.example/g00972/laws.FnExactAutosIn", spec := "fnExactAutosIn", apart := false }
def FnExactAutosInSaid : Prop := fnExactAutosInRow.holds Try.pinned (OpenSpec.ofChange fnExactAutosInSpec)

/-- ITS FALSE NEIGHBOUR: 'it returns false'. Refute it at one input. -/
def fnExactAutosInWrong : ChangeSpec := { name := "fnExactAutosIn", fn := fun _ => fun
  | [d] => { results := [.lit (.bool false)], args := [d] }
  | _ => none }
def FnExactAutosInWrongFalsely : Prop := fnExactAutosInRow.holds Try.pinned (OpenSpec.ofChange fnExactAutosInWrong)

/-- 'laws.FnExactFreeOf': WHATEVER THE INPUT: true; the input reads as it did. -/
def fnExactFreeOfSpec : ChangeSpec := { name := "fnExactFreeOf", fn := fun _ => fun
  | [d1, d2, d3, d4] => { results := [.lit (.bool true)], args := [d1, d2, d3, d4] }
  | _ => none }
def fnExactFreeOfRow : OpenClaim := { program := "ytcnmchcleghcgaa", sum := "0b1028816524feb748ea02c30f1f62140780502f3d6b5df0c7ef790d114cea62", func := "loop.example/g00972/laws.FnExactFreeOf", spec := "fnExactFreeOf", apart := false }
def FnExactFreeOfSaid : Prop := fnExactFreeOfRow.holds Try.pinned (OpenSpec.ofChange fnExactFreeOfSpec)

/-- ITS FALSE NEIGHBOUR: 'it returns false'. Refute it at one input. -/
def fnExactFreeOfWrong : ChangeSpec := { name := "fnExactFreeOf", fn := fun _ => fun
  | [d1, d2, d3, d4] => { results := [.lit (.bool false)], args := [d1, d2, d3, d4] }
  | _ => none }
def FnExactFreeOfWrongFalsely : Prop := fnExactFreeOfRow.holds Try.pinned (OpenSpec.ofChange fnExactFreeOfWrong)

/-- 'laws.FnLines': WHATEVER THE INPUT: true; the input reads as it did. -/
def fnLinesSpec : ChangeSpec := { name := "fnLines", fn := fun _ => fun
  | [d] => { results := [.lit (.bool true)], args := [d] }
  | _ => none }
def fnLinesRow : OpenClaim := { program := "ytcnmchcleghcgaa", sum := "0b1028816524feb748ea02c30f1f62140780502f3d6b5df0c7ef790d114cea62", func := "loop.example/g00972/laws.FnLines", spec := "fnLines", unfollowed := true, recurses := true, apart := false }
def FnLinesSaid : Prop := fnLinesRow.holds Try.pinned (OpenSpec.ofChange fnLinesSpec)

/-- ITS FALSE NEIGHBOUR: 'it returns false'. Refute it at one input. -/
def fnLinesWrong : ChangeSpec := { name := "fnLines", fn := fun _ => fun
  | [d] => { results := [.lit (.bool false)], args := [d] }
  | _ => none }
def FnLinesWrongFalsely : Prop := fnLinesRow.holds Try.pinned (OpenSpec.ofChange fnLinesWrong)

/- THE SECOND FORM. 'bulk': how many values and letters a reading holds, each counted each time it is reached (what is shared counts as often as it is met; a slice's spare places count too). A statement '..UptoSaid' is the law's where the arguments, and the package variables that the reading takes, are together of bulk at most 1048576: NARROWER than '..Said'. Prove '..Said' where nothing that the law and all that it calls make is longer than what came in: it says more and counts as full. Else prove '..UptoSaid'. A law counts once. -/
mutual
def uptoBulk {H : Type} : DataW H → Nat
  | .lit (.string bytes) => bytes.length + 1
  | .lit _ => 1
  | .nil => 1
  | .ptr d => uptoBulk d + 1
  | .slice elems spare => uptoBulkAll elems + uptoBulkAll spare + 1
  | .agg parts => uptoBulkAll parts + 1
  | .iface _ d => uptoBulk d + 1
  | .map entries => uptoBulkEntries entries + 1
  | .held _ => 1
def uptoBulkAll {H : Type} : List (DataW H) → Nat
  | [] => 0
  | d :: r => uptoBulk d + uptoBulkAll r
def uptoBulkEntries {H : Type} : List (Lit × DataW H) → Nat
  | [] => 0
  | x :: r => uptoBulkEntry x + uptoBulkEntries r
def uptoBulkEntry {H : Type} : Lit × DataW H → Nat
  | (.string bytes, d) => bytes.length + uptoBulk d + 1
  | (_, d) => uptoBulk d + 1
 end
def uptoSmall : (H : Type) → List (DataW H) → Bool := fun _ ds => decide (uptoBulkAll ds ≤ 1048576)
def OpenSpec.upto (s : _root_.Go.ChangeSpec) : _root_.Go.OpenSpec := { _root_.Go.OpenSpec.ofChange s with cond := some uptoSmall }

/-- 'laws.FnAlong', WHERE WHAT IT READS IS OF BULK AT MOST 1048576: true; the input reads as it did. -/
def fnAlongUptoRow : OpenClaim := { program := "ytcnmchcleghcgaa", sum := "0b1028816524feb748ea02c30f1f62140780502f3d6b5df0c7ef790d114cea62", func := "loop.example/g00972/laws.FnAlong", spec := "fnAlong", unfollowed := true, recurses := true, apart := false, narrowed := true }
def FnAlongUptoSaid : Prop := fnAlongUptoRow.holds Try.pinned (OpenSpec.upto fnAlongSpec)

/-- 'laws.FnLead', WHERE WHAT IT READS IS OF BULK AT MOST 1048576: true; the input reads as it did. -/
def fnLeadUptoRow : OpenClaim := { program := "ytcnmchcleghcgaa", sum := "0b1028816524feb748ea02c30f1f62140780502f3d6b5df0c7ef790d114cea62", func := "loop.example/g00972/laws.FnLead", spec := "fnLead", apart := false, narrowed := true }
def FnLeadUptoSaid : Prop := fnLeadUptoRow.holds Try.pinned (OpenSpec.upto fnLeadSpec)

/-- 'laws.FnMiddle', WHERE WHAT IT READS IS OF BULK AT MOST 1048576: true; the input reads as it did. -/
def fnMiddleUptoRow : OpenClaim := { program := "ytcnmchcleghcgaa", sum := "0b1028816524feb748ea02c30f1f62140780502f3d6b5df0c7ef790d114cea62", func := "loop.example/g00972/laws.FnMiddle", spec := "fnMiddle", unfollowed := true, recurses := true, apart := false, narrowed := true }
def FnMiddleUptoSaid : Prop := fnMiddleUptoRow.holds Try.pinned (OpenSpec.upto fnMiddleSpec)

/-- 'laws.FnExactLeadOf', WHERE WHAT IT READS IS OF BULK AT MOST 1048576: true; the input reads as it did. -/
def fnExactLeadOfUptoRow : OpenClaim := { program := "ytcnmchcleghcgaa", sum := "0b1028816524feb748ea02c30f1f62140780502f3d6b5df0c7ef790d114cea62", func := "loop.example/g00972/laws.FnExactLeadOf", spec := "fnExactLeadOf", apart := false, narrowed := true }
def FnExactLeadOfUptoSaid : Prop := fnExactLeadOfUptoRow.holds Try.pinned (OpenSpec.upto fnExactLeadOfSpec)

/-- 'laws.FnExactPlacesAlong', WHERE WHAT IT READS IS OF BULK AT MOST 1048576: true; the input reads as it did. -/
def fnExactPlacesAlongUptoRow : OpenClaim := { program := "ytcnmchcleghcgaa", sum := "0b1028816524feb748ea02c30f1f62140780502f3d6b5df0c7ef790d114cea62", func := "loop.example/g00972/laws.FnExactPlacesAlong", spec := "fnExactPlacesAlong", unfollowed := true, recurses := true, apart := false, narrowed := true }
def FnExactPlacesAlongUptoSaid : Prop := fnExactPlacesAlongUptoRow.holds Try.pinned (OpenSpec.upto fnExactPlacesAlongSpec)

/-- 'laws.FnExactEndsAlong', WHERE WHAT IT READS IS OF BULK AT MOST 1048576: true; the input reads as it did. -/
def fnExactEndsAlongUptoRow : OpenClaim := { program := "ytcnmchcleghcgaa", sum := "0b1028816524feb748ea02c30f1f62140780502f3d6b5df0c7ef790d114cea62", func := "loop.example/g00972/laws.FnExactEndsAlong", spec := "fnExactEndsAlong", unfollowed := true, recurses := true, apart := false, narrowed := true }
def FnExactEndsAlongUptoSaid : Prop := fnExactEndsAlongUptoRow.holds Try.pinned (OpenSpec.upto fnExactEndsAlongSpec)

/-- 'laws.FnExactAutosIn', WHERE WHAT IT READS IS OF BULK AT MOST 1048576: true; the input reads as it did. -/
def fnExactAutosInUptoRow : OpenClaim := { program := "ytcnmchcleghcgaa", sum := "0b1028816524feb748ea02c30f1f62140780502f3d6b5df0c7ef790d114cea62", func := "loop.example/g00972/laws.FnExactAutosIn", spec := "fnExactAutosIn", apart := false, narrowed := true }
def FnExactAutosInUptoSaid : Prop := fnExactAutosInUptoRow.holds Try.pinned (OpenSpec.upto fnExactAutosInSpec)

/-- 'laws.FnExactFreeOf', WHERE WHAT IT READS IS OF BULK AT MOST 1048576: true; the input reads as it did. -/
def fnExactFreeOfUptoRow : OpenClaim := { program := "ytcnmchcleghcgaa", sum := "0b1028816524feb748ea02c30f1f62140780502f3d6b5df0c7ef790d114cea62", func := "loop.example/g00972/laws.FnExactFreeOf", spec := "fnExactFreeOf", apart := false, narrowed := true }
def FnExactFreeOfUptoSaid : Prop := fnExactFreeOfUptoRow.holds Try.pinned (OpenSpec.upto fnExactFreeOfSpec)

/-- 'laws.FnLines', WHERE WHAT IT READS IS OF BULK AT MOST 1048576: true; the input reads as it did. -/
def fnLinesUptoRow : OpenClaim := { program := "ytcnmchcleghcgaa", sum := "0b1028816524feb748ea02c30f1f62140780502f3d6b5df0c7ef790d114cea62", func := "loop.example/g00972/laws.FnLines", spec := "fnLines", unfollowed := true, recurses := true, apart := false, narrowed := true }
def FnLinesUptoSaid : Prop := fnLinesUptoRow.holds Try.pinned (OpenSpec.upto fnLinesSpec)

end Rows
end Go.Proofs.Ytcnmchcleghcgaa

/-
  No cell of these rows narrows 'for every input' (looked for: loops, veiled, ifaces, maps, wideKeys, modest, calm, conditions, laid).
  DERIVED. THE GIVEN ROWS OF THIS SEAT. 9 by the template 'for every input the law returns true; each argument reads behind the call as it read before'; 0 by the template 'total and deterministic' (their statements: YtpmfijaclncfhaaTotals.lean).
  GIVEN WITH THE SEED: the statements are not yours to turn. If you find one false, say at which input.
  Laid BY PROGRAM, IN A SANDBOX (cutbox-rows.mjs): the forced cells as the released guide's own fill.sh prints them over the translation f36bd4563c5dbbd1… (all of the seat's roots in one cut). By AI agents, Wed Nov 11 2026. No macro, syntax, notation, axiom, sorry.
-/
import Derived.Test.YtpmfijaclncfhaaChecked
import GoSem.Claim
import GoSem.ClaimJoined
import GoSem.ClaimMapViews
import Derived.JoinedTies
import Derived.KernelRfl
namespace Go.Proofs.Ytpmfijaclncfhaa
/- THE CELL 'sum', in the pinned program and in every row, IS THE sha256 OF THE DUMP (.gsa) THAT YtpmfijaclncfhaaProg.lean LOADS. Nothing in Lean hashes anything: it is a label: what it is worth is what the hold of that sum in a sandbox is worth. -/
noncomputable def Try.pinned : Pinned := { name := "ytpmfijaclncfhaa", sum := "f36bd4563c5dbbd19651f861ee0ce639984d1331984d9065cd841bef73ef4e86", checked := Try.checked }
namespace Rows
def none {H : Type} : Left H := { results := [], args := [] }

/-- 'laws.FnBounds': WHATEVER THE INPUT: true; the input reads as it did. -/
def fnBoundsSpec : ChangeSpec := { name := "fnBounds", fn := fun _ => fun
  | [d] => { results := [.lit (.bool true)], args := [d] }
  | _ => none }
def fnBoundsRow : OpenClaim := { program := "ytpmfijaclncfhaa", sum := "f36bd4563c5dbbd19651f861ee0ce639984d1331984d9065cd841bef73ef4e86", func := "loop.example/g00972/laws.FnBounds", spec := "fnBounds", unfollowed := true, recurses := true, apart := false }
def FnBoundsSaid : Prop := fnBoundsRow.holds Try.pinned (OpenSpec.ofChange fnBoundsSpec)

/-- ITS FALSE NEIGHBOUR: 'it returns false'. Refute it at one input. -/
def fnBoundsWrong : ChangeSpec := { name := "fnBounds", fn := fun _ => fun
  | [d] => { results := [.lit (.bool false)], args := [d] }
  | _ => none }
def FnBoundsWrongFalsely : Prop := fnBoundsRow.holds Try.pinned (OpenSpec.ofChange fnBoundsWrong)

/-- 'laws.FnRatio': WHATEVER THE INPUT: true; the input reads as it did. -/
def fnRatioSpec : ChangeSpec := { name := "fnRatio", fn := fun _ => fun
  | [d] => { results := [.lit (.bool true)], args := [d] }
  | _ => none }
def fnRatioRow : OpenClaim := { program := "ytpmfijaclncfhaa", sum := "f36bd4563c5dbbd19651f861ee0ce639984d1331984d9065cd841bef73ef4e86", func := "loop.example/g00972/laws.FnRatio", spec := "fnRatio", apart := false }
def FnRatioSaid : Prop := fnRatioRow.holds Try.pinned (OpenSpec.ofChange fnRatioSpec)

/-- ITS FALSE NEIGHBOUR: 'it returns false'. Refute it at one input. -/
def fnRatioWrong : ChangeSpec := { name := "fnRatio", fn := fun _ => fun
  | [d] => { results := [.lit (.bool false)], args := [d] }
  | _ => none }
def FnRatioWrongFalsely : Prop := fnRatioRow.holds Try.pinned (OpenSpec.ofChange fnRatioWrong)

/-- 'laws.FnExactLeastOf': WHATEVER THE INPUT: true; the input reads as it did. -/
def fnExactLeastOfSpec : ChangeSpec := { name := "fnExactLeastOf", fn := fun _ => fun
  | [d1, d2, d3] => { results := [.lit (.bool true)], args := [d1, d2, d3] }
  | _ => none }
def fnExactLeastOfRow : OpenClaim := { program := "ytpmfijaclncfhaa", sum := "f36bd4563c5dbbd19651f861ee0ce639984d1331984d9065cd841bef73ef4e86", func := "loop.example/g00972/laws.FnExactLeastOf", spec := "fnExactLeastOf", unfollowed := true, recurses := true, apart := false }
def FnExactLeastOfSaid : Prop := fnExactLeastOfRow.holds Try.pinned (OpenSpec.ofChange fnExactLeastOfSpec)

/-- ITS FALSE NEIGHBOUR: 'it returns false'. Refute it at one input. -/
def fnExactLeastOfWrong : ChangeSpec := { name := "fnExactLeastOf", fn := fun _ => fun
  | [d1, d2, d3] => { results := [.lit (.bool false)], args := [d1, d2, d3] }
  | _ => none }
def FnExactLeastOfWrongFalsely : Prop := fnExactLeastOfRow.holds Try.pinned (OpenSpec.ofChange fnExactLeastOfWrong)

/-- 'laws.FnExactMostOf': WHATEVER THE INPUT: true; the input reads as it did. -/
def fnExactMostOfSpec : ChangeSpec := { name := "fnExactMostOf", fn := fun _ => fun
  | [d1, d2, d3] => { results := [.lit (.bool true)], args := [d1, d2, d3] }
  | _ => none }
def fnExactMostOfRow : OpenClaim := { program := "ytpmfijaclncfhaa", sum := "f36bd4563c5dbbd19651f861ee0ce639984d1331984d9065cd841bef73ef4e86", func := "loop.example/g00972/laws.FnExactMostOf", spec := "fnExactMostOf", unfollowed := true, recurses := true, apart := false }
def FnExactMostOfSaid : Prop := fnExactMostOfRow.holds Try.pinned (OpenSpec.ofChange fnExactMostOfSpec)

/-- ITS FALSE NEIGHBOUR: 'it returns false'. Refute it at one input. -/
def fnExactMostOfWrong : ChangeSpec := { name := "fnExactMostOf", fn := fun _ => fun
  | [d1, d2, d3] => { results := [.lit (.bool false)], args := [d1, d2, d3] }
  | _ => none }
def FnExactMostOfWrongFalsely : Prop := fnExactMostOfRow.holds Try.pinned (OpenSpec.ofChange fnExactMostOfWrong)

/-- 'laws.FnExactBounded': WHATEVER THE INPUT: true; the input reads as it did. -/
def fnExactBoundedSpec : ChangeSpec := { name := "fnExactBounded", fn := fun _ => fun
  | [d1, d2, d3, d4] => { results := [.lit (.bool true)], args := [d1, d2, d3, d4] }
  | _ => none }
def fnExactBoundedRow : OpenClaim := { program := "ytpmfijaclncfhaa", sum := "f36bd4563c5dbbd19651f861ee0ce639984d1331984d9065cd841bef73ef4e86", func := "loop.example/g00972/laws.FnExactBounded", spec := "fnExactBounded", unfollowed := true, recurses := true, apart := false }
def FnExactBoundedSaid : Prop := fnExactBoundedRow.holds Try.pinned (OpenSpec.ofChange fnExactBoundedSpec)

/-- ITS FALSE NEIGHBOUR: 'it returns false'. Refute it at one input. -/
def fnExactBoundedWrong : ChangeSpec := { name := "fnExactBounded", fn := fun _ => fun
  | [d1, d2, d3, d4] => { results := [.lit (.bool false)], args := [d1, d2, d3, d4] }
  | _ => none }
def FnExactBoundedWrongFalsely : Prop := fnExactBoundedRow.holds Try.pinned (OpenSpec.ofChange fnExactBoundedWrong)

/-- 'laws.FnExactFixedOf': WHATEVER THE INPUT: true; the input reads as it did. -/
def fnExactFixedOfSpec : ChangeSpec := { name := "fnExactFixedOf", fn := fun _ => fun
  | [d1, d2, d3] => { results := [.lit (.bool true)], args := [d1, d2, d3] }
  | _ => none }
def fnExactFixedOfRow : OpenClaim := { program := "ytpmfijaclncfhaa", sum := "f36bd4563c5dbbd19651f861ee0ce639984d1331984d9065cd841bef73ef4e86", func := "loop.example/g00972/laws.FnExactFixedOf", spec := "fnExactFixedOf", unfollowed := true, recurses := true, apart := false }
def FnExactFixedOfSaid : Prop := fnExactFixedOfRow.holds Try.pinned (OpenSpec.ofChange fnExactFixedOfSpec)

/-- ITS FALSE NEIGHBOUR: 'it returns false'. Refute it at one input. -/
def fnExactFixedOfWrong : ChangeSpec := { name := "fnExactFixedOf", fn := fun _ => fun
  | [d1, d2, d3] => { results := [.lit (.bool false)], args := [d1, d2, d3] }
  | _ => none }
def FnExactFixedOfWrongFalsely : Prop := fnExactFixedOfRow.holds Try.pinned (OpenSpec.ofChange fnExactFixedOfWrong)

/-- 'laws.FnExactByRatio': WHATEVER THE INPUT: true; the input reads as it did. -/
def fnExactByRatioSpec : ChangeSpec := { name := "fnExactByRatio", fn := fun _ => fun
  | [d1, d2, d3] => { results := [.lit (.bool true)], args := [d1, d2, d3] }
  | _ => none }
def fnExactByRatioRow : OpenClaim := { program := "ytpmfijaclncfhaa", sum := "f36bd4563c5dbbd19651f861ee0ce639984d1331984d9065cd841bef73ef4e86", func := "loop.example/g00972/laws.FnExactByRatio", spec := "fnExactByRatio", apart := false }
def FnExactByRatioSaid : Prop := fnExactByRatioRow.holds Try.pinned (OpenSpec.ofChange fnExactByRatioSpec)

/-- ITS FALSE NEIGHBOUR: 'it returns false'. Refute it at one input. -/
def fnExactByRatioWrong : ChangeSpec := { name := "fnExactByRatio", fn := fun _ => fun
  | [d1, d2, d3] => { results := [.lit (.bool false)], args := [d1, d2, d3] }
  | _ => none }
def FnExactByRatioWrongFalsely : Prop := fnExactByRatioRow.holds Try.pinned (OpenSpec.ofChange fnExactByRatioWrong)

/-- 'laws.FnExactGivenOf': WHATEVER THE INPUT: true; the input reads as it did. -/
def fnExactGivenOfSpec : ChangeSpec := { name := "fnExactGivenOf", fn := fun _ => fun
  | [d1, d2, d3, d4] => { results := [.lit (.bool true)], args := [d1, d2, d3, d4] }
  | _ => none }
def fnExactGivenOfRow : OpenClaim := { program := "ytpmfijaclncfhaa", sum := "f36bd4563c5dbbd19651f861ee0ce639984d1331984d9065cd841bef73ef4e86", func := "loop.example/g00972/laws.FnExactGivenOf", spec := "fnExactGivenOf", unfollowed := true, recurses := true, apart := false }
def FnExactGivenOfSaid : Prop := fnExactGivenOfRow.holds Try.pinned (OpenSpec.ofChange fnExactGivenOfSpec)

/-- ITS FALSE NEIGHBOUR: 'it returns false'. Refute it at one input. -/
def fnExactGivenOfWrong : ChangeSpec := { name := "fnExactGivenOf", fn := fun _ => fun
  | [d1, d2, d3, d4] => { results := [.lit (.bool false)], args := [d1, d2, d3, d4] }
  | _ => none }
def FnExactGivenOfWrongFalsely : Prop := fnExactGivenOfRow.holds Try.pinned (OpenSpec.ofChange fnExactGivenOfWrong)

/-- 'laws.FnExactFrameSize': WHATEVER THE INPUT: true; the input reads as it did. -/
def fnExactFrameSizeSpec : ChangeSpec := { name := "fnExactFrameSize", fn := fun _ => fun
  | [d1, d2] => { results := [.lit (.bool true)], args := [d1, d2] }
  | _ => none }
def fnExactFrameSizeRow : OpenClaim := { program := "ytpmfijaclncfhaa", sum := "f36bd4563c5dbbd19651f861ee0ce639984d1331984d9065cd841bef73ef4e86", func := "loop.example/g00972/laws.FnExactFrameSize", spec := "fnExactFrameSize", apart := false }
def FnExactFrameSizeSaid : Prop := fnExactFrameSizeRow.holds Try.pinned (OpenSpec.ofChange fnExactFrameSizeSpec)

/-- ITS FALSE NEIGHBOUR: 'it returns false'. Refute it at one input. -/
def fnExactFrameSizeWrong : ChangeSpec := { name := "fnExactFrameSize", fn := fun _ => fun
  | [d1, d2] => { results := [.lit (.bool false)], args := [d1, d2] }
  | _ => none }
def FnExactFrameSizeWrongFalsely : Prop := fnExactFrameSizeRow.holds Try.pinned (OpenSpec.ofChange fnExactFrameSizeWrong)

/- THE SECOND FORM. 'bulk': how many values and letters a reading holds, each counted each time it is reached (what is shared counts as often as it is met; a slice's spare places count too). A statement '..UptoSaid' is the law's where the arguments, and the package variables that the reading takes, are together of bulk at most 1048576: NARROWER than '..Said'. Prove '..Said' where nothing that the law and all that it calls make is longer than what came in: it says more and counts as full. Else prove '..UptoSaid'. A law counts once. -/
mutual
def uptoBulk {H : Type} : DataW H → Nat
  | .lit (.string bytes) => bytes.length + 1
  | .lit _ => 1
  | .nil => 1
  | .ptr d => uptoBulk d + 1
  | .slice elems spare => uptoBulkAll elems + uptoBulkAll spare + 1
  | .agg parts => uptoBulkAll parts + 1
  | .iface _ d => uptoBulk d + 1
  | .map entries => uptoBulkEntries entries + 1
  | .held _ => 1
def uptoBulkAll {H : Type} : List (DataW H) → Nat
  | [] => 0
  | d :: r => uptoBulk d + uptoBulkAll r
def uptoBulkEntries {H : Type} : List (Lit × DataW H) → Nat
  | [] => 0
  | x :: r => uptoBulkEntry x + uptoBulkEntries r
def uptoBulkEntry {H : Type} : Lit × DataW H → Nat
  | (.string bytes, d) => bytes.length + uptoBulk d + 1
  | (_, d) => uptoBulk d + 1
 end
def uptoSmall : (H : Type) → List (DataW H) → Bool := fun _ ds => decide (uptoBulkAll ds ≤ 1048576)
def OpenSpec.upto (s : _root_.Go.ChangeSpec) : _root_.Go.OpenSpec := { _root_.Go.OpenSpec.ofChange s with cond := some uptoSmall }

/-- 'laws.FnBounds', WHERE WHAT IT READS IS OF BULK AT MOST 1048576: true; the input reads as it did. -/
def fnBoundsUptoRow : OpenClaim := { program := "ytpmfijaclncfhaa", sum := "f36bd4563c5dbbd19651f861ee0ce639984d1331984d9065cd841bef73ef4e86", func := "loop.example/g00972/laws.FnBounds", spec := "fnBounds", unfollowed := true, recurses := true, apart := false, narrowed := true }
def FnBoundsUptoSaid : Prop := fnBoundsUptoRow.holds Try.pinned (OpenSpec.upto fnBoundsSpec)

/-- 'laws.FnRatio', WHERE WHAT IT READS IS OF BULK AT MOST 1048576: true; the input reads as it did. -/
def fnRatioUptoRow : OpenClaim := { program := "ytpmfijaclncfhaa", sum := "f36bd4563c5dbbd19651f861ee0ce639984d1331984d9065cd841bef73ef4e86", func := "loop.example/g00972/laws.FnRatio", spec := "fnRatio", apart := false, narrowed := true }
def FnRatioUptoSaid : Prop := fnRatioUptoRow.holds Try.pinned (OpenSpec.upto fnRatioSpec)

/-- 'laws.FnExactLeastOf', WHERE WHAT IT READS IS OF BULK AT MOST 1048576: true; the input reads as it did. -/
def fnExactLeastOfUptoRow : OpenClaim := { program := "ytpmfijaclncfhaa", sum := "f36bd4563c5dbbd19651f861ee0ce639984d1331984d9065cd841bef73ef4e86", func := "loop.example/g00972/laws.FnExactLeastOf", spec := "fnExactLeastOf", unfollowed := true, recurses := true, apart := false, narrowed := true }
def FnExactLeastOfUptoSaid : Prop := fnExactLeastOfUptoRow.holds Try.pinned (OpenSpec.upto fnExactLeastOfSpec)

/-- 'laws.FnExactMostOf', WHERE WHAT IT READS IS OF BULK AT MOST 1048576: true; the input reads as it did. -/
def fnExactMostOfUptoRow : OpenClaim := { program := "ytpmfijaclncfhaa", sum := "f36bd4563c5dbbd19651f861ee0ce639984d1331984d9065cd841bef73ef4e86", func := "loop.example/g00972/laws.FnExactMostOf", spec := "fnExactMostOf", unfollowed := true, recurses := true, apart := false, narrowed := true }
def FnExactMostOfUptoSaid : Prop := fnExactMostOfUptoRow.holds Try.pinned (OpenSpec.upto fnExactMostOfSpec)

/-- 'laws.FnExactBounded', WHERE WHAT IT READS IS OF BULK AT MOST 1048576: true; the input reads as it did. -/
def fnExactBoundedUptoRow : OpenClaim := { program := "ytpmfijaclncfhaa", sum := "f36bd4563c5dbbd19651f861ee0ce639984d1331984d9065cd841bef73ef4e86", func := "loop.example/g00972/laws.FnExactBounded", spec := "fnExactBounded", unfollowed := true, recurses := true, apart := false, narrowed := true }
def FnExactBoundedUptoSaid : Prop := fnExactBoundedUptoRow.holds Try.pinned (OpenSpec.upto fnExactBoundedSpec)

/-- 'laws.FnExactFixedOf', WHERE WHAT IT READS IS OF BULK AT MOST 1048576: true; the input reads as it did. -/
def fnExactFixedOfUptoRow : OpenClaim := { program := "ytpmfijaclncfhaa", sum := "f36bd4563c5dbbd19651f861ee0ce639984d1331984d9065cd841bef73ef4e86", func := "loop.example/g00972/laws.FnExactFixedOf", spec := "fnExactFixedOf", unfollowed := true, recurses := true, apart := false, narrowed := true }
def FnExactFixedOfUptoSaid : Prop := fnExactFixedOfUptoRow.holds Try.pinned (OpenSpec.upto fnExactFixedOfSpec)

/-- 'laws.FnExactByRatio', WHERE WHAT IT READS IS OF BULK AT MOST 1048576: true; the input reads as it did. -/
def fnExactByRatioUptoRow : OpenClaim := { program := "ytpmfijaclncfhaa", sum := "f36bd4563c5dbbd19651f861ee0ce639984d1331984d9065cd841bef73ef4e86", func := "loop.example/g00972/laws.FnExactByRatio", spec := "fnExactByRatio", apart := false, narrowed := true }
def FnExactByRatioUptoSaid : Prop := fnExactByRatioUptoRow.holds Try.pinned (OpenSpec.upto fnExactByRatioSpec)

/-- 'laws.FnExactGivenOf', WHERE WHAT IT READS IS OF BULK AT MOST 1048576: true; the input reads as it did. -/
def fnExactGivenOfUptoRow : OpenClaim := { program := "ytpmfijaclncfhaa", sum := "f36bd4563c5dbbd19651f861ee0ce639984d1331984d9065cd841bef73ef4e86", func := "loop.example/g00972/laws.FnExactGivenOf", spec := "fnExactGivenOf", unfollowed := true, recurses := true, apart := false, narrowed := true }
def FnExactGivenOfUptoSaid : Prop := fnExactGivenOfUptoRow.holds Try.pinned (OpenSpec.upto fnExactGivenOfSpec)

/-- 'laws.FnExactFrameSize', WHERE WHAT IT READS IS OF BULK AT MOST 1048576: true; the input reads as it did. -/
def fnExactFrameSizeUptoRow : OpenClaim := { program := "ytpmfijaclncfhaa", sum := "f36bd4563c5dbbd19651f861ee0ce639984d1331984d9065cd841bef73ef4e86", func := "loop.example/g00972/laws.FnExactFrameSize", spec := "fnExactFrameSize", apart := false, narrowed := true }
def FnExactFrameSizeUptoSaid : Prop := fnExactFrameSizeUptoRow.holds Try.pinned (OpenSpec.upto fnExactFrameSizeSpec)

end Rows
end Go.Proofs.Ytpmfijaclncfhaa

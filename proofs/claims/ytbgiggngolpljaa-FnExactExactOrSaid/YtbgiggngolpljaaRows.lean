/-
  No cell of these rows narrows 'for every input' (looked for: loops, veiled, ifaces, maps, wideKeys, modest, calm, conditions, laid).
  DERIVED. THE GIVEN ROWS OF THIS SEAT. 5 by the template 'for every input the law returns true; each argument reads behind the call as it read before'; 0 by the template 'total and deterministic' (their statements: YtbgiggngolpljaaTotals.lean).
  GIVEN WITH THE SEED: the statements are not yours to turn. If you find one false, say at which input.
  Laid BY PROGRAM, IN A SANDBOX (cutbox-rows.mjs): the forced cells as the released guide's own fill.sh prints them over the translation 3c42c8f1b104b786… (all of the seat's roots in one cut). By AI agents, Wed Nov 11 2026. No macro, syntax, notation, axiom, sorry.
-/
import Derived.Test.YtbgiggngolpljaaChecked
import GoSem.Claim
import GoSem.ClaimJoined
import GoSem.ClaimMapViews
import Derived.JoinedTies
import Derived.KernelRfl
namespace Go.Proofs.Ytbgiggngolpljaa
/- THE CELL 'sum', in the pinned program and in every row, IS THE sha256 OF THE DUMP (.gsa) THAT YtbgiggngolpljaaProg.lean LOADS. Nothing in Lean hashes anything: it is a label: what it is worth is what the hold of that sum in a sandbox is worth. -/
noncomputable def Try.pinned : Pinned := { name := "ytbgiggngolpljaa", sum := "3c42c8f1b104b786a95bfc906b0a8c95c9346da36dc23ea8281002b9b255dadc", checked := Try.checked }
namespace Rows
def none {H : Type} : Left H := { results := [], args := [] }

/-- 'laws.FnExactSpaceOk': WHATEVER THE INPUT: true; the input reads as it did. -/
def fnExactSpaceOkSpec : ChangeSpec := { name := "fnExactSpaceOk", fn := fun _ => fun
  | [d] => { results := [.lit (.bool true)], args := [d] }
  | _ => none }
def fnExactSpaceOkRow : OpenClaim := { program := "ytbgiggngolpljaa", sum := "3c42c8f1b104b786a95bfc906b0a8c95c9346da36dc23ea8281002b9b255dadc", func := "loop.example/g00972/laws.FnExactSpaceOk", spec := "fnExactSpaceOk", apart := false }
def FnExactSpaceOkSaid : Prop := fnExactSpaceOkRow.holds Try.pinned (OpenSpec.ofChange fnExactSpaceOkSpec)

/-- ITS FALSE NEIGHBOUR: 'it returns false'. Refute it at one input. -/
def fnExactSpaceOkWrong : ChangeSpec := { name := "fnExactSpaceOk", fn := fun _ => fun
  | [d] => { results := [.lit (.bool false)], args := [d] }
  | _ => none }
def FnExactSpaceOkWrongFalsely : Prop := fnExactSpaceOkRow.holds Try.pinned (OpenSpec.ofChange fnExactSpaceOkWrong)

/-- 'laws.FnExactInnerOf': WHATEVER THE INPUT: true; the input reads as it did. -/
def fnExactInnerOfSpec : ChangeSpec := { name := "fnExactInnerOf", fn := fun _ => fun
  | [d1, d2] => { results := [.lit (.bool true)], args := [d1, d2] }
  | _ => none }
def fnExactInnerOfRow : OpenClaim := { program := "ytbgiggngolpljaa", sum := "3c42c8f1b104b786a95bfc906b0a8c95c9346da36dc23ea8281002b9b255dadc", func := "loop.example/g00972/laws.FnExactInnerOf", spec := "fnExactInnerOf", apart := false }
def FnExactInnerOfSaid : Prop := fnExactInnerOfRow.holds Try.pinned (OpenSpec.ofChange fnExactInnerOfSpec)

/-- ITS FALSE NEIGHBOUR: 'it returns false'. Refute it at one input. -/
def fnExactInnerOfWrong : ChangeSpec := { name := "fnExactInnerOf", fn := fun _ => fun
  | [d1, d2] => { results := [.lit (.bool false)], args := [d1, d2] }
  | _ => none }
def FnExactInnerOfWrongFalsely : Prop := fnExactInnerOfRow.holds Try.pinned (OpenSpec.ofChange fnExactInnerOfWrong)

/-- 'laws.FnExactRoomOf': WHATEVER THE INPUT: true; the input reads as it did. -/
def fnExactRoomOfSpec : ChangeSpec := { name := "fnExactRoomOf", fn := fun _ => fun
  | [d] => { results := [.lit (.bool true)], args := [d] }
  | _ => none }
def fnExactRoomOfRow : OpenClaim := { program := "ytbgiggngolpljaa", sum := "3c42c8f1b104b786a95bfc906b0a8c95c9346da36dc23ea8281002b9b255dadc", func := "loop.example/g00972/laws.FnExactRoomOf", spec := "fnExactRoomOf", apart := false }
def FnExactRoomOfSaid : Prop := fnExactRoomOfRow.holds Try.pinned (OpenSpec.ofChange fnExactRoomOfSpec)

/-- ITS FALSE NEIGHBOUR: 'it returns false'. Refute it at one input. -/
def fnExactRoomOfWrong : ChangeSpec := { name := "fnExactRoomOf", fn := fun _ => fun
  | [d] => { results := [.lit (.bool false)], args := [d] }
  | _ => none }
def FnExactRoomOfWrongFalsely : Prop := fnExactRoomOfRow.holds Try.pinned (OpenSpec.ofChange fnExactRoomOfWrong)

/-- 'laws.FnExactLoosened': WHATEVER THE INPUT: true; the input reads as it did. -/
def fnExactLoosenedSpec : ChangeSpec := { name := "fnExactLoosened", fn := fun _ => fun
  | [d] => { results := [.lit (.bool true)], args := [d] }
  | _ => none }
def fnExactLoosenedRow : OpenClaim := { program := "ytbgiggngolpljaa", sum := "3c42c8f1b104b786a95bfc906b0a8c95c9346da36dc23ea8281002b9b255dadc", func := "loop.example/g00972/laws.FnExactLoosened", spec := "fnExactLoosened", apart := false }
def FnExactLoosenedSaid : Prop := fnExactLoosenedRow.holds Try.pinned (OpenSpec.ofChange fnExactLoosenedSpec)

/-- ITS FALSE NEIGHBOUR: 'it returns false'. Refute it at one input. -/
def fnExactLoosenedWrong : ChangeSpec := { name := "fnExactLoosened", fn := fun _ => fun
  | [d] => { results := [.lit (.bool false)], args := [d] }
  | _ => none }
def FnExactLoosenedWrongFalsely : Prop := fnExactLoosenedRow.holds Try.pinned (OpenSpec.ofChange fnExactLoosenedWrong)

/-- 'laws.FnExactExactOr': WHATEVER THE INPUT: true; the input reads as it did. -/
def fnExactExactOrSpec : ChangeSpec := { name := "fnExactExactOr", fn := fun _ => fun
  | [d1, d2] => { results := [.lit (.bool true)], args := [d1, d2] }
  | _ => none }
def fnExactExactOrRow : OpenClaim := { program := "ytbgiggngolpljaa", sum := "3c42c8f1b104b786a95bfc906b0a8c95c9346da36dc23ea8281002b9b255dadc", func := "loop.example/g00972/laws.FnExactExactOr", spec := "fnExactExactOr", apart := false }
def FnExactExactOrSaid : Prop := fnExactExactOrRow.holds Try.pinned (OpenSpec.ofChange fnExactExactOrSpec)

/-- ITS FALSE NEIGHBOUR: 'it returns false'. Refute it at one input. -/
def fnExactExactOrWrong : ChangeSpec := { name := "fnExactExactOr", fn := fun _ => fun
  | [d1, d2] => { results := [.lit (.bool false)], args := [d1, d2] }
  | _ => none }
def FnExactExactOrWrongFalsely : Prop := fnExactExactOrRow.holds Try.pinned (OpenSpec.ofChange fnExactExactOrWrong)

/- THE SECOND FORM. 'bulk': how many values and letters a reading holds, each counted each time it is reached (what is shared counts as often as it is met; a slice's spare places count too). A statement '..UptoSaid' is the law's where the arguments, and the package variables that the reading takes, are together of bulk at most 1048576: NARROWER than '..Said'. Prove '..Said' where nothing that the law and all that it calls make is longer than what came in: it says more and counts as full. Else prove '..UptoSaid'. A law counts once. -/
mutual
def uptoBulk {H : Type} : DataW H → Nat
  | .lit (.string bytes) => bytes.length + 1
  | .lit _ => 1
  | .nil => 1
  | .ptr d => uptoBulk d + 1
  | .slice elems spare => uptoBulkAll elems + uptoBulkAll spare + 1
  | .agg parts => uptoBulkAll parts + 1
  | .iface _ d => uptoBulk d + 1
  | .map entries => uptoBulkEntries entries + 1
  | .held _ => 1
def uptoBulkAll {H : Type} : List (DataW H) → Nat
  | [] => 0
  | d :: r => uptoBulk d + uptoBulkAll r
def uptoBulkEntries {H : Type} : List (Lit × DataW H) → Nat
  | [] => 0
  | x :: r => uptoBulkEntry x + uptoBulkEntries r
def uptoBulkEntry {H : Type} : Lit × DataW H → Nat
  | (.string bytes, d) => bytes.length + uptoBulk d + 1
  | (_, d) => uptoBulk d + 1
 end
def uptoSmall : (H : Type) → List (DataW H) → Bool := fun _ ds => decide (uptoBulkAll ds ≤ 1048576)
def OpenSpec.upto (s : _root_.Go.ChangeSpec) : _root_.Go.OpenSpec := { _root_.Go.OpenSpec.ofChange s with cond := some uptoSmall }

/-- 'laws.FnExactSpaceOk', WHERE WHAT IT READS IS OF BULK AT MOST 1048576: true; the input reads as it did. -/
def fnExactSpaceOkUptoRow : OpenClaim := { program := "ytbgiggngolpljaa", sum := "3c42c8f1b104b786a95bfc906b0a8c95c9346da36dc23ea8281002b9b255dadc", func := "loop.example/g00972/laws.FnExactSpaceOk", spec := "fnExactSpaceOk", apart := false, narrowed := true }
def FnExactSpaceOkUptoSaid : Prop := fnExactSpaceOkUptoRow.holds Try.pinned (OpenSpec.upto fnExactSpaceOkSpec)

/-- 'laws.FnExactInnerOf', WHERE WHAT IT READS IS OF BULK AT MOST 1048576: true; the input reads as it did. -/
def fnExactInnerOfUptoRow : OpenClaim := { program := "ytbgiggngolpljaa", sum := "3c42c8f1b104b786a95bfc906b0a8c95c9346da36dc23ea8281002b9b255dadc", func := "loop.example/g00972/laws.FnExactInnerOf", spec := "fnExactInnerOf", apart := false, narrowed := true }
def FnExactInnerOfUptoSaid : Prop := fnExactInnerOfUptoRow.holds Try.pinned (OpenSpec.upto fnExactInnerOfSpec)

/-- 'laws.FnExactRoomOf', WHERE WHAT IT READS IS OF BULK AT MOST 1048576: true; the input reads as it did. -/
def fnExactRoomOfUptoRow : OpenClaim := { program := "ytbgiggngolpljaa", sum := "3c42c8f1b104b786a95bfc906b0a8c95c9346da36dc23ea8281002b9b255dadc", func := "loop.example/g00972/laws.FnExactRoomOf", spec := "fnExactRoomOf", apart := false, narrowed := true }
def FnExactRoomOfUptoSaid : Prop := fnExactRoomOfUptoRow.holds Try.pinned (OpenSpec.upto fnExactRoomOfSpec)

/-- 'laws.FnExactLoosened', WHERE WHAT IT READS IS OF BULK AT MOST 1048576: true; the input reads as it did. -/
def fnExactLoosenedUptoRow : OpenClaim := { program := "ytbgiggngolpljaa", sum := "3c42c8f1b104b786a95bfc906b0a8c95c9346da36dc23ea8281002b9b255dadc", func := "loop.example/g00972/laws.FnExactLoosened", spec := "fnExactLoosened", apart := false, narrowed := true }
def FnExactLoosenedUptoSaid : Prop := fnExactLoosenedUptoRow.holds Try.pinned (OpenSpec.upto fnExactLoosenedSpec)

/-- 'laws.FnExactExactOr', WHERE WHAT IT READS IS OF BULK AT MOST 1048576: true; the input reads as it did. -/
def fnExactExactOrUptoRow : OpenClaim := { program := "ytbgiggngolpljaa", sum := "3c42c8f1b104b786a95bfc906b0a8c95c9346da36dc23ea8281002b9b255dadc", func := "loop.example/g00972/laws.FnExactExactOr", spec := "fnExactExactOr", apart := false, narrowed := true }
def FnExactExactOrUptoSaid : Prop := fnExactExactOrUptoRow.holds Try.pinned (OpenSpec.upto fnExactExactOrSpec)

end Rows
end Go.Proofs.Ytbgiggngolpljaa

/-
  No cell of these rows narrows 'for every input' (looked for: loops, veiled, ifaces, maps, wideKeys, modest, calm, conditions, laid).
  DERIVED. THE GIVEN ROWS OF THIS SEAT. 9 by the template 'for every input the law returns true; each argument reads behind the call as it read before'; 0 by the template 'total and deterministic' (their statements: YtafemgkkibjopaaTotals.lean).
  GIVEN WITH THE SEED: the statements are not yours to turn. If you find one false, say at which input.
  Laid BY PROGRAM, IN A SANDBOX (cutbox-rows.mjs): the forced cells as the released guide's own fill.sh prints them over the translation bc40c6c968544c10… (all of the seat's roots in one cut). By AI agents, Wed Nov 11 2026. No macro, syntax, notation, axiom, sorry.
-/
import Derived.Test.YtafemgkkibjopaaChecked
import GoSem.Claim
import GoSem.ClaimJoined
import GoSem.ClaimMapViews
import Derived.JoinedTies
import Derived.KernelRfl
namespace Go.Proofs.Ytafemgkkibjopaa
/- THE CELL 'sum', in the pinned program and in every row, IS THE sha256 OF THE DUMP (.gsa) THAT YtafemgkkibjopaaProg.lean LOADS. Nothing in Lean hashes anything: it is a label: what it is worth is what the hold of that sum in a sandbox is worth. -/
noncomputable def Try.pinned : Pinned := { name := "ytafemgkkibjopaa", sum := "bc40c6c968544c1056e09ec02c187c01aed12d542ed33759af6e1da4f69f1446", checked := Try.checked }
namespace Rows
def none {H : Type} : Left H := { results := [], args := [] }

/-- 'laws.FnSidesOf': WHATEVER THE INPUT: true; the input reads as it did. -/
def fnSidesOfSpec : ChangeSpec := { name := "fnSidesOf", fn := fun _ => fun
  | [d] => { results := [.lit (.bool true)], args := [d] }
  | _ => none }
def fnSidesOfRow : OpenClaim := { program := "ytafemgkkibjopaa", sum := "bc40c6c968544c1056e09ec02c187c01aed12d542ed33759af6e1da4f69f1446", func := "loop.example/g00972/laws.FnSidesOf", spec := "fnSidesOf", apart := false }
def FnSidesOfSaid : Prop := fnSidesOfRow.holds Try.pinned (OpenSpec.ofChange fnSidesOfSpec)

/-- ITS FALSE NEIGHBOUR: 'it returns false'. Refute it at one input. -/
def fnSidesOfWrong : ChangeSpec := { name := "fnSidesOf", fn := fun _ => fun
  | [d] => { results := [.lit (.bool false)], args := [d] }
  | _ => none }
def FnSidesOfWrongFalsely : Prop := fnSidesOfRow.holds Try.pinned (OpenSpec.ofChange fnSidesOfWrong)

/-- 'laws.FnExactSidesOk': WHATEVER THE INPUT: true; the input reads as it did. -/
def fnExactSidesOkSpec : ChangeSpec := { name := "fnExactSidesOk", fn := fun _ => fun
  | [d] => { results := [.lit (.bool true)], args := [d] }
  | _ => none }
def fnExactSidesOkRow : OpenClaim := { program := "ytafemgkkibjopaa", sum := "bc40c6c968544c1056e09ec02c187c01aed12d542ed33759af6e1da4f69f1446", func := "loop.example/g00972/laws.FnExactSidesOk", spec := "fnExactSidesOk", apart := false }
def FnExactSidesOkSaid : Prop := fnExactSidesOkRow.holds Try.pinned (OpenSpec.ofChange fnExactSidesOkSpec)

/-- ITS FALSE NEIGHBOUR: 'it returns false'. Refute it at one input. -/
def fnExactSidesOkWrong : ChangeSpec := { name := "fnExactSidesOk", fn := fun _ => fun
  | [d] => { results := [.lit (.bool false)], args := [d] }
  | _ => none }
def FnExactSidesOkWrongFalsely : Prop := fnExactSidesOkRow.holds Try.pinned (OpenSpec.ofChange fnExactSidesOkWrong)

/-- 'laws.FnExactEdgesOk': WHATEVER THE INPUT: true; the input reads as it did. -/
def fnExactEdgesOkSpec : ChangeSpec := { name := "fnExactEdgesOk", fn := fun _ => fun
  | [d] => { results := [.lit (.bool true)], args := [d] }
  | _ => none }
def fnExactEdgesOkRow : OpenClaim := { program := "ytafemgkkibjopaa", sum := "bc40c6c968544c1056e09ec02c187c01aed12d542ed33759af6e1da4f69f1446", func := "loop.example/g00972/laws.FnExactEdgesOk", spec := "fnExactEdgesOk", apart := false }
def FnExactEdgesOkSaid : Prop := fnExactEdgesOkRow.holds Try.pinned (OpenSpec.ofChange fnExactEdgesOkSpec)

/-- ITS FALSE NEIGHBOUR: 'it returns false'. Refute it at one input. -/
def fnExactEdgesOkWrong : ChangeSpec := { name := "fnExactEdgesOk", fn := fun _ => fun
  | [d] => { results := [.lit (.bool false)], args := [d] }
  | _ => none }
def FnExactEdgesOkWrongFalsely : Prop := fnExactEdgesOkRow.holds Try.pinned (OpenSpec.ofChange fnExactEdgesOkWrong)

/-- 'laws.FnExactSideOf': WHATEVER THE INPUT: true; the input reads as it did. -/
def fnExactSideOfSpec : ChangeSpec := { name := "fnExactSideOf", fn := fun _ => fun
  | [d1, d2, d3] => { results := [.lit (.bool true)], args := [d1, d2, d3] }
  | _ => none }
def fnExactSideOfRow : OpenClaim := { program := "ytafemgkkibjopaa", sum := "bc40c6c968544c1056e09ec02c187c01aed12d542ed33759af6e1da4f69f1446", func := "loop.example/g00972/laws.FnExactSideOf", spec := "fnExactSideOf", apart := false }
def FnExactSideOfSaid : Prop := fnExactSideOfRow.holds Try.pinned (OpenSpec.ofChange fnExactSideOfSpec)

/-- ITS FALSE NEIGHBOUR: 'it returns false'. Refute it at one input. -/
def fnExactSideOfWrong : ChangeSpec := { name := "fnExactSideOf", fn := fun _ => fun
  | [d1, d2, d3] => { results := [.lit (.bool false)], args := [d1, d2, d3] }
  | _ => none }
def FnExactSideOfWrongFalsely : Prop := fnExactSideOfRow.holds Try.pinned (OpenSpec.ofChange fnExactSideOfWrong)

/-- 'laws.FnExactMarginOf': WHATEVER THE INPUT: true; the input reads as it did. -/
def fnExactMarginOfSpec : ChangeSpec := { name := "fnExactMarginOf", fn := fun _ => fun
  | [d1, d2, d3, d4] => { results := [.lit (.bool true)], args := [d1, d2, d3, d4] }
  | _ => none }
def fnExactMarginOfRow : OpenClaim := { program := "ytafemgkkibjopaa", sum := "bc40c6c968544c1056e09ec02c187c01aed12d542ed33759af6e1da4f69f1446", func := "loop.example/g00972/laws.FnExactMarginOf", spec := "fnExactMarginOf", apart := false }
def FnExactMarginOfSaid : Prop := fnExactMarginOfRow.holds Try.pinned (OpenSpec.ofChange fnExactMarginOfSpec)

/-- ITS FALSE NEIGHBOUR: 'it returns false'. Refute it at one input. -/
def fnExactMarginOfWrong : ChangeSpec := { name := "fnExactMarginOf", fn := fun _ => fun
  | [d1, d2, d3, d4] => { results := [.lit (.bool false)], args := [d1, d2, d3, d4] }
  | _ => none }
def FnExactMarginOfWrongFalsely : Prop := fnExactMarginOfRow.holds Try.pinned (OpenSpec.ofChange fnExactMarginOfWrong)

/-- 'laws.FnExactAutoSide': WHATEVER THE INPUT: true; the input reads as it did. -/
def fnExactAutoSideSpec : ChangeSpec := { name := "fnExactAutoSide", fn := fun _ => fun
  | [d1, d2, d3] => { results := [.lit (.bool true)], args := [d1, d2, d3] }
  | _ => none }
def fnExactAutoSideRow : OpenClaim := { program := "ytafemgkkibjopaa", sum := "bc40c6c968544c1056e09ec02c187c01aed12d542ed33759af6e1da4f69f1446", func := "loop.example/g00972/laws.FnExactAutoSide", spec := "fnExactAutoSide", apart := false }
def FnExactAutoSideSaid : Prop := fnExactAutoSideRow.holds Try.pinned (OpenSpec.ofChange fnExactAutoSideSpec)

/-- ITS FALSE NEIGHBOUR: 'it returns false'. Refute it at one input. -/
def fnExactAutoSideWrong : ChangeSpec := { name := "fnExactAutoSide", fn := fun _ => fun
  | [d1, d2, d3] => { results := [.lit (.bool false)], args := [d1, d2, d3] }
  | _ => none }
def FnExactAutoSideWrongFalsely : Prop := fnExactAutoSideRow.holds Try.pinned (OpenSpec.ofChange fnExactAutoSideWrong)

/-- 'laws.FnExactEdgesIn': WHATEVER THE INPUT: true; the input reads as it did. -/
def fnExactEdgesInSpec : ChangeSpec := { name := "fnExactEdgesIn", fn := fun _ => fun
  | [d1, d2] => { results := [.lit (.bool true)], args := [d1, d2] }
  | _ => none }
def fnExactEdgesInRow : OpenClaim := { program := "ytafemgkkibjopaa", sum := "bc40c6c968544c1056e09ec02c187c01aed12d542ed33759af6e1da4f69f1446", func := "loop.example/g00972/laws.FnExactEdgesIn", spec := "fnExactEdgesIn", apart := false }
def FnExactEdgesInSaid : Prop := fnExactEdgesInRow.holds Try.pinned (OpenSpec.ofChange fnExactEdgesInSpec)

/-- ITS FALSE NEIGHBOUR: 'it returns false'. Refute it at one input. -/
def fnExactEdgesInWrong : ChangeSpec := { name := "fnExactEdgesIn", fn := fun _ => fun
  | [d1, d2] => { results := [.lit (.bool false)], args := [d1, d2] }
  | _ => none }
def FnExactEdgesInWrongFalsely : Prop := fnExactEdgesInRow.holds Try.pinned (OpenSpec.ofChange fnExactEdgesInWrong)

/-- 'laws.FnExactWideOf': WHATEVER THE INPUT: true; the input reads as it did. -/
def fnExactWideOfSpec : ChangeSpec := { name := "fnExactWideOf", fn := fun _ => fun
  | [d] => { results := [.lit (.bool true)], args := [d] }
  | _ => none }
def fnExactWideOfRow : OpenClaim := { program := "ytafemgkkibjopaa", sum := "bc40c6c968544c1056e09ec02c187c01aed12d542ed33759af6e1da4f69f1446", func := "loop.example/g00972/laws.FnExactWideOf", spec := "fnExactWideOf", apart := false }
def FnExactWideOfSaid : Prop := fnExactWideOfRow.holds Try.pinned (OpenSpec.ofChange fnExactWideOfSpec)

/-- ITS FALSE NEIGHBOUR: 'it returns false'. Refute it at one input. -/
def fnExactWideOfWrong : ChangeSpec := { name := "fnExactWideOf", fn := fun _ => fun
  | [d] => { results := [.lit (.bool false)], args := [d] }
  | _ => none }
def FnExactWideOfWrongFalsely : Prop := fnExactWideOfRow.holds Try.pinned (OpenSpec.ofChange fnExactWideOfWrong)

/-- 'laws.FnExactHighOf': WHATEVER THE INPUT: true; the input reads as it did. -/
def fnExactHighOfSpec : ChangeSpec := { name := "fnExactHighOf", fn := fun _ => fun
  | [d] => { results := [.lit (.bool true)], args := [d] }
  | _ => none }
def fnExactHighOfRow : OpenClaim := { program := "ytafemgkkibjopaa", sum := "bc40c6c968544c1056e09ec02c187c01aed12d542ed33759af6e1da4f69f1446", func := "loop.example/g00972/laws.FnExactHighOf", spec := "fnExactHighOf", apart := false }
def FnExactHighOfSaid : Prop := fnExactHighOfRow.holds Try.pinned (OpenSpec.ofChange fnExactHighOfSpec)

/-- ITS FALSE NEIGHBOUR: 'it returns false'. Refute it at one input. -/
def fnExactHighOfWrong : ChangeSpec := { name := "fnExactHighOf", fn := fun _ => fun
  | [d] => { results := [.lit (.bool false)], args := [d] }
  | _ => none }
def FnExactHighOfWrongFalsely : Prop := fnExactHighOfRow.holds Try.pinned (OpenSpec.ofChange fnExactHighOfWrong)

/- THE SECOND FORM. 'bulk': how many values and letters a reading holds, each counted each time it is reached (what is shared counts as often as it is met; a slice's spare places count too). A statement '..UptoSaid' is the law's where the arguments, and the package variables that the reading takes, are together of bulk at most 1048576: NARROWER than '..Said'. Prove '..Said' where nothing that the law and all that it calls make is longer than what came in: it says more and counts as full. Else prove '..UptoSaid'. A law counts once. -/
mutual
def uptoBulk {H : Type} : DataW H → Nat
  | .lit (.string bytes) => bytes.length + 1
  | .lit _ => 1
  | .nil => 1
  | .ptr d => uptoBulk d + 1
  | .slice elems spare => uptoBulkAll elems + uptoBulkAll spare + 1
  | .agg parts => uptoBulkAll parts + 1
  | .iface _ d => uptoBulk d + 1
  | .map entries => uptoBulkEntries entries + 1
  | .held _ => 1
def uptoBulkAll {H : Type} : List (DataW H) → Nat
  | [] => 0
  | d :: r => uptoBulk d + uptoBulkAll r
def uptoBulkEntries {H : Type} : List (Lit × DataW H) → Nat
  | [] => 0
  | x :: r => uptoBulkEntry x + uptoBulkEntries r
def uptoBulkEntry {H : Type} : Lit × DataW H → Nat
  | (.string bytes, d) => bytes.length + uptoBulk d + 1
  | (_, d) => uptoBulk d + 1
 end
def uptoSmall : (H : Type) → List (DataW H) → Bool := fun _ ds => decide (uptoBulkAll ds ≤ 1048576)
def OpenSpec.upto (s : _root_.Go.ChangeSpec) : _root_.Go.OpenSpec := { _root_.Go.OpenSpec.ofChange s with cond := some uptoSmall }

/-- 'laws.FnSidesOf', WHERE WHAT IT READS IS OF BULK AT MOST 1048576: true; the input reads as it did. -/
def fnSidesOfUptoRow : OpenClaim := { program := "ytafemgkkibjopaa", sum := "bc40c6c968544c1056e09ec02c187c01aed12d542ed33759af6e1da4f69f1446", func := "loop.example/g00972/laws.FnSidesOf", spec := "fnSidesOf", apart := false, narrowed := true }
def FnSidesOfUptoSaid : Prop := fnSidesOfUptoRow.holds Try.pinned (OpenSpec.upto fnSidesOfSpec)

/-- 'laws.FnExactSidesOk', WHERE WHAT IT READS IS OF BULK AT MOST 1048576: true; the input reads as it did. -/
def fnExactSidesOkUptoRow : OpenClaim := { program := "ytafemgkkibjopaa", sum := "bc40c6c968544c1056e09ec02c187c01aed12d542ed33759af6e1da4f69f1446", func := "loop.example/g00972/laws.FnExactSidesOk", spec := "fnExactSidesOk", apart := false, narrowed := true }
def FnExactSidesOkUptoSaid : Prop := fnExactSidesOkUptoRow.holds Try.pinned (OpenSpec.upto fnExactSidesOkSpec)

/-- 'laws.FnExactEdgesOk', WHERE WHAT IT READS IS OF BULK AT MOST 1048576: true; the input reads as it did. -/
def fnExactEdgesOkUptoRow : OpenClaim := { program := "ytafemgkkibjopaa", sum := "bc40c6c968544c1056e09ec02c187c01aed12d542ed33759af6e1da4f69f1446", func := "loop.example/g00972/laws.FnExactEdgesOk", spec := "fnExactEdgesOk", apart := false, narrowed := true }
def FnExactEdgesOkUptoSaid : Prop := fnExactEdgesOkUptoRow.holds Try.pinned (OpenSpec.upto fnExactEdgesOkSpec)

/-- 'laws.FnExactSideOf', WHERE WHAT IT READS IS OF BULK AT MOST 1048576: true; the input reads as it did. -/
def fnExactSideOfUptoRow : OpenClaim := { program := "ytafemgkkibjopaa", sum := "bc40c6c968544c1056e09ec02c187c01aed12d542ed33759af6e1da4f69f1446", func := "loop.example/g00972/laws.FnExactSideOf", spec := "fnExactSideOf", apart := false, narrowed := true }
def FnExactSideOfUptoSaid : Prop := fnExactSideOfUptoRow.holds Try.pinned (OpenSpec.upto fnExactSideOfSpec)

/-- 'laws.FnExactMarginOf', WHERE WHAT IT READS IS OF BULK AT MOST 1048576: true; the input reads as it did. -/
def fnExactMarginOfUptoRow : OpenClaim := { program := "ytafemgkkibjopaa", sum := "bc40c6c968544c1056e09ec02c187c01aed12d542ed33759af6e1da4f69f1446", func := "loop.example/g00972/laws.FnExactMarginOf", spec := "fnExactMarginOf", apart := false, narrowed := true }
def FnExactMarginOfUptoSaid : Prop := fnExactMarginOfUptoRow.holds Try.pinned (OpenSpec.upto fnExactMarginOfSpec)

/-- 'laws.FnExactAutoSide', WHERE WHAT IT READS IS OF BULK AT MOST 1048576: true; the input reads as it did. -/
def fnExactAutoSideUptoRow : OpenClaim := { program := "ytafemgkkibjopaa", sum := "bc40c6c968544c1056e09ec02c187c01aed12d542ed33759af6e1da4f69f1446", func := "loop.example/g00972/laws.FnExactAutoSide", spec := "fnExactAutoSide", apart := false, narrowed := true }
def FnExactAutoSideUptoSaid : Prop := fnExactAutoSideUptoRow.holds Try.pinned (OpenSpec.upto fnExactAutoSideSpec)

/-- 'laws.FnExactEdgesIn', WHERE WHAT IT READS IS OF BULK AT MOST 1048576: true; the input reads as it did. -/
def fnExactEdgesInUptoRow : OpenClaim := { program := "ytafemgkkibjopaa", sum := "bc40c6c968544c1056e09ec02c187c01aed12d542ed33759af6e1da4f69f1446", func := "loop.example/g00972/laws.FnExactEdgesIn", spec := "fnExactEdgesIn", apart := false, narrowed := true }
def FnExactEdgesInUptoSaid : Prop := fnExactEdgesInUptoRow.holds Try.pinned (OpenSpec.upto fnExactEdgesInSpec)

/-- 'laws.FnExactWideOf', WHERE WHAT IT READS IS OF BULK AT MOST 1048576: true; the input reads as it did. -/
def fnExactWideOfUptoRow : OpenClaim := { program := "ytafemgkkibjopaa", sum := "bc40c6c968544c1056e09ec02c187c01aed12d542ed33759af6e1da4f69f1446", func := "loop.example/g00972/laws.FnExactWideOf", spec := "fnExactWideOf", apart := false, narrowed := true }
def FnExactWideOfUptoSaid : Prop := fnExactWideOfUptoRow.holds Try.pinned (OpenSpec.upto fnExactWideOfSpec)

/-- 'laws.FnExactHighOf', WHERE WHAT IT READS IS OF BULK AT MOST 1048576: true; the input reads as it did. -/
def fnExactHighOfUptoRow : OpenClaim := { program := "ytafemgkkibjopaa", sum := "bc40c6c968544c1056e09ec02c187c01aed12d542ed33759af6e1da4f69f1446", func := "loop.example/g00972/laws.FnExactHighOf", spec := "fnExactHighOf", apart := false, narrowed := true }
def FnExactHighOfUptoSaid : Prop := fnExactHighOfUptoRow.holds Try.pinned (OpenSpec.upto fnExactHighOfSpec)

end Rows
end Go.Proofs.Ytafemgkkibjopaa

/-
  No cell of these rows narrows 'for every input' (looked for: loops, veiled, ifaces, maps, wideKeys, modest, calm, conditions, laid).
  DERIVED. THE GIVEN ROWS OF THIS SEAT. 8 by the template 'for every input the law returns true; each argument reads behind the call as it read before'; 0 by the template 'total and deterministic' (their statements: YthnfgdflnlafiaaTotals.lean).
  GIVEN WITH THE SEED: the statements are not yours to turn. If you find one false, say at which input.
  Laid BY PROGRAM, IN A SANDBOX (cutbox-rows.mjs): the forced cells as the released guide's own fill.sh prints them over the translation 83ac57c0a7f8a493… (all of the seat's roots in one cut). By AI agents, Wed Nov 11 2026. No macro, syntax, notation, axiom, sorry.
-/
import Derived.Test.YthnfgdflnlafiaaChecked
import GoSem.Claim
import GoSem.ClaimJoined
import GoSem.ClaimMapViews
import Derived.JoinedTies
import Derived.KernelRfl
namespace Go.Proofs.Ythnfgdflnlafiaa
/- THE CELL 'sum', in the pinned program and in every row, IS THE sha256 OF THE DUMP (.gsa) THAT YthnfgdflnlafiaaProg.lean LOADS. Nothing in Lean hashes anything: it is a label: what it is worth is what the hold of that sum in a sandbox is worth. -/
noncomputable def Try.pinned : Pinned := { name := "ythnfgdflnlafiaa", sum := "83ac57c0a7f8a4938e3a2be16b53a96495814bf21640bc78a0f9c60b50ee5f72", checked := Try.checked }
namespace Rows
def none {H : Type} : Left H := { results := [], args := [] }

/-- 'laws.FnAxes': WHATEVER THE INPUT: true; the input reads as it did. -/
def fnAxesSpec : ChangeSpec := { name := "fnAxes", fn := fun _ => fun
  | [d] => { results := [.lit (.bool true)], args := [d] }
  | _ => none }
def fnAxesRow : OpenClaim := { program := "ythnfgdflnlafiaa", sum := "83ac57c0a7f8a4938e3a2be16b53a96495814bf21640bc78a0f9c60b50ee5f72", func := "loop.example/g00972/laws.FnAxes", spec := "fnAxes", unfollowed := true, recurses := true, apart := false }
def FnAxesSaid : Prop := fnAxesRow.holds Try.pinned (OpenSpec.ofChange fnAxesSpec)

/-- ITS FALSE NEIGHBOUR: 'it returns false'. Refute it at one input. -/
def fnAxesWrong : ChangeSpec := { name := "fnAxes", fn := fun _ => fun
  | [d] => { results := [.lit (.bool false)], args := [d] }
  | _ => none }
def FnAxesWrongFalsely : Prop := fnAxesRow.holds Try.pinned (OpenSpec.ofChange fnAxesWrong)

/-- 'laws.FnExactIsRow': WHATEVER THE INPUT: true; the input reads as it did. -/
def fnExactIsRowSpec : ChangeSpec := { name := "fnExactIsRow", fn := fun _ => fun
  | [d] => { results := [.lit (.bool true)], args := [d] }
  | _ => none }
def fnExactIsRowRow : OpenClaim := { program := "ythnfgdflnlafiaa", sum := "83ac57c0a7f8a4938e3a2be16b53a96495814bf21640bc78a0f9c60b50ee5f72", func := "loop.example/g00972/laws.FnExactIsRow", spec := "fnExactIsRow", apart := false }
def FnExactIsRowSaid : Prop := fnExactIsRowRow.holds Try.pinned (OpenSpec.ofChange fnExactIsRowSpec)

/-- ITS FALSE NEIGHBOUR: 'it returns false'. Refute it at one input. -/
def fnExactIsRowWrong : ChangeSpec := { name := "fnExactIsRow", fn := fun _ => fun
  | [d] => { results := [.lit (.bool false)], args := [d] }
  | _ => none }
def FnExactIsRowWrongFalsely : Prop := fnExactIsRowRow.holds Try.pinned (OpenSpec.ofChange fnExactIsRowWrong)

/-- 'laws.FnExactMainBack': WHATEVER THE INPUT: true; the input reads as it did. -/
def fnExactMainBackSpec : ChangeSpec := { name := "fnExactMainBack", fn := fun _ => fun
  | [d1, d2] => { results := [.lit (.bool true)], args := [d1, d2] }
  | _ => none }
def fnExactMainBackRow : OpenClaim := { program := "ythnfgdflnlafiaa", sum := "83ac57c0a7f8a4938e3a2be16b53a96495814bf21640bc78a0f9c60b50ee5f72", func := "loop.example/g00972/laws.FnExactMainBack", spec := "fnExactMainBack", apart := false }
def FnExactMainBackSaid : Prop := fnExactMainBackRow.holds Try.pinned (OpenSpec.ofChange fnExactMainBackSpec)

/-- ITS FALSE NEIGHBOUR: 'it returns false'. Refute it at one input. -/
def fnExactMainBackWrong : ChangeSpec := { name := "fnExactMainBack", fn := fun _ => fun
  | [d1, d2] => { results := [.lit (.bool false)], args := [d1, d2] }
  | _ => none }
def FnExactMainBackWrongFalsely : Prop := fnExactMainBackRow.holds Try.pinned (OpenSpec.ofChange fnExactMainBackWrong)

/-- 'laws.FnExactCrossBack': WHATEVER THE INPUT: true; the input reads as it did. -/
def fnExactCrossBackSpec : ChangeSpec := { name := "fnExactCrossBack", fn := fun _ => fun
  | [d1, d2] => { results := [.lit (.bool true)], args := [d1, d2] }
  | _ => none }
def fnExactCrossBackRow : OpenClaim := { program := "ythnfgdflnlafiaa", sum := "83ac57c0a7f8a4938e3a2be16b53a96495814bf21640bc78a0f9c60b50ee5f72", func := "loop.example/g00972/laws.FnExactCrossBack", spec := "fnExactCrossBack", apart := false }
def FnExactCrossBackSaid : Prop := fnExactCrossBackRow.holds Try.pinned (OpenSpec.ofChange fnExactCrossBackSpec)

/-- ITS FALSE NEIGHBOUR: 'it returns false'. Refute it at one input. -/
def fnExactCrossBackWrong : ChangeSpec := { name := "fnExactCrossBack", fn := fun _ => fun
  | [d1, d2] => { results := [.lit (.bool false)], args := [d1, d2] }
  | _ => none }
def FnExactCrossBackWrongFalsely : Prop := fnExactCrossBackRow.holds Try.pinned (OpenSpec.ofChange fnExactCrossBackWrong)

/-- 'laws.FnExactMainSides': WHATEVER THE INPUT: true; the input reads as it did. -/
def fnExactMainSidesSpec : ChangeSpec := { name := "fnExactMainSides", fn := fun _ => fun
  | [d1, d2] => { results := [.lit (.bool true)], args := [d1, d2] }
  | _ => none }
def fnExactMainSidesRow : OpenClaim := { program := "ythnfgdflnlafiaa", sum := "83ac57c0a7f8a4938e3a2be16b53a96495814bf21640bc78a0f9c60b50ee5f72", func := "loop.example/g00972/laws.FnExactMainSides", spec := "fnExactMainSides", unfollowed := true, recurses := true, apart := false }
def FnExactMainSidesSaid : Prop := fnExactMainSidesRow.holds Try.pinned (OpenSpec.ofChange fnExactMainSidesSpec)

/-- ITS FALSE NEIGHBOUR: 'it returns false'. Refute it at one input. -/
def fnExactMainSidesWrong : ChangeSpec := { name := "fnExactMainSides", fn := fun _ => fun
  | [d1, d2] => { results := [.lit (.bool false)], args := [d1, d2] }
  | _ => none }
def FnExactMainSidesWrongFalsely : Prop := fnExactMainSidesRow.holds Try.pinned (OpenSpec.ofChange fnExactMainSidesWrong)

/-- 'laws.FnExactCrossSides': WHATEVER THE INPUT: true; the input reads as it did. -/
def fnExactCrossSidesSpec : ChangeSpec := { name := "fnExactCrossSides", fn := fun _ => fun
  | [d1, d2] => { results := [.lit (.bool true)], args := [d1, d2] }
  | _ => none }
def fnExactCrossSidesRow : OpenClaim := { program := "ythnfgdflnlafiaa", sum := "83ac57c0a7f8a4938e3a2be16b53a96495814bf21640bc78a0f9c60b50ee5f72", func := "loop.example/g00972/laws.FnExactCrossSides", spec := "fnExactCrossSides", unfollowed := true, recurses := true, apart := false }
def FnExactCrossSidesSaid : Prop := fnExactCrossSidesRow.holds Try.pinned (OpenSpec.ofChange fnExactCrossSidesSpec)

/-- ITS FALSE NEIGHBOUR: 'it returns false'. Refute it at one input. -/
def fnExactCrossSidesWrong : ChangeSpec := { name := "fnExactCrossSides", fn := fun _ => fun
  | [d1, d2] => { results := [.lit (.bool false)], args := [d1, d2] }
  | _ => none }
def FnExactCrossSidesWrongFalsely : Prop := fnExactCrossSidesRow.holds Try.pinned (OpenSpec.ofChange fnExactCrossSidesWrong)

/-- 'laws.FnExactAlignOf': WHATEVER THE INPUT: true; the input reads as it did. -/
def fnExactAlignOfSpec : ChangeSpec := { name := "fnExactAlignOf", fn := fun _ => fun
  | [d1, d2] => { results := [.lit (.bool true)], args := [d1, d2] }
  | _ => none }
def fnExactAlignOfRow : OpenClaim := { program := "ythnfgdflnlafiaa", sum := "83ac57c0a7f8a4938e3a2be16b53a96495814bf21640bc78a0f9c60b50ee5f72", func := "loop.example/g00972/laws.FnExactAlignOf", spec := "fnExactAlignOf", apart := false }
def FnExactAlignOfSaid : Prop := fnExactAlignOfRow.holds Try.pinned (OpenSpec.ofChange fnExactAlignOfSpec)

/-- ITS FALSE NEIGHBOUR: 'it returns false'. Refute it at one input. -/
def fnExactAlignOfWrong : ChangeSpec := { name := "fnExactAlignOf", fn := fun _ => fun
  | [d1, d2] => { results := [.lit (.bool false)], args := [d1, d2] }
  | _ => none }
def FnExactAlignOfWrongFalsely : Prop := fnExactAlignOfRow.holds Try.pinned (OpenSpec.ofChange fnExactAlignOfWrong)

/-- 'laws.FnExactMirrored': WHATEVER THE INPUT: true; the input reads as it did. -/
def fnExactMirroredSpec : ChangeSpec := { name := "fnExactMirrored", fn := fun _ => fun
  | [d1, d2, d3, d4] => { results := [.lit (.bool true)], args := [d1, d2, d3, d4] }
  | _ => none }
def fnExactMirroredRow : OpenClaim := { program := "ythnfgdflnlafiaa", sum := "83ac57c0a7f8a4938e3a2be16b53a96495814bf21640bc78a0f9c60b50ee5f72", func := "loop.example/g00972/laws.FnExactMirrored", spec := "fnExactMirrored", apart := false }
def FnExactMirroredSaid : Prop := fnExactMirroredRow.holds Try.pinned (OpenSpec.ofChange fnExactMirroredSpec)

/-- ITS FALSE NEIGHBOUR: 'it returns false'. Refute it at one input. -/
def fnExactMirroredWrong : ChangeSpec := { name := "fnExactMirrored", fn := fun _ => fun
  | [d1, d2, d3, d4] => { results := [.lit (.bool false)], args := [d1, d2, d3, d4] }
  | _ => none }
def FnExactMirroredWrongFalsely : Prop := fnExactMirroredRow.holds Try.pinned (OpenSpec.ofChange fnExactMirroredWrong)

/- THE SECOND FORM. 'bulk': how many values and letters a reading holds, each counted each time it is reached (what is shared counts as often as it is met; a slice's spare places count too). A statement '..UptoSaid' is the law's where the arguments, and the package variables that the reading takes, are together of bulk at most 1048576: NARROWER than '..Said'. Prove '..Said' where nothing that the law and all that it calls make is longer than what came in: it says more and counts as full. Else prove '..UptoSaid'. A law counts once. -/
mutual
def uptoBulk {H : Type} : DataW H → Nat
  | .lit (.string bytes) => bytes.length + 1
  | .lit _ => 1
  | .nil => 1
  | .ptr d => uptoBulk d + 1
  | .slice elems spare => uptoBulkAll elems + uptoBulkAll spare + 1
  | .agg parts => uptoBulkAll parts + 1
  | .iface _ d => uptoBulk d + 1
  | .map entries => uptoBulkEntries entries + 1
  | .held _ => 1
def uptoBulkAll {H : Type} : List (DataW H) → Nat
  | [] => 0
  | d :: r => uptoBulk d + uptoBulkAll r
def uptoBulkEntries {H : Type} : List (Lit × DataW H) → Nat
  | [] => 0
  | x :: r => uptoBulkEntry x + uptoBulkEntries r
def uptoBulkEntry {H : Type} : Lit × DataW H → Nat
  | (.string bytes, d) => bytes.length + uptoBulk d + 1
  | (_, d) => uptoBulk d + 1
 end
def uptoSmall : (H : Type) → List (DataW H) → Bool := fun _ ds => decide (uptoBulkAll ds ≤ 1048576)
def OpenSpec.upto (s : _root_.Go.ChangeSpec) : _root_.Go.OpenSpec := { _root_.Go.OpenSpec.ofChange s with cond := some uptoSmall }

/-- 'laws.FnAxes', WHERE WHAT IT READS IS OF BULK AT MOST 1048576: true; the input reads as it did. -/
def fnAxesUptoRow : OpenClaim := { program := "ythnfgdflnlafiaa", sum := "83ac57c0a7f8a4938e3a2be16b53a96495814bf21640bc78a0f9c60b50ee5f72", func := "loop.example/g00972/laws.FnAxes", spec := "fnAxes", unfollowed := true, recurses := true, apart := false, narrowed := true }
def FnAxesUptoSaid : Prop := fnAxesUptoRow.holds Try.pinned (OpenSpec.upto fnAxesSpec)

/-- 'laws.FnExactIsRow', WHERE WHAT IT READS IS OF BULK AT MOST 1048576: true; the input reads as it did. -/
def fnExactIsRowUptoRow : OpenClaim := { program := "ythnfgdflnlafiaa", sum := "83ac57c0a7f8a4938e3a2be16b53a96495814bf21640bc78a0f9c60b50ee5f72", func := "loop.example/g00972/laws.FnExactIsRow", spec := "fnExactIsRow", apart := false, narrowed := true }
def FnExactIsRowUptoSaid : Prop := fnExactIsRowUptoRow.holds Try.pinned (OpenSpec.upto fnExactIsRowSpec)

/-- 'laws.FnExactMainBack', WHERE WHAT IT READS IS OF BULK AT MOST 1048576: true; the input reads as it did. -/
def fnExactMainBackUptoRow : OpenClaim := { program := "ythnfgdflnlafiaa", sum := "83ac57c0a7f8a4938e3a2be16b53a96495814bf21640bc78a0f9c60b50ee5f72", func := "loop.example/g00972/laws.FnExactMainBack", spec := "fnExactMainBack", apart := false, narrowed := true }
def FnExactMainBackUptoSaid : Prop := fnExactMainBackUptoRow.holds Try.pinned (OpenSpec.upto fnExactMainBackSpec)

/-- 'laws.FnExactCrossBack', WHERE WHAT IT READS IS OF BULK AT MOST 1048576: true; the input reads as it did. -/
def fnExactCrossBackUptoRow : OpenClaim := { program := "ythnfgdflnlafiaa", sum := "83ac57c0a7f8a4938e3a2be16b53a96495814bf21640bc78a0f9c60b50ee5f72", func := "loop.example/g00972/laws.FnExactCrossBack", spec := "fnExactCrossBack", apart := false, narrowed := true }
def FnExactCrossBackUptoSaid : Prop := fnExactCrossBackUptoRow.holds Try.pinned (OpenSpec.upto fnExactCrossBackSpec)

/-- 'laws.FnExactMainSides', WHERE WHAT IT READS IS OF BULK AT MOST 1048576: true; the input reads as it did. -/
def fnExactMainSidesUptoRow : OpenClaim := { program := "ythnfgdflnlafiaa", sum := "83ac57c0a7f8a4938e3a2be16b53a96495814bf21640bc78a0f9c60b50ee5f72", func := "loop.example/g00972/laws.FnExactMainSides", spec := "fnExactMainSides", unfollowed := true, recurses := true, apart := false, narrowed := true }
def FnExactMainSidesUptoSaid : Prop := fnExactMainSidesUptoRow.holds Try.pinned (OpenSpec.upto fnExactMainSidesSpec)

/-- 'laws.FnExactCrossSides', WHERE WHAT IT READS IS OF BULK AT MOST 1048576: true; the input reads as it did. -/
def fnExactCrossSidesUptoRow : OpenClaim := { program := "ythnfgdflnlafiaa", sum := "83ac57c0a7f8a4938e3a2be16b53a96495814bf21640bc78a0f9c60b50ee5f72", func := "loop.example/g00972/laws.FnExactCrossSides", spec := "fnExactCrossSides", unfollowed := true, recurses := true, apart := false, narrowed := true }
def FnExactCrossSidesUptoSaid : Prop := fnExactCrossSidesUptoRow.holds Try.pinned (OpenSpec.upto fnExactCrossSidesSpec)

/-- 'laws.FnExactAlignOf', WHERE WHAT IT READS IS OF BULK AT MOST 1048576: true; the input reads as it did. -/
def fnExactAlignOfUptoRow : OpenClaim := { program := "ythnfgdflnlafiaa", sum := "83ac57c0a7f8a4938e3a2be16b53a96495814bf21640bc78a0f9c60b50ee5f72", func := "loop.example/g00972/laws.FnExactAlignOf", spec := "fnExactAlignOf", apart := false, narrowed := true }
def FnExactAlignOfUptoSaid : Prop := fnExactAlignOfUptoRow.holds Try.pinned (OpenSpec.upto fnExactAlignOfSpec)

/-- 'laws.FnExactMirrored', WHERE WHAT IT READS IS OF BULK AT MOST 1048576: true; the input reads as it did. -/
def fnExactMirroredUptoRow : OpenClaim := { program := "ythnfgdflnlafiaa", sum := "83ac57c0a7f8a4938e3a2be16b53a96495814bf21640bc78a0f9c60b50ee5f72", func := "loop.example/g00972/laws.FnExactMirrored", spec := "fnExactMirrored", apart := false, narrowed := true }
def FnExactMirroredUptoSaid : Prop := fnExactMirroredUptoRow.holds Try.pinned (OpenSpec.upto fnExactMirroredSpec)

end Rows
end Go.Proofs.Ythnfgdflnlafiaa

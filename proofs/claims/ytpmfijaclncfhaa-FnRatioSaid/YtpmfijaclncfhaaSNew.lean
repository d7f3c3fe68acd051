/-
  The contract of spec.StyleNew: the new style. Conditions: none.
-/
import Derived.Test.YtpmfijaclncfhaaStyW
namespace Go.Proofs.Ytpmfijaclncfhaa
open Go.ChangeShapes Go.WideShapes Go.ChangeAt Go.RowKit
set_option linter.unusedSimpArgs false

/-- The new style. -/
def newF (i : Nat) : Int := if i = 0 ∨ i = 5 then 2 else if i = 1 ∨ i = 2 ∨ i = 3 then 1 else 0
theorem snew (w : World) :
    Calls Try.prog 50 #[] w fun e w' => e = .returned (.agg (sCells newF)) ∧ Below w.heap.size w w' := by
  go_enter Try.func50, Try.ntmps50
  have hz := Lib.hid (hp_new w (.cells (sCells fun _ => 0) 31))
  have h9 := Lib.hid (setRow_heap _ _ _ (sCells newF) _ _ (hp_new w (.cells (sCells fun _ => 0) 31)))
  have b9 := Lib.hid (below_setRow (Go.Joins.below_alloc1 w (.cells (sCells fun _ => 0) 31)) (g := w.heap.size) (Nat.le_refl _) (sCells newF))
  go_wp2_with (first
    | ((with_reducible apply list_alloc_sty); exact rfl; exact rfl; simp only [World.size_alloc, Act.put, List.setIfInBounds_toArray, List.set_cons_succ, List.set_cons_zero])
    | ((with_reducible apply list_build_sty (f := newF)); exact rfl; exact rfl; (kernel_rfl); simp only [Act.put, List.setIfInBounds_toArray, List.set_cons_succ, List.set_cons_zero])
    | ((with_reducible apply list_store_sty); exact rfl; exact rfl; exact rfl; exact rfl; (with_reducible exact hz.out); simp only [Act.put, List.setIfInBounds_toArray, List.set_cons_succ, List.set_cons_zero]))
  exact bodyPost_ret (results_sty rfl rfl h9.out) rfl ⟨rfl, b9.out⟩
end Go.Proofs.Ytpmfijaclncfhaa

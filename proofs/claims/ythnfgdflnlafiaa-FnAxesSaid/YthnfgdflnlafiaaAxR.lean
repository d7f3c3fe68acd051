/-
  The contracts of IsRow (program and model). Conditions: none.
-/
import Derived.Test.YthnfgdflnlafiaaSty
namespace Go.Proofs.Ythnfgdflnlafiaa
open Go.ChangeShapes Go.WideShapes Go.ChangeAt Go.RowKit
set_option linter.unusedSimpArgs false
set_option linter.unusedVariables false

/-- The main axis is horizontal. -/
def rowI (z : Int) : Bool := decide (z = 1) || decide (z = 3)
theorem srow (f : Nat → Int) (w : World) :
    Calls Try.prog 20 #[.agg (sCells f)] w fun e w' => e = .returned (.bool (rowI (f 0))) ∧ Below w.heap.size w w' := by
  have h0 := hp_new w (.cells (sCells f) 31)
  have bb : Below w.heap.size w (w.alloc (.cells (sCells f) 31)) := Go.Joins.below_alloc1 ..
  obtain ⟨u, eu⟩ : ∃ u, u = w.alloc (.cells (sCells f) 31) := ⟨_, rfl⟩
  rw [← eu] at h0 bb
  have EU := Lib.hid eu
  clear eu
  have c0 := sty_int h0 0 (by decide)
  generalize f 0 = z at *
  by_cases e1 : z = 1 <;> by_cases e3 : z = 3 <;> (try omega)
  all_goals
    go_enter Try.func20, Try.ntmps20
    go_wp2_with (rw [← EU.out])
    go_ret
    exact ⟨by simp [rowI, e1, e3], bb⟩
theorem irow (f : Nat → Int) (w : World) :
    Calls Try.prog 16 #[.agg (sCells f)] w fun e w' => e = .returned (.bool (rowI (f 0))) ∧ Below w.heap.size w w' := by
  have h0 := hp_new w (.cells (sCells f) 31)
  have bb : Below w.heap.size w (w.alloc (.cells (sCells f) 31)) := Go.Joins.below_alloc1 ..
  obtain ⟨u, eu⟩ : ∃ u, u = w.alloc (.cells (sCells f) 31) := ⟨_, rfl⟩
  rw [← eu] at h0 bb
  have EU := Lib.hid eu
  clear eu
  have c0 := sty_int h0 0 (by decide)
  generalize f 0 = z at *
  by_cases e1 : z = 1 <;> by_cases e3 : z = 3 <;> (try omega)
  all_goals
    go_enter Try.func16, Try.ntmps16
    go_wp2_with (rw [← EU.out])
    go_ret
    exact ⟨by simp [rowI, e1, e3], bb⟩
end Go.Proofs.Ythnfgdflnlafiaa

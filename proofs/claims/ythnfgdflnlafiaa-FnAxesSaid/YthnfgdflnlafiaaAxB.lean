/-
  The contracts of MainBack and CrossBack (program and model). Conditions: none.
-/
import Derived.Test.YthnfgdflnlafiaaAxR
import Derived.Test.YthnfgdflnlafiaaStyW
import Derived.Lib.QuietBelow
import Derived.BigQuiet
namespace Go.Proofs.Ythnfgdflnlafiaa
open Go.ChangeShapes Go.WideShapes Go.ChangeAt Go.RowKit
set_option linter.unusedSimpArgs false
set_option linter.unusedVariables false

/-- The main axis begins at its end. -/
def mbI (z : Int) (r : Bool) : Bool := if z = 1 then r else if z = 3 then !r else decide (z = 4)
/-- The cross axis begins at its end. -/
def cbI (z y : Int) (r : Bool) : Bool := (y == 3) != (r && !rowI z)
theorem smback (f : Nat → Int) (r : Bool) (w : World) :
    Calls Try.prog 22 #[.agg (sCells f), .bool r] w fun e w' => e = .returned (.bool (mbI (f 0) r)) ∧ Below w.heap.size w w' := by
  have h0 := hp_new w (.cells (sCells f) 31)
  have bb : Below w.heap.size w (w.alloc (.cells (sCells f) 31)) := Go.Joins.below_alloc1 ..
  obtain ⟨u, eu⟩ : ∃ u, u = w.alloc (.cells (sCells f) 31) := ⟨_, rfl⟩
  rw [← eu] at h0 bb
  have EU := Lib.hid eu
  clear eu
  have c0 := sty_int h0 0 (by decide)
  generalize f 0 = z at *
  by_cases e1 : z = 1 <;> by_cases e3 : z = 3 <;> by_cases e4 : z = 4 <;> (try omega)
  all_goals
    go_enter Try.func22, Try.ntmps22
    go_wp2_with (rw [← EU.out])
    all_goals (go_ret; exact ⟨by simp [mbI, e1, e3, e4], bb⟩)
theorem imback (f : Nat → Int) (r : Bool) (w : World) :
    Calls Try.prog 21 #[.agg (sCells f), .bool r] w fun e w' => e = .returned (.bool (mbI (f 0) r)) ∧ Below w.heap.size w w' := by
  have h0 := hp_new w (.cells (sCells f) 31)
  have bb : Below w.heap.size w (w.alloc (.cells (sCells f) 31)) := Go.Joins.below_alloc1 ..
  obtain ⟨u, eu⟩ : ∃ u, u = w.alloc (.cells (sCells f) 31) := ⟨_, rfl⟩
  rw [← eu] at h0 bb
  have EU := Lib.hid eu
  clear eu
  have c0 := sty_int h0 0 (by decide)
  generalize f 0 = z at *
  by_cases e1 : z = 1 <;> by_cases e3 : z = 3 <;> by_cases e4 : z = 4 <;> (try omega)
  all_goals
    go_enter Try.func21, Try.ntmps21
    go_wp2_with (rw [← EU.out])
    all_goals (go_ret; exact ⟨by simp [mbI, e1, e3, e4], bb⟩)
theorem scback (f : Nat → Int) (r : Bool) (w : World) :
    Calls Try.prog 24 #[.agg (sCells f), .bool r] w fun e w' => e = .returned (.bool (cbI (f 0) (f 1) r)) ∧ Below w.heap.size w w' := by
  have h0 := hp_new w (.cells (sCells f) 31)
  have bb : Below w.heap.size w (w.alloc (.cells (sCells f) 31)) := Go.Joins.below_alloc1 ..
  obtain ⟨u, eu⟩ : ∃ u, u = w.alloc (.cells (sCells f) 31) := ⟨_, rfl⟩
  rw [← eu] at h0 bb
  have EU := Lib.hid eu
  clear eu
  have c1 := sty_int h0 1 (by decide)
  have l1 := sty_int_regrown h0 1 (by decide)
  have hr := srow f
  generalize hq : rowI (f 0) = q at *
  cases r
  all_goals
    go_enter Try.func24, Try.ntmps24
    go_wp2_with (rw [← EU.out])
    refine wp_region_quiet_below (by kernel_rfl) (by kernel_rfl) ?_
    repeat (first | (go_big_quiet_want; (with_reducible apply quiet_sty); exact rfl; exact rfl; (with_reducible exact h0); simp only [Act.put, List.setIfInBounds_toArray, List.set_cons_succ, List.set_cons_zero]; go_big_quiet_on) | go_big_quiet_step (first | (go_at_call 20; exact Calls.regrown_of (hr _)) | fail))
    refine wpQuiet_nil ?_
    intro _ hw'
    obtain ⟨⟨dq, osq⟩, hw''⟩ := hw'
    subst hw''
    go_wp2
    go_ret
    exact ⟨by simp [cbI, hq]; try (cases q <;> cases (f 1 == 3) <;> rfl), bb.trans ((below_regrown u dq osq).mono bb.size)⟩
theorem icback (f : Nat → Int) (r : Bool) (w : World) :
    Calls Try.prog 23 #[.agg (sCells f), .bool r] w fun e w' => e = .returned (.bool (cbI (f 0) (f 1) r)) ∧ Below w.heap.size w w' := by
  have h0 := hp_new w (.cells (sCells f) 31)
  have bb : Below w.heap.size w (w.alloc (.cells (sCells f) 31)) := Go.Joins.below_alloc1 ..
  obtain ⟨u, eu⟩ : ∃ u, u = w.alloc (.cells (sCells f) 31) := ⟨_, rfl⟩
  rw [← eu] at h0 bb
  have EU := Lib.hid eu
  clear eu
  have c1 := sty_int h0 1 (by decide)
  have l1 := sty_int_regrown h0 1 (by decide)
  have hr := irow f
  generalize hq : rowI (f 0) = q at *
  cases r
  all_goals
    go_enter Try.func23, Try.ntmps23
    go_wp2_with (rw [← EU.out])
    refine wp_region_quiet_below (by kernel_rfl) (by kernel_rfl) ?_
    repeat (first | (go_big_quiet_want; (with_reducible apply quiet_sty); exact rfl; exact rfl; (with_reducible exact h0); simp only [Act.put, List.setIfInBounds_toArray, List.set_cons_succ, List.set_cons_zero]; go_big_quiet_on) | go_big_quiet_step (first | (go_at_call 16; exact Calls.regrown_of (hr _)) | fail))
    refine wpQuiet_nil ?_
    intro _ hw'
    obtain ⟨⟨dq, osq⟩, hw''⟩ := hw'
    subst hw''
    go_wp2
    go_ret
    exact ⟨by simp [cbI, hq]; try (cases q <;> cases (f 1 == 3) <;> rfl), bb.trans ((below_regrown u dq osq).mono bb.size)⟩
end Go.Proofs.Ythnfgdflnlafiaa

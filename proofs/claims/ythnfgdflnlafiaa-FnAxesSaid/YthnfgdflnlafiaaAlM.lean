/-
  The contracts of AlignOf (program and model). Conditions: none.
-/
import Derived.Test.YthnfgdflnlafiaaAxR
import Derived.Test.YthnfgdflnlafiaaStyW
namespace Go.Proofs.Ythnfgdflnlafiaa
open Go.ChangeShapes Go.WideShapes Go.ChangeAt Go.RowKit
set_option linter.unusedSimpArgs false
set_option linter.unusedVariables false

/-- The alignment of a child. -/
def alI (z it se : Int) : Int := if (if se = 0 then it else se) = 5 ∧ rowI z = false then 2 else if se = 0 then it else se
theorem salign (f g : Nat → Int) (w : World) :
    Calls Try.prog 26 #[.agg (sCells f), .agg (sCells g)] w fun e w' => e = .returned (.int .i64 (alI (f 0) (f 3) (g 4))) ∧ Below w.heap.size w w' := by
  have h0 := hp_on (hp_new w (.cells (sCells f) 31)) (.cells (sCells g) 31)
  have h1 := hp_new (w.alloc (.cells (sCells f) 31)) (.cells (sCells g) 31)
  have bb := Go.Joins.below_alloc2 w (.cells (sCells f) 31) (.cells (sCells g) 31)
  simp only [World.size_alloc] at h0 h1
  obtain ⟨u, eu⟩ : ∃ u, u = (w.alloc (.cells (sCells f) 31)).alloc (.cells (sCells g) 31) := ⟨_, rfl⟩
  rw [← eu] at h0 h1 bb
  have EU := Lib.hid eu
  clear eu
  have c3 := sty_int h0 3 (by decide)
  have c4 := sty_int h1 4 (by decide)
  have hr := srow f
  generalize g 4 = se at *
  generalize f 3 = it at *
  generalize hq : rowI (f 0) = q at *
  by_cases e0 : se = 0
  · by_cases e5 : it = 5
    · (try subst e5)
      go_enter Try.func26, Try.ntmps26
      go_wp2_with (first | (rw [← EU.out]) | ((with_reducible apply list_load_gsty); exact rfl; exact rfl; exact rfl; (with_reducible exact h0); simp only [World.size_alloc, Act.put, List.setIfInBounds_toArray, List.set_cons_succ, List.set_cons_zero]))
      refine (hr _).mono ?_
      rintro e w1 ⟨rfl, b1⟩
      replace bb := bb.trans (b1.mono bb.size)
      cases q
      all_goals
        go_wp2
        go_ret
        exact ⟨by simp [alI, hq, e0], bb⟩
    ·
      go_enter Try.func26, Try.ntmps26
      go_wp2_with (rw [← EU.out])
      go_ret
      exact ⟨by simp [alI, e0, e5], bb⟩
  · by_cases e5 : se = 5
    · (try subst e5)
      go_enter Try.func26, Try.ntmps26
      go_wp2_with (first | (rw [← EU.out]) | ((with_reducible apply list_load_gsty); exact rfl; exact rfl; exact rfl; (with_reducible exact h0); simp only [World.size_alloc, Act.put, List.setIfInBounds_toArray, List.set_cons_succ, List.set_cons_zero]))
      refine (hr _).mono ?_
      rintro e w1 ⟨rfl, b1⟩
      replace bb := bb.trans (b1.mono bb.size)
      cases q
      all_goals
        go_wp2
        go_ret
        exact ⟨by simp [alI, hq, e0], bb⟩
    ·
      go_enter Try.func26, Try.ntmps26
      go_wp2_with (rw [← EU.out])
      go_ret
      exact ⟨by simp [alI, e0, e5], bb⟩
theorem ialign (f g : Nat → Int) (w : World) :
    Calls Try.prog 25 #[.agg (sCells f), .agg (sCells g)] w fun e w' => e = .returned (.int .i64 (alI (f 0) (f 3) (g 4))) ∧ Below w.heap.size w w' := by
  have h0 := hp_on (hp_new w (.cells (sCells f) 31)) (.cells (sCells g) 31)
  have h1 := hp_new (w.alloc (.cells (sCells f) 31)) (.cells (sCells g) 31)
  have bb := Go.Joins.below_alloc2 w (.cells (sCells f) 31) (.cells (sCells g) 31)
  simp only [World.size_alloc] at h0 h1
  obtain ⟨u, eu⟩ : ∃ u, u = (w.alloc (.cells (sCells f) 31)).alloc (.cells (sCells g) 31) := ⟨_, rfl⟩
  rw [← eu] at h0 h1 bb
  have EU := Lib.hid eu
  clear eu
  have c3 := sty_int h0 3 (by decide)
  have c4 := sty_int h1 4 (by decide)
  have hr := irow f
  generalize g 4 = se at *
  generalize f 3 = it at *
  generalize hq : rowI (f 0) = q at *
  by_cases e0 : se = 0
  · by_cases e5 : it = 5
    · (try subst e5)
      go_enter Try.func25, Try.ntmps25
      go_wp2_with (first | (rw [← EU.out]) | ((with_reducible apply list_load_gsty); exact rfl; exact rfl; exact rfl; (with_reducible exact h0); simp only [World.size_alloc, Act.put, List.setIfInBounds_toArray, List.set_cons_succ, List.set_cons_zero]))
      refine (hr _).mono ?_
      rintro e w1 ⟨rfl, b1⟩
      replace bb := bb.trans (b1.mono bb.size)
      cases q
      all_goals
        go_wp2
        go_ret
        exact ⟨by simp [alI, hq, e0], bb⟩
    ·
      go_enter Try.func25, Try.ntmps25
      go_wp2_with (rw [← EU.out])
      go_ret
      exact ⟨by simp [alI, e0, e5], bb⟩
  · by_cases e5 : se = 5
    · (try subst e5)
      go_enter Try.func25, Try.ntmps25
      go_wp2_with (first | (rw [← EU.out]) | ((with_reducible apply list_load_gsty); exact rfl; exact rfl; exact rfl; (with_reducible exact h0); simp only [World.size_alloc, Act.put, List.setIfInBounds_toArray, List.set_cons_succ, List.set_cons_zero]))
      refine (hr _).mono ?_
      rintro e w1 ⟨rfl, b1⟩
      replace bb := bb.trans (b1.mono bb.size)
      cases q
      all_goals
        go_wp2
        go_ret
        exact ⟨by simp [alI, hq, e0], bb⟩
    ·
      go_enter Try.func25, Try.ntmps25
      go_wp2_with (rw [← EU.out])
      go_ret
      exact ⟨by simp [alI, e0, e5], bb⟩
end Go.Proofs.Ythnfgdflnlafiaa

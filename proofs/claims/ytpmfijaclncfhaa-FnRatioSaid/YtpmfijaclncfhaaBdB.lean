/-
  The contracts of Bounded and GivenOf (program and model). Conditions: none.
-/
import Derived.Test.YtpmfijaclncfhaaBdS
import Derived.Test.YtpmfijaclncfhaaBdX
import Derived.Test.YtpmfijaclncfhaaBdR
namespace Go.Proofs.Ytpmfijaclncfhaa
open Go.ChangeShapes Go.WideShapes Go.ChangeAt Go.RowKit
set_option linter.unusedSimpArgs false
set_option linter.unusedVariables false

theorem switB (n a b : Int) (w : World) :
    Calls Try.prog 46 #[.int .i64 n, .int .i64 a, .int .i64 b] w fun e w' => e = .returned (.int .i64 (wiI n a b)) ∧ Below w.heap.size w w' := (swit_any n a b w).mono fun e w' h => ⟨h.1, h.2 ▸ Below.refl _ _⟩
theorem sclampedB (n : Int) (w : World) :
    Calls Try.prog 33 #[.int .i64 n] w fun e w' => e = .returned (.int .i64 (clI n)) ∧ Below w.heap.size w w' := (sclamped n w).mono fun e w' h => ⟨h.1, h.2 ▸ Below.refl _ _⟩
theorem sbounded (f : Nat → Int) (b : Bool) (base n : Int) (w : World) :
    Calls Try.prog 17 #[.agg (sCells f), .bool b, .int .i64 base, .int .i64 n] w fun e w' => e = .returned (.int .i64 (bdI f b base n)) ∧ Below w.heap.size w w' := by
  have h0 := hp_new w (.cells (sCells f) 31)
  have bb : Below w.heap.size w (w.alloc (.cells (sCells f) 31)) := Go.Joins.below_alloc1 ..
  obtain ⟨u, eu⟩ : ∃ u, u = w.alloc (.cells (sCells f) 31) := ⟨_, rfl⟩
  rw [← eu] at h0 bb
  have EU := Lib.hid eu
  clear eu
  have k1 := sleast f b base
  have k2 := smost f b base
  unfold bdI
  generalize leI f b base = x at *
  generalize vzI f b 21 base = y at *
  have k3 := switB n x y
  have k4 := sclampedB (wiI n x y)
  go_enter Try.func17, Try.ntmps17
  go_wp2_with (rw [← EU.out])
  refine wp_region_quiet_below (by kernel_rfl) (by kernel_rfl) ?_
  repeat (first | (go_big_quiet_want; (with_reducible apply quiet_sty); exact rfl; exact rfl; (with_reducible exact h0); simp only [Act.put, List.setIfInBounds_toArray, List.set_cons_succ, List.set_cons_zero]; go_big_quiet_on) | go_big_quiet_step (first | (go_at_call 18; exact Calls.regrown_of (k1 _)) | (go_at_call 19; exact Calls.regrown_of (k2 _)) | (go_at_call 46; exact Calls.regrown_of (k3 _)) | (go_at_call 33; exact Calls.regrown_of (k4 _)) | fail))
  refine wpQuiet_nil ?_
  intro _ hw'
  obtain ⟨⟨dq, osq⟩, hw''⟩ := hw'
  subst hw''
  replace bb := bb.trans ((below_regrown u dq osq).mono bb.size)
  go_wp2
  go_ret
  exact ⟨rfl, bb⟩
theorem iwitB (n a b : Int) (w : World) :
    Calls Try.prog 42 #[.int .i64 n, .int .i64 a, .int .i64 b] w fun e w' => e = .returned (.int .i64 (wiI n a b)) ∧ Below w.heap.size w w' := (iwit_any n a b w).mono fun e w' h => ⟨h.1, h.2 ▸ Below.refl _ _⟩
theorem iclampedB (n : Int) (w : World) :
    Calls Try.prog 41 #[.int .i64 n] w fun e w' => e = .returned (.int .i64 (clI n)) ∧ Below w.heap.size w w' := (iclamped n w).mono fun e w' h => ⟨h.1, h.2 ▸ Below.refl _ _⟩
theorem ibounded (f : Nat → Int) (b : Bool) (base n : Int) (w : World) :
    Calls Try.prog 14 #[.agg (sCells f), .bool b, .int .i64 base, .int .i64 n] w fun e w' => e = .returned (.int .i64 (bdI f b base n)) ∧ Below w.heap.size w w' := by
  have h0 := hp_new w (.cells (sCells f) 31)
  have bb : Below w.heap.size w (w.alloc (.cells (sCells f) 31)) := Go.Joins.below_alloc1 ..
  obtain ⟨u, eu⟩ : ∃ u, u = w.alloc (.cells (sCells f) 31) := ⟨_, rfl⟩
  rw [← eu] at h0 bb
  have EU := Lib.hid eu
  clear eu
  have k1 := ileast f b base
  have k2 := imost f b base
  unfold bdI
  generalize leI f b base = x at *
  generalize vzI f b 21 base = y at *
  have k3 := iwitB n x y
  have k4 := iclampedB (wiI n x y)
  go_enter Try.func14, Try.ntmps14
  go_wp2_with (rw [← EU.out])
  refine wp_region_quiet_below (by kernel_rfl) (by kernel_rfl) ?_
  repeat (first | (go_big_quiet_want; (with_reducible apply quiet_sty); exact rfl; exact rfl; (with_reducible exact h0); simp only [Act.put, List.setIfInBounds_toArray, List.set_cons_succ, List.set_cons_zero]; go_big_quiet_on) | go_big_quiet_step (first | (go_at_call 15; exact Calls.regrown_of (k1 _)) | (go_at_call 16; exact Calls.regrown_of (k2 _)) | (go_at_call 42; exact Calls.regrown_of (k3 _)) | (go_at_call 41; exact Calls.regrown_of (k4 _)) | fail))
  refine wpQuiet_nil ?_
  intro _ hw'
  obtain ⟨⟨dq, osq⟩, hw''⟩ := hw'
  subst hw''
  replace bb := bb.trans ((below_regrown u dq osq).mono bb.size)
  go_wp2
  go_ret
  exact ⟨rfl, bb⟩
theorem igiven (f : Nat → Int) (b : Bool) (base n : Int) (w : World) :
    Calls Try.prog 26 #[.agg (sCells f), .bool b, .int .i64 base, .int .i64 n] w fun e w' => e = .returned (.int .i64 (giI f b base n)) ∧ Below w.heap.size w w' := by
  have h0 := hp_new w (.cells (sCells f) 31)
  have bb : Below w.heap.size w (w.alloc (.cells (sCells f) 31)) := Go.Joins.below_alloc1 ..
  obtain ⟨u, eu⟩ : ∃ u, u = w.alloc (.cells (sCells f) 31) := ⟨_, rfl⟩
  rw [← eu] at h0 bb
  have EU := Lib.hid eu
  clear eu
  have k1 := ifixed f b base
  have k2 := iratio f b n
  unfold giI
  generalize vzI f b 13 base = x at *
  generalize raI f b n = y at *
  have k3 := iorelseB x y
  go_enter Try.func26, Try.ntmps26
  go_wp2_with (rw [← EU.out])
  refine wp_region_quiet_below (by kernel_rfl) (by kernel_rfl) ?_
  repeat (first | (go_big_quiet_want; (with_reducible apply quiet_sty); exact rfl; exact rfl; (with_reducible exact h0); simp only [Act.put, List.setIfInBounds_toArray, List.set_cons_succ, List.set_cons_zero]; go_big_quiet_on) | go_big_quiet_step (first | (go_at_call 24; exact Calls.regrown_of (k1 _)) | (go_at_call 29; exact Calls.regrown_of (k2 _)) | (go_at_call 55; exact Calls.regrown_of (k3 _)) | fail))
  refine wpQuiet_nil ?_
  intro _ hw'
  obtain ⟨⟨dq, osq⟩, hw''⟩ := hw'
  subst hw''
  replace bb := bb.trans ((below_regrown u dq osq).mono bb.size)
  go_wp2
  go_ret
  exact ⟨rfl, bb⟩
theorem sgiven (f : Nat → Int) (b : Bool) (base n : Int) (w : World) :
    Calls Try.prog 27 #[.agg (sCells f), .bool b, .int .i64 base, .int .i64 n] w fun e w' => e = .returned (.int .i64 (giI f b base n)) ∧ Below w.heap.size w w' := by
  have h0 := hp_new w (.cells (sCells f) 31)
  have bb : Below w.heap.size w (w.alloc (.cells (sCells f) 31)) := Go.Joins.below_alloc1 ..
  obtain ⟨u, eu⟩ : ∃ u, u = w.alloc (.cells (sCells f) 31) := ⟨_, rfl⟩
  rw [← eu] at h0 bb
  have EU := Lib.hid eu
  clear eu
  have k1 := sfixed f b base
  have k2 := sratio f b n
  unfold giI orI
  generalize vzI f b 13 base = x at *
  generalize raI f b n = y at *
  by_cases e1 : x = -1
  · subst e1
    rw [if_pos rfl]
    go_enter Try.func27, Try.ntmps27
    go_wp2_with (first | (rw [← EU.out]) | ((with_reducible apply list_load_sty); exact rfl; exact rfl; exact rfl; (with_reducible exact h0); simp only [World.size_alloc, Act.put, List.setIfInBounds_toArray, List.set_cons_succ, List.set_cons_zero]))
    (try dsimp only)
    refine (k1 _).mono ?_
    rintro e w1 ⟨rfl, b1⟩
    replace h0 := hp_below h0 b1
    replace bb := bb.trans (b1.mono bb.size)
    clear b1
    go_wp2_with ((with_reducible apply list_load_sty); exact rfl; exact rfl; exact rfl; (with_reducible exact h0); simp only [World.size_alloc, Act.put, List.setIfInBounds_toArray, List.set_cons_succ, List.set_cons_zero])
    (try dsimp only)
    refine (k2 _).mono ?_
    rintro e w2 ⟨rfl, b2⟩
    replace bb := bb.trans (b2.mono bb.size)
    clear b2
    go_wp2
    go_ret
    exact ⟨rfl, bb⟩
  · rw [if_neg e1]
    go_enter Try.func27, Try.ntmps27
    go_wp2_with (first | (rw [← EU.out]) | ((with_reducible apply list_load_sty); exact rfl; exact rfl; exact rfl; (with_reducible exact h0); simp only [World.size_alloc, Act.put, List.setIfInBounds_toArray, List.set_cons_succ, List.set_cons_zero]))
    (try dsimp only)
    refine (k1 _).mono ?_
    rintro e w1 ⟨rfl, b1⟩
    replace bb := bb.trans (b1.mono bb.size)
    clear b1
    go_wp2
    go_ret
    exact ⟨rfl, bb⟩
end Go.Proofs.Ytpmfijaclncfhaa

/-
  The contracts of MainSides and CrossSides (program and model), and of the functions that they stand on. Conditions: none.
-/
import Derived.Test.YthnfgdflnlafiaaAxB
namespace Go.Proofs.Ythnfgdflnlafiaa
open Go.ChangeShapes Go.WideShapes Go.ChangeAt Go.RowKit
set_option linter.unusedSimpArgs false
set_option linter.unusedVariables false

/-- The side at which an axis begins, and the one at which it ends. -/
def sdA (wide back : Bool) : Int := if wide then (if back then 2 else 0) else (if back then 3 else 1)
def sdB (wide back : Bool) : Int := if wide then (if back then 0 else 2) else (if back then 1 else 3)
def fnW : Bool → Value
  | true => .func (.func 41) #[] #[]
  | false => .func (.func 42) #[] #[]
theorem ssides (q b : Bool) (w : World) :
    Calls Try.prog 33 #[.bool q, .bool b] w fun e w' => e = .returned (.tuple #[.int .i64 (sdA q b), .int .i64 (sdB q b)]) ∧ w' = w := by
  cases q <;> cases b
  all_goals
    go_enter Try.func33, Try.ntmps33
    go_wp2
    go_ret2
    exact ⟨rfl, rfl⟩
theorem ssidesB (q b : Bool) (w : World) :
    Calls Try.prog 33 #[.bool q, .bool b] w fun e w' => e = .returned (.tuple #[.int .i64 (sdA q b), .int .i64 (sdB q b)]) ∧ Below w.heap.size w w' := (ssides q b w).mono fun e w' h => ⟨h.1, h.2 ▸ Below.refl _ _⟩
theorem iwid (x y : Int) (w : World) :
    Calls Try.prog 41 #[.int .i64 x, .int .i64 y] w fun e w' => e = .returned (.int .i64 x) ∧ w' = w := by
  go_enter Try.func41, Try.ntmps41
  go_wp2
  go_ret
  exact ⟨rfl, rfl⟩
theorem ihig (x y : Int) (w : World) :
    Calls Try.prog 42 #[.int .i64 x, .int .i64 y] w fun e w' => e = .returned (.int .i64 y) ∧ w' = w := by
  go_enter Try.func42, Try.ntmps42
  go_wp2
  go_ret
  exact ⟨rfl, rfl⟩
theorem isides_true (b : Bool) (w : World) :
    Calls Try.prog 32 #[.func (.func 41) #[] #[], .bool b] w fun e w' => e = .returned (.tuple #[.int .i64 (sdA true b), .int .i64 (sdB true b)]) ∧ w' = w := by
  go_enter Try.func32, Try.ntmps32
  go_wp2_with (fail)
  refine (iwid _ _ _).mono ?_
  rintro e w1 ⟨rfl, rfl⟩
  go_wp2_with (fail)
  refine (iwid _ _ _).mono ?_
  rintro e w2 ⟨rfl, rfl⟩
  cases b
  all_goals
    go_wp2
    go_ret2
    exact ⟨rfl, rfl⟩
theorem isides_false (b : Bool) (w : World) :
    Calls Try.prog 32 #[.func (.func 42) #[] #[], .bool b] w fun e w' => e = .returned (.tuple #[.int .i64 (sdA false b), .int .i64 (sdB false b)]) ∧ w' = w := by
  go_enter Try.func32, Try.ntmps32
  go_wp2_with (fail)
  refine (ihig _ _ _).mono ?_
  rintro e w1 ⟨rfl, rfl⟩
  go_wp2_with (fail)
  refine (ihig _ _ _).mono ?_
  rintro e w2 ⟨rfl, rfl⟩
  cases b
  all_goals
    go_wp2
    go_ret2
    exact ⟨rfl, rfl⟩
theorem isides (q b : Bool) (w : World) :
    Calls Try.prog 32 #[fnW q, .bool b] w fun e w' => e = .returned (.tuple #[.int .i64 (sdA q b), .int .i64 (sdB q b)]) ∧ w' = w := by
  cases q
  · exact isides_false b w
  · exact isides_true b w
theorem idims (f : Nat → Int) (w : World) :
    Calls Try.prog 31 #[.agg (sCells f)] w fun e w' => e = .returned (.tuple #[fnW (rowI (f 0)), fnW (!rowI (f 0))]) ∧ Below w.heap.size w w' := by
  have h0 := hp_new w (.cells (sCells f) 31)
  have bb : Below w.heap.size w (w.alloc (.cells (sCells f) 31)) := Go.Joins.below_alloc1 ..
  obtain ⟨u, eu⟩ : ∃ u, u = w.alloc (.cells (sCells f) 31) := ⟨_, rfl⟩
  rw [← eu] at h0 bb
  have EU := Lib.hid eu
  clear eu
  have hr := irow f
  generalize rowI (f 0) = q at *
  cases q
  all_goals
    go_enter Try.func31, Try.ntmps31
    go_wp2_with (first | (rw [← EU.out]) | ((with_reducible apply list_load_sty); exact rfl; exact rfl; exact rfl; (with_reducible exact h0); simp only [World.size_alloc, Act.put, List.setIfInBounds_toArray, List.set_cons_succ, List.set_cons_zero]))
    refine (hr _).mono ?_
    rintro e w1 ⟨rfl, b1⟩
    replace bb := bb.trans (b1.mono bb.size)
    go_wp2
    go_ret2
    exact ⟨rfl, bb⟩
theorem imain (f : Nat → Int) (r : Bool) (w : World) :
    Calls Try.prog 13 #[.agg (sCells f), .bool r] w fun e w' => e = .returned (.tuple #[.int .i64 (sdA (rowI (f 0)) (mbI (f 0) r)), .int .i64 (sdB (rowI (f 0)) (mbI (f 0) r))]) ∧ Below w.heap.size w w' := by
  have h0 := hp_new w (.cells (sCells f) 31)
  have bb : Below w.heap.size w (w.alloc (.cells (sCells f) 31)) := Go.Joins.below_alloc1 ..
  obtain ⟨u, eu⟩ : ∃ u, u = w.alloc (.cells (sCells f) 31) := ⟨_, rfl⟩
  rw [← eu] at h0 bb
  have EU := Lib.hid eu
  clear eu
  have hd := idims f
  have hb := imback f r
  generalize rowI (f 0) = q at *
  generalize mbI (f 0) r = b at *
  go_enter Try.func13, Try.ntmps13
  go_wp2_with (first | (rw [← EU.out]) | ((with_reducible apply list_load_sty); exact rfl; exact rfl; exact rfl; (with_reducible exact h0); simp only [World.size_alloc, Act.put, List.setIfInBounds_toArray, List.set_cons_succ, List.set_cons_zero]))
  refine (hd _).mono ?_
  rintro e w1 ⟨rfl, b1⟩
  replace h0 := hp_below h0 b1
  replace bb := bb.trans (b1.mono bb.size)
  clear b1
  go_wp2_with ((with_reducible apply list_load_sty); exact rfl; exact rfl; exact rfl; (with_reducible exact h0); simp only [World.size_alloc, Act.put, List.setIfInBounds_toArray, List.set_cons_succ, List.set_cons_zero])
  refine (hb _).mono ?_
  rintro e w2 ⟨rfl, b2⟩
  replace bb := bb.trans (b2.mono bb.size)
  clear b2 h0
  go_wp2_with (fail)
  refine (isides _ b _).mono ?_
  rintro e w3 ⟨rfl, rfl⟩
  go_wp2
  go_ret2
  exact ⟨rfl, bb⟩
theorem icross (f : Nat → Int) (r : Bool) (w : World) :
    Calls Try.prog 14 #[.agg (sCells f), .bool r] w fun e w' => e = .returned (.tuple #[.int .i64 (sdA (!rowI (f 0)) (cbI (f 0) (f 1) r)), .int .i64 (sdB (!rowI (f 0)) (cbI (f 0) (f 1) r))]) ∧ Below w.heap.size w w' := by
  have h0 := hp_new w (.cells (sCells f) 31)
  have bb : Below w.heap.size w (w.alloc (.cells (sCells f) 31)) := Go.Joins.below_alloc1 ..
  obtain ⟨u, eu⟩ : ∃ u, u = w.alloc (.cells (sCells f) 31) := ⟨_, rfl⟩
  rw [← eu] at h0 bb
  have EU := Lib.hid eu
  clear eu
  have hd := idims f
  have hb := icback f r
  generalize rowI (f 0) = q at *
  generalize cbI (f 0) (f 1) r = b at *
  go_enter Try.func14, Try.ntmps14
  go_wp2_with (first | (rw [← EU.out]) | ((with_reducible apply list_load_sty); exact rfl; exact rfl; exact rfl; (with_reducible exact h0); simp only [World.size_alloc, Act.put, List.setIfInBounds_toArray, List.set_cons_succ, List.set_cons_zero]))
  refine (hd _).mono ?_
  rintro e w1 ⟨rfl, b1⟩
  replace h0 := hp_below h0 b1
  replace bb := bb.trans (b1.mono bb.size)
  clear b1
  go_wp2_with ((with_reducible apply list_load_sty); exact rfl; exact rfl; exact rfl; (with_reducible exact h0); simp only [World.size_alloc, Act.put, List.setIfInBounds_toArray, List.set_cons_succ, List.set_cons_zero])
  refine (hb _).mono ?_
  rintro e w2 ⟨rfl, b2⟩
  replace bb := bb.trans (b2.mono bb.size)
  clear b2 h0
  go_wp2_with (fail)
  refine (isides _ b _).mono ?_
  rintro e w3 ⟨rfl, rfl⟩
  go_wp2
  go_ret2
  exact ⟨rfl, bb⟩
theorem smain (f : Nat → Int) (r : Bool) (w : World) :
    Calls Try.prog 28 #[.agg (sCells f), .bool r] w fun e w' => e = .returned (.tuple #[.int .i64 (sdA (rowI (f 0)) (mbI (f 0) r)), .int .i64 (sdB (rowI (f 0)) (mbI (f 0) r))]) ∧ Below w.heap.size w w' := by
  have h0 := hp_new w (.cells (sCells f) 31)
  have bb : Below w.heap.size w (w.alloc (.cells (sCells f) 31)) := Go.Joins.below_alloc1 ..
  obtain ⟨u, eu⟩ : ∃ u, u = w.alloc (.cells (sCells f) 31) := ⟨_, rfl⟩
  rw [← eu] at h0 bb
  have EU := Lib.hid eu
  clear eu
  have hr := srow f
  have hb := smback f r
  generalize rowI (f 0) = q at *
  generalize mbI (f 0) r = b at *
  go_enter Try.func28, Try.ntmps28
  go_wp2_with (rw [← EU.out])
  refine wp_region_quiet_below (by kernel_rfl) (by kernel_rfl) ?_
  repeat (first | (go_big_quiet_want; (with_reducible apply quiet_sty); exact rfl; exact rfl; (with_reducible exact h0); simp only [Act.put, List.setIfInBounds_toArray, List.set_cons_succ, List.set_cons_zero]; go_big_quiet_on) | go_big_quiet_step (first | (go_at_call 20; exact Calls.regrown_of (hr _)) | (go_at_call 22; exact Calls.regrown_of (hb _)) | (go_at_call 33; exact Calls.regrown_of (ssidesB _ b _)) | fail))
  refine wpQuiet_nil ?_
  intro _ hw'
  obtain ⟨⟨dq, osq⟩, hw''⟩ := hw'
  subst hw''
  go_wp2
  go_ret2
  exact ⟨rfl, bb.trans ((below_regrown u dq osq).mono bb.size)⟩
theorem scross (f : Nat → Int) (r : Bool) (w : World) :
    Calls Try.prog 15 #[.agg (sCells f), .bool r] w fun e w' => e = .returned (.tuple #[.int .i64 (sdA (!rowI (f 0)) (cbI (f 0) (f 1) r)), .int .i64 (sdB (!rowI (f 0)) (cbI (f 0) (f 1) r))]) ∧ Below w.heap.size w w' := by
  have h0 := hp_new w (.cells (sCells f) 31)
  have bb : Below w.heap.size w (w.alloc (.cells (sCells f) 31)) := Go.Joins.below_alloc1 ..
  obtain ⟨u, eu⟩ : ∃ u, u = w.alloc (.cells (sCells f) 31) := ⟨_, rfl⟩
  rw [← eu] at h0 bb
  have EU := Lib.hid eu
  clear eu
  have hr := srow f
  have hb := scback f r
  generalize rowI (f 0) = q at *
  generalize cbI (f 0) (f 1) r = b at *
  go_enter Try.func15, Try.ntmps15
  go_wp2_with (rw [← EU.out])
  refine wp_region_quiet_below (by kernel_rfl) (by kernel_rfl) ?_
  repeat (first | (go_big_quiet_want; (with_reducible apply quiet_sty); exact rfl; exact rfl; (with_reducible exact h0); simp only [Act.put, List.setIfInBounds_toArray, List.set_cons_succ, List.set_cons_zero]; go_big_quiet_on) | go_big_quiet_step (first | (go_at_call 20; exact Calls.regrown_of (hr _)) | (go_at_call 24; exact Calls.regrown_of (hb _)) | (go_at_call 33; exact Calls.regrown_of (ssidesB _ b _)) | fail))
  refine wpQuiet_nil ?_
  intro _ hw'
  obtain ⟨⟨dq, osq⟩, hw''⟩ := hw'
  subst hw''
  go_wp2
  go_ret2
  exact ⟨rfl, bb.trans ((below_regrown u dq osq).mono bb.size)⟩
end Go.Proofs.Ythnfgdflnlafiaa

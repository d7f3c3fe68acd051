/-
  The contracts of ByRatio (program and model). Conditions: none.
-/
import Derived.Test.YtpmfijaclncfhaaBdM
namespace Go.Proofs.Ytpmfijaclncfhaa
open Go.ChangeShapes Go.WideShapes Go.ChangeAt Go.RowKit
set_option linter.unusedSimpArgs false
set_option linter.unusedVariables false

theorem mul_cl (x y : Int) : 0 ≤ clI x * clI y ∧ clI x * clI y ≤ 1099511627776 := by
  have h1 := clI_in x
  have h2 := clI_in y
  generalize clI x = p at *
  generalize clI y = q at *
  have h3 := Int.mul_le_mul_of_nonneg_left h2.2 h1.1
  have h4 := Int.mul_nonneg h1.1 h2.1
  omega
theorem sratio (f : Nat → Int) (b : Bool) (n : Int) (w : World) :
    Calls Try.prog 30 #[.agg (sCells f), .bool b, .int .i64 n] w fun e w' => e = .returned (.int .i64 (raI f b n)) ∧ Below w.heap.size w w' := by
  have h0 := hp_new w (.cells (sCells f) 31)
  have bb : Below w.heap.size w (w.alloc (.cells (sCells f) 31)) := Go.Joins.below_alloc1 ..
  obtain ⟨u, eu⟩ : ∃ u, u = w.alloc (.cells (sCells f) 31) := ⟨_, rfl⟩
  rw [← eu] at h0 bb
  have EU := Lib.hid eu
  clear eu
  have c25 := sty_int h0 25 (by decide)
  have m1 := mul_cl n (f 25)
  have m2 := clI_in n
  have r1 : IntKind.i64.wrap (clI n * clI (f 25)) = clI n * clI (f 25) := IntWalk.i64_in _ (by omega)
  have r2 : IntKind.i64.wrap (clI n * 64) = clI n * 64 := IntWalk.i64_in _ (by omega)
  unfold raI
  generalize f 25 = z at *
  by_cases e1 : z ≤ 0
  · rw [if_pos (Or.inl e1)]
    go_enter Try.func30, Try.ntmps30
    go_wp2_with (rw [← EU.out])
    go_ret
    exact ⟨rfl, bb⟩
  by_cases e2 : n < 0
  · rw [if_pos (Or.inr e2)]
    go_enter Try.func30, Try.ntmps30
    go_wp2_with (rw [← EU.out])
    go_ret
    exact ⟨rfl, bb⟩
  rw [if_neg (by omega)]
  cases b
  ·
    go_enter Try.func30, Try.ntmps30
    go_wp2_with (rw [← EU.out])
    go_quiet (first | (go_at_call 33; exact Calls.quiet_of_same (sclamped _ _)) | (go_at_call 32; exact Calls.quiet_of_same (sfd_any _ _ _ (by omega) (by omega))) | fail)
    go_wp2
    go_ret
    exact ⟨rfl, bb.trans ((below_drawn _ _).mono bb.size)⟩
  ·
    go_enter Try.func30, Try.ntmps30
    go_wp2_with (rw [← EU.out])
    go_quiet (first | (go_at_call 33; exact Calls.quiet_of_same (sclamped _ _)) | (go_at_call 32; exact Calls.quiet_of_same (sfd_any _ _ _ (by omega) (by omega))) | fail)
    go_wp2
    go_ret
    exact ⟨rfl, bb.trans ((below_drawn _ _).mono bb.size)⟩
theorem iratio (f : Nat → Int) (b : Bool) (n : Int) (w : World) :
    Calls Try.prog 29 #[.agg (sCells f), .bool b, .int .i64 n] w fun e w' => e = .returned (.int .i64 (raI f b n)) ∧ Below w.heap.size w w' := by
  have h0 := hp_new w (.cells (sCells f) 31)
  have bb : Below w.heap.size w (w.alloc (.cells (sCells f) 31)) := Go.Joins.below_alloc1 ..
  obtain ⟨u, eu⟩ : ∃ u, u = w.alloc (.cells (sCells f) 31) := ⟨_, rfl⟩
  rw [← eu] at h0 bb
  have EU := Lib.hid eu
  clear eu
  have c25 := sty_int h0 25 (by decide)
  have m1 := mul_cl n (f 25)
  have m2 := clI_in n
  have r1 : IntKind.i64.wrap (clI n * clI (f 25)) = clI n * clI (f 25) := IntWalk.i64_in _ (by omega)
  have r2 : IntKind.i64.wrap (clI n * 64) = clI n * 64 := IntWalk.i64_in _ (by omega)
  unfold raI
  generalize f 25 = z at *
  by_cases e1 : z ≤ 0
  · rw [if_pos (Or.inl e1)]
    go_enter Try.func29, Try.ntmps29
    go_wp2_with (rw [← EU.out])
    go_ret
    exact ⟨rfl, bb⟩
  by_cases e2 : n < 0
  · rw [if_pos (Or.inr e2)]
    go_enter Try.func29, Try.ntmps29
    go_wp2_with (rw [← EU.out])
    go_ret
    exact ⟨rfl, bb⟩
  rw [if_neg (by omega)]
  cases b
  ·
    go_enter Try.func29, Try.ntmps29
    go_wp2_with (rw [← EU.out])
    go_quiet (first | (go_at_call 41; exact Calls.quiet_of_same (iclamped _ _)) | fail)
    go_wp2_with (fail)
    (try dsimp only)
    refine ((fun w => ifd_any _ _ w (by omega) (by omega)) _).mono ?_
    rintro e w1 ⟨rfl, rfl⟩
    go_wp2_with (fail)
    (try dsimp only)
    refine (iclamped _ _).mono ?_
    rintro e w2 ⟨rfl, rfl⟩
    go_wp2
    go_ret
    exact ⟨rfl, bb.trans ((below_drawn _ _).mono bb.size)⟩
  ·
    go_enter Try.func29, Try.ntmps29
    go_wp2_with (rw [← EU.out])
    go_quiet (first | (go_at_call 41; exact Calls.quiet_of_same (iclamped _ _)) | fail)
    go_wp2_with (fail)
    (try dsimp only)
    refine ((fun w => ifd_any _ _ w (by omega) (by omega)) _).mono ?_
    rintro e w1 ⟨rfl, rfl⟩
    go_wp2_with (fail)
    (try dsimp only)
    refine (iclamped _ _).mono ?_
    rintro e w2 ⟨rfl, rfl⟩
    go_wp2
    go_ret
    exact ⟨rfl, bb.trans ((below_drawn _ _).mono bb.size)⟩
end Go.Proofs.Ytpmfijaclncfhaa

/-
  The contracts of spec.Known, spec.l04N, spec.LengthOf. Conditions: none.
-/
import Derived.Test.YtpmfijaclncfhaaLenM
namespace Go.Proofs.Ytpmfijaclncfhaa
open Go.ChangeShapes Go.WideShapes Go.ChangeAt Go.RowKit

theorem sknown (k n b : Int) (w : World) :
    Calls Try.prog 74 #[.agg #[.int .i64 k, .int .i64 n], .int .i64 b] w fun e w' => e = .returned (.bool (knV k b)) ∧ w' = w.alloc (.cells #[.int .i64 k, .int .i64 n] 25) := by
  by_cases h1 : k = 1
  · subst h1
    go_enter Try.func74, Try.ntmps74
    go_wp2
    go_ret
    exact ⟨ret_bool' (by simp [knV]), rfl⟩
  · have e1 : (k == 1) = false := by simp; omega
    by_cases h2 : k = 2
    · subst h2
      by_cases h3 : b < 0
      · go_enter Try.func74, Try.ntmps74
        go_wp2
        go_ret
        exact ⟨ret_bool' (by simp [knV]; try omega), rfl⟩
      · go_enter Try.func74, Try.ntmps74
        go_wp2
        go_ret
        exact ⟨ret_bool' (by simp [knV]; try omega), rfl⟩
    · have e2 : (k == 2) = false := by simp; omega
      have H1 := Lib.hid h1
      have H2 := Lib.hid h2
      clear h1 h2
      go_enter Try.func74, Try.ntmps74
      go_wp2
      go_ret
      exact ⟨ret_bool' (by have h1 := H1.out; have h2 := H2.out; simp [knV]; try omega), rfl⟩

theorem sn04 (n : Int) (w : World) :
    Calls Try.prog 86 #[.int .i64 n] w fun e w' => e = .returned (.int .i64 (brI n (-1000000) 1000000)) ∧ w' = w := by
  go_enter Try.func86, Try.ntmps86
  go_wp2_with (fail)
  refine (sbr_any n (-1000000) 1000000 w).mono ?_
  rintro e w1 ⟨rfl, rfl⟩
  go_wp2
  go_ret
  exact ⟨rfl, rfl⟩

theorem slength (k n b : Int) (w : World) :
    Calls Try.prog 75 #[.agg #[.int .i64 k, .int .i64 n], .int .i64 b] w fun e w' => e = .returned (.int .i64 (lnV k n b)) ∧ Below w.heap.size w w' := by
  cases hk : knV k b
  · go_enter Try.func75, Try.ntmps75
    go_wp2_with (fail)
    refine (sknown k n b _).mono ?_
    rintro e w1 ⟨rfl, rfl⟩
    go_wp2
    go_ret
    exact ⟨ret_int (by simp [knV] at hk; unfold lnV; rw [if_neg (by omega), if_neg (by omega)]), Go.Joins.below_alloc2 ..⟩
  · by_cases h1 : k = 1
    · subst h1
      go_enter Try.func75, Try.ntmps75
      go_wp2_with (fail)
      refine (sknown 1 n b _).mono ?_
      rintro e w1 ⟨rfl, rfl⟩
      go_wp2
      go_ret
      exact ⟨ret_int (by simp [lnV]), Go.Joins.below_alloc2 ..⟩
    · have e1 : (k == 1) = false := by simp; omega
      have hl : lnV k n b = pcI b n := by simp [knV] at hk; unfold lnV; rw [if_neg (by omega), if_pos (by omega)]
      rw [hl]
      have H1 := Lib.hid h1
      clear h1 hl
      have hp := pc_in b n
      unfold pcI
      go_enter Try.func75, Try.ntmps75
      go_wp2_with (fail)
      refine (sknown k n b _).mono ?_
      rintro e w1 ⟨rfl, rfl⟩
      go_wp2_with (fail)
      have hr : IntKind.i64.wrap (clI b * brI n (-1000000) 1000000) = clI b * brI n (-1000000) 1000000 := IntWalk.i64_in _ (by omega)
      go_quiet (first
        | (go_at_call 33; exact Calls.quiet_of_same (sclamped _ _))
        | (go_at_call 86; exact Calls.quiet_of_same (sn04 _ _))
        | (go_at_call 32; exact Calls.quiet_of_same (sfd_any _ _ _ (by omega) (by omega)))
        | fail)
      go_wp2
      go_ret
      exact ⟨rfl, (Go.Joins.below_alloc2 ..).trans ((below_drawn _ _).mono (by simp; omega))⟩
end Go.Proofs.Ytpmfijaclncfhaa

/-
  The contracts of impl.FloorDiv and spec.FloorDiv: division that rounds down. Conditions: the dividend is an int.
-/
import Derived.Test.YtdpibpelghnihaaClamp
namespace Go.Proofs.Ytdpibpelghnihaa
open Go.ChangeShapes Go.WideShapes Go.ChangeAt Go.RowKit

def fdI (a b : Int) : Int := if b < 1 then 0 else a / b
theorem fd_neg {a b : Int} (hb : 1 ≤ b) (h : a.tmod b < 0) : a.tdiv b - 1 = a / b := by
  have ha : a < 0 := by
    apply Int.lt_of_not_ge
    intro h0
    have := Int.tmod_nonneg b h0
    omega
  rw [Int.tdiv_eq_ediv, if_neg]
  · have : b.sign = 1 := Int.sign_eq_one_of_pos (by omega)
    omega
  · rintro (h0 | h0)
    · omega
    · have := Int.tmod_eq_zero_of_dvd h0
      omega
theorem fd_pos {a b : Int} (h : ¬ a.tmod b < 0) : a.tdiv b = a / b := by
  rw [Int.tdiv_eq_ediv, if_pos]
  · omega
  · by_cases ha : 0 ≤ a
    · exact Or.inl ha
    · refine Or.inr (Int.dvd_of_tmod_eq_zero ?_)
      have h1 := Int.tmod_nonneg b (show 0 ≤ -a by omega)
      rw [Int.neg_tmod] at h1
      omega
theorem fd_in {a b : Int} (hb : 1 ≤ b) (h0 : -9223372036854775808 ≤ a) (h1 : a ≤ 9223372036854775807) : -9223372036854775808 ≤ a / b ∧ a / b ≤ 9223372036854775807 := by
  by_cases ha : 0 ≤ a
  · have h2 := Int.ediv_le_self b ha
    have h3 := Int.ediv_nonneg ha (show 0 ≤ b by omega)
    omega
  · have h2 : a ≤ a / b := by
      rw [Int.le_ediv_iff_mul_le (by omega)]
      have := Int.mul_le_mul_of_nonpos_left (show a ≤ 0 by omega) hb
      omega
    have h3 := Int.ediv_neg_of_neg_of_pos (show a < 0 by omega) (show 0 < b by omega)
    omega
theorem fdI_le {a b : Int} (hb : 1 ≤ b) : fdI a b * b ≤ a ∧ a < fdI a b * b + b := by
  unfold fdI
  rw [if_neg (by omega)]
  have h1 := Int.ediv_mul_add_emod a b
  have h2 := Int.emod_nonneg a (show b ≠ 0 by omega)
  have h3 := Int.emod_lt_of_pos a (show 0 < b by omega)
  omega
theorem mul_in {x y : Int} (h0 : -1048576 ≤ x) (h1 : x ≤ 1048576) (h2 : 0 ≤ y) (h3 : y ≤ 2147483647) : -2251799812636672 ≤ x * y ∧ x * y ≤ 2251799812636672 := by
  have h4 := Int.mul_le_mul_of_nonneg_right h1 h2
  have h5 := Int.mul_le_mul_of_nonneg_right h0 h2
  omega
theorem ifd_any (a b : Int) (w : World) (h0 : -9223372036854775808 ≤ a) (h1 : a ≤ 9223372036854775807) :
    Calls Try.prog 55 #[.int .i64 a, .int .i64 b] w fun e w' => e = .returned (.int .i64 (fdI a b)) ∧ w' = w := by
  by_cases hb : b < 1
  · go_enter Try.func55, Try.ntmps55
    go_wp2
    go_ret
    exact ⟨ret_int (by unfold fdI; rw [if_pos hb]), rfl⟩
  · have hn0 : (b == 0) = false := by simp; omega
    have hin := fd_in (show 1 ≤ b by omega) h0 h1
    by_cases h2 : a.tmod b < 0
    · have hd := fd_neg (show 1 ≤ b by omega) h2
      go_enter Try.func55, Try.ntmps55
      go_wp2
      go_ret
      exact ⟨ret_int (by unfold fdI; rw [if_neg (by omega)]), rfl⟩
    · have hd := fd_pos h2
      go_enter Try.func55, Try.ntmps55
      go_wp2
      go_ret
      exact ⟨ret_int (by unfold fdI; rw [if_neg (by omega)]), rfl⟩
theorem sfd_any (a b : Int) (w : World) (h0 : -9223372036854775808 ≤ a) (h1 : a ≤ 9223372036854775807) :
    Calls Try.prog 37 #[.int .i64 a, .int .i64 b] w fun e w' => e = .returned (.int .i64 (fdI a b)) ∧ w' = w := by
  by_cases hb : b < 1
  · go_enter Try.func37, Try.ntmps37
    go_wp2
    go_ret
    exact ⟨ret_int (by unfold fdI; rw [if_pos hb]), rfl⟩
  · have hn0 : (b == 0) = false := by simp; omega
    have hin := fd_in (show 1 ≤ b by omega) h0 h1
    by_cases h2 : a.tmod b < 0
    · have hd := fd_neg (show 1 ≤ b by omega) h2
      go_enter Try.func37, Try.ntmps37
      go_wp2
      go_ret
      exact ⟨ret_int (by unfold fdI; rw [if_neg (by omega)]), rfl⟩
    · have hd := fd_pos h2
      go_enter Try.func37, Try.ntmps37
      go_wp2
      go_ret
      exact ⟨ret_int (by unfold fdI; rw [if_neg (by omega)]), rfl⟩
end Go.Proofs.Ytdpibpelghnihaa

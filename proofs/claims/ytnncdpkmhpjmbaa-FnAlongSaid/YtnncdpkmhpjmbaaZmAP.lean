import Derived.Deep.QuietTactic
import Derived.BigQuiet
import Derived.IntWalk
import Derived.Test.YtnncdpkmhpjmbaaZmAA
section
namespace Go.Proofs.Ytnncdpkmhpjmbaa
open Go.ChangeShapes Go.WideShapes Go.ChangeAt Go.RowKit

def brI (n least most : Int) : Int := if n < least ∨ most < least then least else if most < n then most else n
theorem brI_in {n least most : Int} (h : least ≤ most) : least ≤ brI n least most ∧ brI n least most ≤ most := by
  unfold brI; split
  · omega
  · split <;> omega
theorem brI_id {n least most : Int} (h1 : least ≤ n) (h2 : n ≤ most) : brI n least most = n := by
  unfold brI; rw [if_neg (by omega), if_neg (by omega)]
end Go.Proofs.Ytnncdpkmhpjmbaa
end
section
namespace Go.Proofs.Ytnncdpkmhpjmbaa
open Go.ChangeShapes Go.WideShapes Go.ChangeAt Go.RowKit

def clI (n : Int) : Int := brI n 0 1048576
def lenI (n : Int) : Int := brI n (-1048576) 1048576
theorem clI_in (n : Int) : 0 ≤ clI n ∧ clI n ≤ 1048576 := brI_in (by omega)
theorem lenI_in (n : Int) : -1048576 ≤ lenI n ∧ lenI n ≤ 1048576 := brI_in (by omega)
theorem lenI_id {n : Int} (h0 : -1048576 ≤ n) (h1 : n ≤ 1048576) : lenI n = n := brI_id h0 h1
theorem iclamp_off (n : Int) (w : World) :
    Calls Try.prog 67 #[.int .i64 1, .int .i64 n] w fun e w' => e = .returned (.int .i64 (lenI n)) ∧ w' = w := by
  by_cases h1 : n < -1048576 <;> by_cases h2 : 1048576 < n <;> (try omega) <;>
    (go_enter Try.func67, Try.ntmps67
     go_wp2
     go_ret
     exact ⟨ret_int (by unfold lenI brI; (repeat' split) <;> omega), rfl⟩)
end Go.Proofs.Ytnncdpkmhpjmbaa
end
section
namespace Go.Proofs.Ytnncdpkmhpjmbaa
open Go.ChangeShapes Go.WideShapes Go.ChangeAt Go.RowKit

theorem sbr_any (n least most : Int) (w : World) :
    Calls Try.prog 64 #[.int .i64 n, .int .i64 least, .int .i64 most] w fun e w' => e = .returned (.int .i64 (brI n least most)) ∧ w' = w := by
  by_cases h2 : most < least
  · go_enter Try.func64, Try.ntmps64
    go_wp2
    go_ret
    exact ⟨ret_int (by unfold brI; rw [if_pos (Or.inr h2)]), rfl⟩
  · by_cases h1 : n < least
    · go_enter Try.func64, Try.ntmps64
      go_wp2
      go_ret
      exact ⟨ret_int (by unfold brI; rw [if_pos (Or.inl h1)]), rfl⟩
    · by_cases h3 : most < n
      · go_enter Try.func64, Try.ntmps64
        go_wp2
        go_ret
        exact ⟨ret_int (by unfold brI; rw [if_neg (by omega), if_pos (by omega)]), rfl⟩
      · go_enter Try.func64, Try.ntmps64
        go_wp2
        go_ret
        exact ⟨ret_int (by unfold brI; rw [if_neg (by omega), if_neg (by omega)]), rfl⟩
end Go.Proofs.Ytnncdpkmhpjmbaa
end
section
namespace Go.Proofs.Ytnncdpkmhpjmbaa
open Go.ChangeShapes Go.WideShapes Go.ChangeAt Go.RowKit

theorem sclamped (n : Int) (w : World) :
    Calls Try.prog 107 #[.int .i64 n] w fun e w' => e = .returned (.int .i64 (clI n)) ∧ w' = w := by
  go_enter Try.func107, Try.ntmps107
  go_wp2_with (fail)
  refine (sbr_any n 0 1048576 w).mono ?_
  rintro e w1 ⟨rfl, rfl⟩
  go_wp2
  go_ret
  exact ⟨rfl, rfl⟩
theorem slen (n : Int) (w : World) :
    Calls Try.prog 44 #[.int .i64 n] w fun e w' => e = .returned (.int .i64 (lenI n)) ∧ w' = w := by
  go_enter Try.func44, Try.ntmps44
  go_wp2_with (fail)
  refine (sbr_any n (-1048576) 1048576 w).mono ?_
  rintro e w1 ⟨rfl, rfl⟩
  go_wp2
  go_ret
  exact ⟨rfl, rfl⟩
end Go.Proofs.Ytnncdpkmhpjmbaa
end
section
namespace Go.Proofs.Ytnncdpkmhpjmbaa
open Go.ChangeShapes Go.WideShapes Go.ChangeAt Go.RowKit

def fdI (a b : Int) : Int := if b < 1 then 0 else a / b
theorem fd_neg {a b : Int} (hb : 1 ≤ b) (h : a.tmod b < 0) : a.tdiv b - 1 = a / b := by
  have ha : a < 0 := by
    apply Int.lt_of_not_ge
    intro h0
    have := Int.tmod_nonneg b h0
    omega
  rw [Int.tdiv_eq_ediv, if_neg]
  · have : b.sign = 1 := Int.sign_eq_one_of_pos (by omega)
    omega
  · rintro (h0 | h0)
    · omega
    · have := Int.tmod_eq_zero_of_dvd h0
      omega
theorem fd_pos {a b : Int} (h : ¬ a.tmod b < 0) : a.tdiv b = a / b := by
  rw [Int.tdiv_eq_ediv, if_pos]
  · omega
  · by_cases ha : 0 ≤ a
    · exact Or.inl ha
    · refine Or.inr (Int.dvd_of_tmod_eq_zero ?_)
      have h1 := Int.tmod_nonneg b (show 0 ≤ -a by omega)
      rw [Int.neg_tmod] at h1
      omega
theorem fd_in {a b : Int} (hb : 1 ≤ b) (h0 : -9223372036854775808 ≤ a) (h1 : a ≤ 9223372036854775807) : -9223372036854775808 ≤ a / b ∧ a / b ≤ 9223372036854775807 := by
  by_cases ha : 0 ≤ a
  · have h2 := Int.ediv_le_self b ha
    have h3 := Int.ediv_nonneg ha (show 0 ≤ b by omega)
    omega
  · have h2 : a ≤ a / b := by
      rw [Int.le_ediv_iff_mul_le (by omega)]
      have := Int.mul_le_mul_of_nonpos_left (show a ≤ 0 by omega) hb
      omega
    have h3 := Int.ediv_neg_of_neg_of_pos (show a < 0 by omega) (show 0 < b by omega)
    omega
theorem fdI_le {a b : Int} (hb : 1 ≤ b) : fdI a b * b ≤ a ∧ a < fdI a b * b + b := by
  unfold fdI
  rw [if_neg (by omega)]
  have h1 := Int.ediv_mul_add_emod a b
  have h2 := Int.emod_nonneg a (show b ≠ 0 by omega)
  have h3 := Int.emod_lt_of_pos a (show 0 < b by omega)
  omega
theorem ifd_any (a b : Int) (w : World) (h0 : -9223372036854775808 ≤ a) (h1 : a ≤ 9223372036854775807) :
    Calls Try.prog 96 #[.int .i64 a, .int .i64 b] w fun e w' => e = .returned (.int .i64 (fdI a b)) ∧ w' = w := by
  by_cases hb : b < 1
  · go_enter Try.func96, Try.ntmps96
    go_wp2
    go_ret
    exact ⟨ret_int (by unfold fdI; rw [if_pos hb]), rfl⟩
  · have hn0 : (b == 0) = false := by simp; omega
    have hin := fd_in (show 1 ≤ b by omega) h0 h1
    by_cases h2 : a.tmod b < 0
    · have hd := fd_neg (show 1 ≤ b by omega) h2
      go_enter Try.func96, Try.ntmps96
      go_wp2
      go_ret
      exact ⟨ret_int (by unfold fdI; rw [if_neg (by omega)]), rfl⟩
    · have hd := fd_pos h2
      go_enter Try.func96, Try.ntmps96
      go_wp2
      go_ret
      exact ⟨ret_int (by unfold fdI; rw [if_neg (by omega)]), rfl⟩
theorem sfd_any (a b : Int) (w : World) (h0 : -9223372036854775808 ≤ a) (h1 : a ≤ 9223372036854775807) :
    Calls Try.prog 65 #[.int .i64 a, .int .i64 b] w fun e w' => e = .returned (.int .i64 (fdI a b)) ∧ w' = w := by
  by_cases hb : b < 1
  · go_enter Try.func65, Try.ntmps65
    go_wp2
    go_ret
    exact ⟨ret_int (by unfold fdI; rw [if_pos hb]), rfl⟩
  · have hn0 : (b == 0) = false := by simp; omega
    have hin := fd_in (show 1 ≤ b by omega) h0 h1
    by_cases h2 : a.tmod b < 0
    · have hd := fd_neg (show 1 ≤ b by omega) h2
      go_enter Try.func65, Try.ntmps65
      go_wp2
      go_ret
      exact ⟨ret_int (by unfold fdI; rw [if_neg (by omega)]), rfl⟩
    · have hd := fd_pos h2
      go_enter Try.func65, Try.ntmps65
      go_wp2
      go_ret
      exact ⟨ret_int (by unfold fdI; rw [if_neg (by omega)]), rfl⟩
end Go.Proofs.Ytnncdpkmhpjmbaa
end

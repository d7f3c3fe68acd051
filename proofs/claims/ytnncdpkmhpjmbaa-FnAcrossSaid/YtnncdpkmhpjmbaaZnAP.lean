import Derived.Deep.QuietTactic
import Derived.BigQuiet
import Derived.IntWalk
import Derived.Test.YtnncdpkmhpjmbaaZnAA
section
namespace Go.Proofs.Ytnncdpkmhpjmbaa
open Go.ChangeShapes Go.WideShapes Go.ChangeAt Go.RowKit

def brI (n least most : Int) : Int := if n < least ∨ most < least then least else if most < n then most else n
theorem brI_in {n least most : Int} (h : least ≤ most) : least ≤ brI n least most ∧ brI n least most ≤ most := by
  unfold brI; split
  · omega
  · split <;> omega
theorem brI_id {n least most : Int} (h1 : least ≤ n) (h2 : n ≤ most) : brI n least most = n := by
  unfold brI; rw [if_neg (by omega), if_neg (by omega)]
end Go.Proofs.Ytnncdpkmhpjmbaa
end
section
namespace Go.Proofs.Ytnncdpkmhpjmbaa
open Go.ChangeShapes Go.WideShapes Go.ChangeAt Go.RowKit

def lenI (n : Int) : Int := brI n (-1048576) 1048576
theorem lenI_in (n : Int) : -1048576 ≤ lenI n ∧ lenI n ≤ 1048576 := brI_in (by omega)
theorem lenI_id {n : Int} (h0 : -1048576 ≤ n) (h1 : n ≤ 1048576) : lenI n = n := brI_id h0 h1
theorem iclamp_off (n : Int) (w : World) :
    Calls Try.prog 67 #[.int .i64 1, .int .i64 n] w fun e w' => e = .returned (.int .i64 (lenI n)) ∧ w' = w := by
  by_cases h1 : n < -1048576 <;> by_cases h2 : 1048576 < n <;> (try omega) <;>
    (go_enter Try.func67, Try.ntmps67
     go_wp2
     go_ret
     exact ⟨ret_int (by unfold lenI brI; (repeat' split) <;> omega), rfl⟩)
end Go.Proofs.Ytnncdpkmhpjmbaa
end
section
namespace Go.Proofs.Ytnncdpkmhpjmbaa
open Go.ChangeShapes Go.WideShapes Go.ChangeAt Go.RowKit

theorem sbr_any (n least most : Int) (w : World) :
    Calls Try.prog 64 #[.int .i64 n, .int .i64 least, .int .i64 most] w fun e w' => e = .returned (.int .i64 (brI n least most)) ∧ w' = w := by
  by_cases h2 : most < least
  · go_enter Try.func64, Try.ntmps64
    go_wp2
    go_ret
    exact ⟨ret_int (by unfold brI; rw [if_pos (Or.inr h2)]), rfl⟩
  · by_cases h1 : n < least
    · go_enter Try.func64, Try.ntmps64
      go_wp2
      go_ret
      exact ⟨ret_int (by unfold brI; rw [if_pos (Or.inl h1)]), rfl⟩
    · by_cases h3 : most < n
      · go_enter Try.func64, Try.ntmps64
        go_wp2
        go_ret
        exact ⟨ret_int (by unfold brI; rw [if_neg (by omega), if_pos (by omega)]), rfl⟩
      · go_enter Try.func64, Try.ntmps64
        go_wp2
        go_ret
        exact ⟨ret_int (by unfold brI; rw [if_neg (by omega), if_neg (by omega)]), rfl⟩
end Go.Proofs.Ytnncdpkmhpjmbaa
end
section
namespace Go.Proofs.Ytnncdpkmhpjmbaa
open Go.ChangeShapes Go.WideShapes Go.ChangeAt Go.RowKit

theorem slen (n : Int) (w : World) :
    Calls Try.prog 44 #[.int .i64 n] w fun e w' => e = .returned (.int .i64 (lenI n)) ∧ w' = w := by
  go_enter Try.func44, Try.ntmps44
  go_wp2_with (fail)
  refine (sbr_any n (-1048576) 1048576 w).mono ?_
  rintro e w1 ⟨rfl, rfl⟩
  go_wp2
  go_ret
  exact ⟨rfl, rfl⟩
end Go.Proofs.Ytnncdpkmhpjmbaa
end

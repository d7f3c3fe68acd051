/-
  The contract of the program's clamping by unit (impl.unit's method clamp): a length, an offset, a count. Conditions: none.
-/
import Derived.Test.YtdpibpelghnihaaBro
namespace Go.Proofs.Ytdpibpelghnihaa
open Go.ChangeShapes Go.WideShapes Go.ChangeAt Go.RowKit

def clI (n : Int) : Int := brI n 0 1048576
def lenI (n : Int) : Int := brI n (-1048576) 1048576
def cntI (n : Int) : Int := brI n 0 2147483647
theorem clI_in (n : Int) : 0 ≤ clI n ∧ clI n ≤ 1048576 := brI_in (by omega)
theorem lenI_in (n : Int) : -1048576 ≤ lenI n ∧ lenI n ≤ 1048576 := brI_in (by omega)
theorem cntI_in (n : Int) : 0 ≤ cntI n ∧ cntI n ≤ 2147483647 := brI_in (by omega)
theorem clI_id {n : Int} (h0 : 0 ≤ n) (h1 : n ≤ 1048576) : clI n = n := brI_id h0 h1
theorem lenI_id {n : Int} (h0 : -1048576 ≤ n) (h1 : n ≤ 1048576) : lenI n = n := brI_id h0 h1
theorem cntI_id {n : Int} (h0 : 0 ≤ n) (h1 : n ≤ 2147483647) : cntI n = n := brI_id h0 h1

theorem iclamp_len (n : Int) (w : World) :
    Calls Try.prog 52 #[.int .i64 0, .int .i64 n] w fun e w' => e = .returned (.int .i64 (clI n)) ∧ w' = w := by
  by_cases h1 : n < 0 <;> by_cases h2 : 1048576 < n <;> (try omega) <;>
    (go_enter Try.func52, Try.ntmps52
     go_wp2
     go_ret
     exact ⟨ret_int (by unfold clI brI; (repeat' split) <;> omega), rfl⟩)
theorem iclamp_off (n : Int) (w : World) :
    Calls Try.prog 52 #[.int .i64 1, .int .i64 n] w fun e w' => e = .returned (.int .i64 (lenI n)) ∧ w' = w := by
  by_cases h1 : n < -1048576 <;> by_cases h2 : 1048576 < n <;> (try omega) <;>
    (go_enter Try.func52, Try.ntmps52
     go_wp2
     go_ret
     exact ⟨ret_int (by unfold lenI brI; (repeat' split) <;> omega), rfl⟩)
theorem iclamp_cnt (n : Int) (w : World) :
    Calls Try.prog 52 #[.int .i64 2, .int .i64 n] w fun e w' => e = .returned (.int .i64 (cntI n)) ∧ w' = w := by
  by_cases h1 : n < 0 <;> by_cases h2 : 2147483647 < n <;> (try omega) <;>
    (go_enter Try.func52, Try.ntmps52
     go_wp2
     go_ret
     exact ⟨ret_int (by unfold cntI brI; (repeat' split) <;> omega), rfl⟩)
end Go.Proofs.Ytdpibpelghnihaa

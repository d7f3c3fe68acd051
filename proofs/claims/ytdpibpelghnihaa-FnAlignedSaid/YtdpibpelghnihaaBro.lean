/-
  The contract of impl.Brought: the number clamped to its range, the least winning. Conditions: none.
-/
import Derived.Test.YtdpibpelghnihaaKit
namespace Go.Proofs.Ytdpibpelghnihaa
open Go.ChangeShapes Go.WideShapes Go.ChangeAt Go.RowKit

def brI (n least most : Int) : Int := if n < least ∨ most < least then least else if most < n then most else n
theorem ibr_any (n least most : Int) (w : World) :
    Calls Try.prog 57 #[.int .i64 n, .int .i64 least, .int .i64 most] w fun e w' => e = .returned (.int .i64 (brI n least most)) ∧ w' = w := by
  by_cases h1 : n < least
  · go_enter Try.func57, Try.ntmps57
    go_wp2
    go_ret
    exact ⟨ret_int (by unfold brI; rw [if_pos (Or.inl h1)]), rfl⟩
  · by_cases h2 : most < least
    · go_enter Try.func57, Try.ntmps57
      go_wp2
      go_ret
      exact ⟨ret_int (by unfold brI; rw [if_pos (Or.inr h2)]), rfl⟩
    · by_cases h3 : most < n
      · go_enter Try.func57, Try.ntmps57
        go_wp2
        go_ret
        exact ⟨ret_int (by unfold brI; rw [if_neg (by omega), if_pos (by omega)]), rfl⟩
      · go_enter Try.func57, Try.ntmps57
        go_wp2
        go_ret
        exact ⟨ret_int (by unfold brI; rw [if_neg (by omega), if_neg (by omega)]), rfl⟩
theorem brI_in {n least most : Int} (h : least ≤ most) : least ≤ brI n least most ∧ brI n least most ≤ most := by
  unfold brI; split
  · omega
  · split <;> omega
theorem brI_id {n least most : Int} (h1 : least ≤ n) (h2 : n ≤ most) : brI n least most = n := by
  unfold brI; rw [if_neg (by omega), if_neg (by omega)]
theorem ibr_id (n least most : Int) (w : World) (h1 : least ≤ n) (h2 : n ≤ most) :
    Calls Try.prog 57 #[.int .i64 n, .int .i64 least, .int .i64 most] w fun e w' => e = .returned (.int .i64 n) ∧ w' = w := by
  have h := ibr_any n least most w
  rwa [brI_id h1 h2] at h
end Go.Proofs.Ytdpibpelghnihaa

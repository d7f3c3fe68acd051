/-
  The contract of spec.Brought: the number clamped to its range, the least winning. Conditions: none.
-/
import Derived.Test.YtdpibpelghnihaaBro
namespace Go.Proofs.Ytdpibpelghnihaa
open Go.ChangeShapes Go.WideShapes Go.ChangeAt Go.RowKit

theorem sbr_any (n least most : Int) (w : World) :
    Calls Try.prog 53 #[.int .i64 n, .int .i64 least, .int .i64 most] w fun e w' => e = .returned (.int .i64 (brI n least most)) ∧ w' = w := by
  by_cases h2 : most < least
  · go_enter Try.func53, Try.ntmps53
    go_wp2
    go_ret
    exact ⟨ret_int (by unfold brI; rw [if_pos (Or.inr h2)]), rfl⟩
  · by_cases h1 : n < least
    · go_enter Try.func53, Try.ntmps53
      go_wp2
      go_ret
      exact ⟨ret_int (by unfold brI; rw [if_pos (Or.inl h1)]), rfl⟩
    · by_cases h3 : most < n
      · go_enter Try.func53, Try.ntmps53
        go_wp2
        go_ret
        exact ⟨ret_int (by unfold brI; rw [if_neg (by omega), if_pos (by omega)]), rfl⟩
      · go_enter Try.func53, Try.ntmps53
        go_wp2
        go_ret
        exact ⟨ret_int (by unfold brI; rw [if_neg (by omega), if_neg (by omega)]), rfl⟩
end Go.Proofs.Ytdpibpelghnihaa

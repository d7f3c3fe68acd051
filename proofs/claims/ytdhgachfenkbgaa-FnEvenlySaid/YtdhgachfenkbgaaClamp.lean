/-
  The contracts of impl.Clamped, spec.Clamped and spec.l02Len: a number clamped to a length, to an offset. Conditions: none.
-/
import Derived.Test.YtdhgachfenkbgaaUnit
import Derived.Test.YtdhgachfenkbgaaBroS
import Derived.Deep.QuietTactic
import Derived.BigQuiet
import Derived.IntWalk
namespace Go.Proofs.Ytdhgachfenkbgaa
open Go.ChangeShapes Go.WideShapes Go.ChangeAt Go.RowKit

theorem iclamped (n : Int) (w : World) :
    Calls Try.prog 111 #[.int .i64 n] w fun e w' => e = .returned (.int .i64 (clI n)) ∧ w' = w := by
  go_enter Try.func111, Try.ntmps111
  go_wp2_with (fail)
  refine (iclamp_len n w).mono ?_
  rintro e w1 ⟨rfl, rfl⟩
  go_wp2
  go_ret
  exact ⟨rfl, rfl⟩
theorem sclamped (n : Int) (w : World) :
    Calls Try.prog 113 #[.int .i64 n] w fun e w' => e = .returned (.int .i64 (clI n)) ∧ w' = w := by
  go_enter Try.func113, Try.ntmps113
  go_wp2_with (fail)
  refine (sbr_any n 0 1048576 w).mono ?_
  rintro e w1 ⟨rfl, rfl⟩
  go_wp2
  go_ret
  exact ⟨rfl, rfl⟩
theorem slen (n : Int) (w : World) :
    Calls Try.prog 108 #[.int .i64 n] w fun e w' => e = .returned (.int .i64 (lenI n)) ∧ w' = w := by
  go_enter Try.func108, Try.ntmps108
  go_wp2_with (fail)
  refine (sbr_any n (-1048576) 1048576 w).mono ?_
  rintro e w1 ⟨rfl, rfl⟩
  go_wp2
  go_ret
  exact ⟨rfl, rfl⟩
end Go.Proofs.Ytdhgachfenkbgaa

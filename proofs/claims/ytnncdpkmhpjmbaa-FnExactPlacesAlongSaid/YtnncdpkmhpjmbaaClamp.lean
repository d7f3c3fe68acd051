/-
  The contracts of impl.Clamped, spec.Clamped and spec.l02Len: a number clamped to a length, to an offset. Conditions: none.
-/
import Derived.Test.YtnncdpkmhpjmbaaUnit
import Derived.Test.YtnncdpkmhpjmbaaBroS
import Derived.Deep.QuietTactic
import Derived.BigQuiet
import Derived.IntWalk
namespace Go.Proofs.Ytnncdpkmhpjmbaa
open Go.ChangeShapes Go.WideShapes Go.ChangeAt Go.RowKit

theorem sclamped (n : Int) (w : World) :
    Calls Try.prog 107 #[.int .i64 n] w fun e w' => e = .returned (.int .i64 (clI n)) ∧ w' = w := by
  go_enter Try.func107, Try.ntmps107
  go_wp2_with (fail)
  refine (sbr_any n 0 1048576 w).mono ?_
  rintro e w1 ⟨rfl, rfl⟩
  go_wp2
  go_ret
  exact ⟨rfl, rfl⟩
theorem slen (n : Int) (w : World) :
    Calls Try.prog 44 #[.int .i64 n] w fun e w' => e = .returned (.int .i64 (lenI n)) ∧ w' = w := by
  go_enter Try.func44, Try.ntmps44
  go_wp2_with (fail)
  refine (sbr_any n (-1048576) 1048576 w).mono ?_
  rintro e w1 ⟨rfl, rfl⟩
  go_wp2
  go_ret
  exact ⟨rfl, rfl⟩
end Go.Proofs.Ytnncdpkmhpjmbaa

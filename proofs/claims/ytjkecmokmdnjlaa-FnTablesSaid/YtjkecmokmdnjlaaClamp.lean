/-
  The contracts of impl.Clamped, spec.Clamped and spec.l02Len: a number clamped to a length, to an offset. Conditions: none.
-/
import Derived.Test.YtjkecmokmdnjlaaUnit
import Derived.Test.YtjkecmokmdnjlaaBroS
import Derived.Deep.QuietTactic
import Derived.BigQuiet
import Derived.IntWalk
namespace Go.Proofs.Ytjkecmokmdnjlaa
open Go.ChangeShapes Go.WideShapes Go.ChangeAt Go.RowKit

theorem iclamped (n : Int) (w : World) :
    Calls Try.prog 33 #[.int .i64 n] w fun e w' => e = .returned (.int .i64 (clI n)) ∧ w' = w := by
  go_enter Try.func33, Try.ntmps33
  go_wp2_with (fail)
  refine (iclamp_len n w).mono ?_
  rintro e w1 ⟨rfl, rfl⟩
  go_wp2
  go_ret
  exact ⟨rfl, rfl⟩
theorem sclamped (n : Int) (w : World) :
    Calls Try.prog 34 #[.int .i64 n] w fun e w' => e = .returned (.int .i64 (clI n)) ∧ w' = w := by
  go_enter Try.func34, Try.ntmps34
  go_wp2_with (fail)
  refine (sbr_any n 0 1048576 w).mono ?_
  rintro e w1 ⟨rfl, rfl⟩
  go_wp2
  go_ret
  exact ⟨rfl, rfl⟩
end Go.Proofs.Ytjkecmokmdnjlaa

/-
  The contract of impl.AddLen: the clamped sum of two clamped offsets. Conditions: none.
-/
import Derived.Test.YtfnnfjpbplbjmaaClamp
namespace Go.Proofs.Ytfnnfjpbplbjmaa
open Go.ChangeShapes Go.WideShapes Go.ChangeAt Go.RowKit

theorem iadd_any (a b : Int) (w : World) :
    Calls Try.prog 177 #[.int .i64 a, .int .i64 b] w fun e w' => e = .returned (.int .i64 (clI (lenI a + lenI b))) ∧ w' = w := by
  have ha := lenI_in a
  have hb := lenI_in b
  go_enter Try.func177, Try.ntmps177
  go_wp2_with (fail)
  refine (iclamp_off a w).mono ?_
  rintro e w1 ⟨rfl, rfl⟩
  go_wp2_with (fail)
  refine (iclamp_off b w1).mono ?_
  rintro e w2 ⟨rfl, rfl⟩
  go_wp2_with (fail)
  refine (iclamped (lenI a + lenI b) w2).mono ?_
  rintro e w3 ⟨rfl, rfl⟩
  go_wp2
  go_ret
  exact ⟨rfl, rfl⟩
end Go.Proofs.Ytfnnfjpbplbjmaa

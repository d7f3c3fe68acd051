/-
  The contracts of impl.Clamped, spec.Clamped and spec.l02Len: a number clamped to a length, to an offset. Conditions: none.
-/
import Derived.Test.YtcnmchcleghcgaaUnit
import Derived.Test.YtcnmchcleghcgaaBroS
import Derived.Deep.QuietTactic
import Derived.BigQuiet
import Derived.IntWalk
namespace Go.Proofs.Ytcnmchcleghcgaa
open Go.ChangeShapes Go.WideShapes Go.ChangeAt Go.RowKit

theorem sclamped (n : Int) (w : World) :
    Calls Try.prog 116 #[.int .i64 n] w fun e w' => e = .returned (.int .i64 (clI n)) ∧ w' = w := by
  go_enter Try.func116, Try.ntmps116
  go_wp2_with (fail)
  refine (sbr_any n 0 1048576 w).mono ?_
  rintro e w1 ⟨rfl, rfl⟩
  go_wp2
  go_ret
  exact ⟨rfl, rfl⟩
theorem slen (n : Int) (w : World) :
    Calls Try.prog 85 #[.int .i64 n] w fun e w' => e = .returned (.int .i64 (lenI n)) ∧ w' = w := by
  go_enter Try.func85, Try.ntmps85
  go_wp2_with (fail)
  refine (sbr_any n (-1048576) 1048576 w).mono ?_
  rintro e w1 ⟨rfl, rfl⟩
  go_wp2
  go_ret
  exact ⟨rfl, rfl⟩
end Go.Proofs.Ytcnmchcleghcgaa

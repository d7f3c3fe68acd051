/-
  The contracts of impl.Within and spec.Within: between the least and the most, the least winning; no most where it is negative. Conditions: none.
-/
import Derived.Test.YtnncdpkmhpjmbaaKit
namespace Go.Proofs.Ytnncdpkmhpjmbaa
open Go.ChangeShapes Go.WideShapes Go.ChangeAt Go.RowKit

def wiI (n least most : Int) : Int := if 0 ≤ most ∧ most < n then (if most < least then least else most) else if n < least then least else n
theorem swit_any (n least most : Int) (w : World) :
    Calls Try.prog 104 #[.int .i64 n, .int .i64 least, .int .i64 most] w fun e w' => e = .returned (.int .i64 (wiI n least most)) ∧ w' = w := by
  by_cases h1 : 0 ≤ most <;> by_cases h2 : most < n <;> by_cases h3 : n < least <;> by_cases h4 : most < least <;> (try omega) <;>
    (go_enter Try.func104, Try.ntmps104
     go_wp2
     all_goals go_ret
     all_goals exact ⟨ret_int (by unfold wiI; (repeat' split) <;> omega), rfl⟩)
theorem wiI_ge (n least most : Int) : least ≤ wiI n least most := by unfold wiI; (repeat' split) <;> omega
theorem wiI_le (n least most : Int) : wiI n least most ≤ most ∨ most < 0 ∨ wiI n least most = least := by unfold wiI; (repeat' split) <;> omega
end Go.Proofs.Ytnncdpkmhpjmbaa

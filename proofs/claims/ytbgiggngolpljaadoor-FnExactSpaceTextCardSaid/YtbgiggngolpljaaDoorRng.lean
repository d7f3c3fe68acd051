/-
  The contracts of impl.inRange and spec.l01In: is an int in a range? Conditions: none.
-/
import Derived.Test.YtbgiggngolpljaaDoorKit
namespace Go.Proofs.YtbgiggngolpljaaDoor
open Go.ChangeShapes Go.WideShapes Go.ChangeAt Go.RowKit

def rnB (x a b : Int) : Bool := decide (a ≤ x ∧ x ≤ b)
theorem irng (x a b : Int) (w : World) :
    Calls Tryd.prog 13 #[.int .i64 x, .int .i64 a, .int .i64 b] w fun e w' => e = .returned (.bool (rnB x a b)) ∧ w' = w := by
  unfold rnB
  by_cases h1 : a ≤ x <;> by_cases h2 : x ≤ b <;>
    (go_enter Tryd.func13, Tryd.ntmps13
     go_wp2
     go_ret
     exact ⟨congrArg (fun q => Ending.returned (.bool q)) (by simp [h1, h2]), rfl⟩)
theorem srng (x a b : Int) (w : World) :
    Calls Tryd.prog 11 #[.int .i64 x, .int .i64 a, .int .i64 b] w fun e w' => e = .returned (.bool (rnB x a b)) ∧ w' = w := by
  unfold rnB
  by_cases h1 : a ≤ x <;> by_cases h2 : x ≤ b <;>
    (go_enter Tryd.func11, Tryd.ntmps11
     go_wp2
     go_ret
     exact ⟨congrArg (fun q => Ending.returned (.bool q)) (by simp [h1, h2]), rfl⟩)
end Go.Proofs.YtbgiggngolpljaaDoor

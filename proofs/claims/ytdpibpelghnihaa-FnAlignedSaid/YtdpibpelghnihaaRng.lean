/-
  The contracts of impl.inRange and spec.l01In: is an int in a range? Conditions: none.
-/
import Derived.Test.YtdpibpelghnihaaKit
namespace Go.Proofs.Ytdpibpelghnihaa
open Go.ChangeShapes Go.WideShapes Go.ChangeAt Go.RowKit

def rnB (x a b : Int) : Bool := decide (a ≤ x ∧ x ≤ b)
theorem irng (x a b : Int) (w : World) :
    Calls Try.prog 40 #[.int .i64 x, .int .i64 a, .int .i64 b] w fun e w' => e = .returned (.bool (rnB x a b)) ∧ w' = w := by
  unfold rnB
  by_cases h1 : a ≤ x <;> by_cases h2 : x ≤ b <;>
    (go_enter Try.func40, Try.ntmps40
     go_wp2
     go_ret
     exact ⟨congrArg (fun q => Ending.returned (.bool q)) (by simp [h1, h2]), rfl⟩)
theorem srng (x a b : Int) (w : World) :
    Calls Try.prog 41 #[.int .i64 x, .int .i64 a, .int .i64 b] w fun e w' => e = .returned (.bool (rnB x a b)) ∧ w' = w := by
  unfold rnB
  by_cases h1 : a ≤ x <;> by_cases h2 : x ≤ b <;>
    (go_enter Try.func41, Try.ntmps41
     go_wp2
     go_ret
     exact ⟨congrArg (fun q => Ending.returned (.bool q)) (by simp [h1, h2]), rfl⟩)
end Go.Proofs.Ytdpibpelghnihaa

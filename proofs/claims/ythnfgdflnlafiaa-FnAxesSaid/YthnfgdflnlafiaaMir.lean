/-
  The contracts of Mirrored (program and model). Conditions: none.
-/
import Derived.Test.YthnfgdflnlafiaaKit
namespace Go.Proofs.Ythnfgdflnlafiaa
open Go.ChangeShapes Go.WideShapes Go.ChangeAt Go.RowKit

/-- The position, mirrored or not. -/
def mirI (inner at_ size : Int) (back : Bool) : Int := if back then wrap64 (wrap64 (inner - at_) - size) else at_
theorem smirr (a b c : Int) (t : Bool) (w : World) :
    Calls Try.prog 29 #[.int .i64 a, .int .i64 b, .int .i64 c, .bool t] w fun e w' => e = .returned (.int .i64 (mirI a b c t)) ∧ w' = w := by
  cases t
  all_goals
    go_enter Try.func29, Try.ntmps29
    go_wp2
    go_ret
    exact ⟨rfl, rfl⟩
theorem imirr (a b c : Int) (t : Bool) (w : World) :
    Calls Try.prog 18 #[.int .i64 a, .int .i64 b, .int .i64 c, .bool t] w fun e w' => e = .returned (.int .i64 (mirI a b c t)) ∧ w' = w := by
  cases t
  all_goals
    go_enter Try.func18, Try.ntmps18
    go_wp2
    go_ret
    exact ⟨rfl, rfl⟩
end Go.Proofs.Ythnfgdflnlafiaa

/-
  The contracts of laws.eqValue and laws.eqEdges: whether two structs of ints are equal, cell by cell. Conditions: none.
-/
import Derived.Test.YtfnnfjpbplbjmaaValM
namespace Go.Proofs.Ytfnnfjpbplbjmaa
open Go.ChangeShapes Go.WideShapes Go.ChangeAt Go.RowKit

theorem eqV (a b x y : Int) (w : World) :
    Calls Try.prog 168 #[.agg #[.int .i64 a, .int .i64 b], .agg #[.int .i64 x, .int .i64 y]] w fun e w' => e = .returned (.bool (a == x && b == y)) ∧ Below w.heap.size w w' := by
  by_cases h1 : a = x <;> by_cases h2 : b = y <;>
    (go_enter Try.func168, Try.ntmps168
     go_wp2
     go_ret
     exact ⟨ret_bool' (by simp [h1, h2]), Go.Joins.below_alloc2 ..⟩)
theorem eqE (a b c d x y z u : Int) (w : World) :
    Calls Try.prog 170 #[.agg #[.int .i64 a, .int .i64 b, .int .i64 c, .int .i64 d], .agg #[.int .i64 x, .int .i64 y, .int .i64 z, .int .i64 u]] w fun e w' => e = .returned (.bool (a == x && b == y && c == z && d == u)) ∧ Below w.heap.size w w' := by
  by_cases h1 : a = x
  case neg =>
    go_enter Try.func170, Try.ntmps170
    go_wp2
    go_ret
    exact ⟨ret_bool' (by simp [h1]), Go.Joins.below_alloc2 ..⟩
  by_cases h2 : b = y
  case neg =>
    go_enter Try.func170, Try.ntmps170
    go_wp2
    go_ret
    exact ⟨ret_bool' (by simp [h2]), Go.Joins.below_alloc2 ..⟩
  by_cases h3 : c = z
  case neg =>
    go_enter Try.func170, Try.ntmps170
    go_wp2
    go_ret
    exact ⟨ret_bool' (by simp [h3]), Go.Joins.below_alloc2 ..⟩
  by_cases h4 : d = u <;>
    (go_enter Try.func170, Try.ntmps170
     go_wp2
     go_ret
     exact ⟨ret_bool' (by simp [h1, h2, h3, h4]), Go.Joins.below_alloc2 ..⟩)
end Go.Proofs.Ytfnnfjpbplbjmaa

/-
  The plain functions that say what chapter 4's functions answer for a value of kind k and number n; the contract of laws.toValue (a copy). Conditions: none.
-/
import Derived.Test.YtfnnfjpbplbjmaaKit
import Derived.Lib.SmallJoins
namespace Go.Proofs.Ytfnnfjpbplbjmaa
open Go.ChangeShapes Go.WideShapes Go.ChangeAt Go.RowKit

def okV (k n : Int) : Bool := if k = 0 ∨ k = 3 then decide (n = 0) else if k = 1 then decide (-1048576 ≤ n ∧ n ≤ 1048576) else if k = 2 then decide (-1000 ≤ n ∧ n ≤ 1000) else false
def knV (k b : Int) : Bool := decide (k = 1 ∨ (k = 2 ∧ 0 ≤ b))
theorem ret_bool' {a b : Bool} (h : a = b) : Ending.returned (.bool a) = .returned (.bool b) := by rw [h]
theorem ret_two {k : IntKind} {a b : Int} {x y : Bool} (h : a = b) (h' : x = y) : Ending.returned (.tuple #[.int k a, .bool x]) = .returned (.tuple #[.int k b, .bool y]) := by rw [h, h']
theorem kind_cases (k : Int) : k = 0 ∨ k = 1 ∨ k = 2 ∨ k = 3 ∨ (k < 0 ∨ 3 < k) := by omega

theorem toVal (k n : Int) (w : World) :
    Calls Try.prog 164 #[.agg #[.int .i64 k, .int .i64 n]] w fun e w' => e = .returned (.agg #[.int .i64 k, .int .i64 n]) ∧ Below w.heap.size w w' := by
  go_enter Try.func164, Try.ntmps164
  go_wp2
  refine bodyPost_ret (v := .agg #[.int .i64 k, .int .i64 n]) (by simp [results, Try.results164, go_sem]) rfl ⟨rfl, Go.Joins.below_alloc3 ..⟩
end Go.Proofs.Ytfnnfjpbplbjmaa

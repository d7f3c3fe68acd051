/-
  The contract of laws.toEdges (a copy of four ints). Conditions: none.
-/
import Derived.Test.YtfnnfjpbplbjmaaValM
import Derived.Test.YtfnnfjpbplbjmaaOpen
namespace Go.Proofs.Ytfnnfjpbplbjmaa
open Go.ChangeShapes Go.WideShapes Go.ChangeAt Go.RowKit

theorem toEdg (a b c d : Int) (w : World) :
    Calls Try.prog 166 #[.agg #[.int .i64 a, .int .i64 b, .int .i64 c, .int .i64 d]] w fun e w' => e = .returned (.agg #[.int .i64 a, .int .i64 b, .int .i64 c, .int .i64 d]) ∧ Below w.heap.size w w' := by
  go_enter Try.func166, Try.ntmps166
  go_wp2
  refine bodyPost_ret (v := .agg #[.int .i64 a, .int .i64 b, .int .i64 c, .int .i64 d]) (by simp [results, Try.results166, go_sem]) rfl ⟨rfl, Go.Joins.below_alloc3 ..⟩
end Go.Proofs.Ytfnnfjpbplbjmaa

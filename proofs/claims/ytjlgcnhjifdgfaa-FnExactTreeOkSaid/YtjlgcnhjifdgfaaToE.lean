/-
  The contract of laws.toEdges (a copy of four ints). Conditions: none.
-/
import Derived.Test.YtjlgcnhjifdgfaaValM
import Derived.Test.YtjlgcnhjifdgfaaOpen
namespace Go.Proofs.Ytjlgcnhjifdgfaa
open Go.ChangeShapes Go.WideShapes Go.ChangeAt Go.RowKit

theorem toEdg (a b c d : Int) (w : World) :
    Calls Try.prog 85 #[.agg #[.int .i64 a, .int .i64 b, .int .i64 c, .int .i64 d]] w fun e w' => e = .returned (.agg #[.int .i64 a, .int .i64 b, .int .i64 c, .int .i64 d]) ∧ Below w.heap.size w w' := by
  go_enter Try.func85, Try.ntmps85
  go_wp2
  refine bodyPost_ret (v := .agg #[.int .i64 a, .int .i64 b, .int .i64 c, .int .i64 d]) (by simp [results, Try.results85, go_sem]) rfl ⟨rfl, Go.Joins.below_alloc3 ..⟩
end Go.Proofs.Ytjlgcnhjifdgfaa

/-
  The contract of laws.toEdges (a copy of four ints). Conditions: none.
-/
import Derived.Test.YtbaahedoifajpaaValM
import Derived.Test.YtbaahedoifajpaaOpen
namespace Go.Proofs.Ytbaahedoifajpaa
open Go.ChangeShapes Go.WideShapes Go.ChangeAt Go.RowKit

theorem toEdg (a b c d : Int) (w : World) :
    Calls Try.prog 134 #[.agg #[.int .i64 a, .int .i64 b, .int .i64 c, .int .i64 d]] w fun e w' => e = .returned (.agg #[.int .i64 a, .int .i64 b, .int .i64 c, .int .i64 d]) ∧ Below w.heap.size w w' := by
  go_enter Try.func134, Try.ntmps134
  go_wp2
  refine bodyPost_ret (v := .agg #[.int .i64 a, .int .i64 b, .int .i64 c, .int .i64 d]) (by simp [results, Try.results134, go_sem]) rfl ⟨rfl, Go.Joins.below_alloc3 ..⟩
end Go.Proofs.Ytbaahedoifajpaa

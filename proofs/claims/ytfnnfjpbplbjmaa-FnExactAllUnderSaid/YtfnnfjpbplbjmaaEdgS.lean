/-
  The contracts of the document's model of chapter 5 over edges: spec.WideOf, HighOf, EdgesIn, EdgesOk. Conditions: none.
-/
import Derived.Test.YtfnnfjpbplbjmaaEdgM
import Derived.Test.YtfnnfjpbplbjmaaLenM
import Derived.Test.YtfnnfjpbplbjmaaValS
namespace Go.Proofs.Ytfnnfjpbplbjmaa
open Go.ChangeShapes Go.WideShapes Go.ChangeAt Go.RowKit

theorem sinI (x : Int) (w : World) :
    Calls Try.prog 71 #[.int .i64 x, .int .i64 0, .int .i64 1048576] w fun e w' => e = .returned (.bool (inI x)) ∧ w' = w := sin_any x 0 1048576 w
theorem sedgesok (a b c d : Int) (w : World) :
    Calls Try.prog 120 #[.agg #[.int .i64 a, .int .i64 b, .int .i64 c, .int .i64 d]] w fun e w' => e = .returned (.bool (edOk a b c d)) ∧ Below w.heap.size w w' := by
  have s1 := sinI a
  have s2 := sinI b
  have s3 := sinI c
  have s4 := sinI d
  unfold edOk
  cases ha : inI a <;> rw [ha] at s1
  · go_enter Try.func120, Try.ntmps120
    go_wp2_with (fail)
    refine (s1 _).mono ?_
    rintro e w1 ⟨rfl, rfl⟩
    go_wp2
    go_ret
    exact ⟨rfl, Go.Joins.below_alloc1 ..⟩
  cases hb : inI b <;> rw [hb] at s2
  · go_enter Try.func120, Try.ntmps120
    go_wp2_with (fail)
    refine (s1 _).mono ?_
    rintro e w1 ⟨rfl, rfl⟩
    go_wp2_with (fail)
    refine (s2 _).mono ?_
    rintro e w1 ⟨rfl, rfl⟩
    go_wp2
    go_ret
    exact ⟨rfl, Go.Joins.below_alloc1 ..⟩
  cases hc : inI c <;> rw [hc] at s3
  · go_enter Try.func120, Try.ntmps120
    go_wp2_with (fail)
    refine (s1 _).mono ?_
    rintro e w1 ⟨rfl, rfl⟩
    go_wp2_with (fail)
    refine (s2 _).mono ?_
    rintro e w1 ⟨rfl, rfl⟩
    go_wp2_with (fail)
    refine (s3 _).mono ?_
    rintro e w1 ⟨rfl, rfl⟩
    go_wp2
    go_ret
    exact ⟨rfl, Go.Joins.below_alloc1 ..⟩
  · go_enter Try.func120, Try.ntmps120
    go_wp2_with (fail)
    refine (s1 _).mono ?_
    rintro e w1 ⟨rfl, rfl⟩
    go_wp2_with (fail)
    refine (s2 _).mono ?_
    rintro e w1 ⟨rfl, rfl⟩
    go_wp2_with (fail)
    refine (s3 _).mono ?_
    rintro e w1 ⟨rfl, rfl⟩
    go_wp2_with (fail)
    refine (s4 _).mono ?_
    rintro e w1 ⟨rfl, rfl⟩
    go_wp2
    go_ret
    exact ⟨rfl, Go.Joins.below_alloc1 ..⟩
end Go.Proofs.Ytfnnfjpbplbjmaa

/-
  A space of mode k and number n: the contracts of laws.toSpace (a copy) and of SpaceOk of both sides. Conditions: none.
-/
import Derived.Test.YtbgiggngolpljaaDoorRng
import Derived.Test.YtbgiggngolpljaaDoorOpen
namespace Go.Proofs.YtbgiggngolpljaaDoor
open Go.ChangeShapes Go.WideShapes Go.ChangeAt Go.RowKit
set_option linter.unusedVariables false

def spOk (k n : Int) : Bool := if k = 1 then decide (n = 0) else rnB k 2 3 && rnB n 0 1048576
theorem spOk_2 (n : Int) : spOk 2 n = rnB n 0 1048576 := by simp [spOk, rnB]
theorem spOk_3 (n : Int) : spOk 3 n = rnB n 0 1048576 := by simp [spOk, rnB]
theorem spOk_n {k : Int} (n : Int) (h : k < 1 ∨ 3 < k) : spOk k n = false := by
  have h1 : k ≠ 1 := by omega
  have h2 : rnB k 2 3 = false := by simp [rnB]; omega
  simp [spOk, h1, h2]
theorem spOk_in {k n : Int} (h : spOk k n = true) : (k = 1 ∧ n = 0) ∨ (k = 2 ∧ 0 ≤ n ∧ n ≤ 1048576) ∨ (k = 3 ∧ 0 ≤ n ∧ n ≤ 1048576) := by
  unfold spOk rnB at h
  split at h
  · simp at h; omega
  · simp at h; omega
theorem mode_cases (k : Int) : k = 1 ∨ k = 2 ∨ k = 3 ∨ (k < 1 ∨ 3 < k) := by omega
theorem ret_b {a b : Bool} (h : a = b) : Ending.returned (.bool a) = .returned (.bool b) := by rw [h]

theorem toSpa (k n : Int) (w : World) :
    Calls Tryd.prog 5 #[.agg #[.int .i64 k, .int .i64 n]] w fun e w' => e = .returned (.agg #[.int .i64 k, .int .i64 n]) ∧ Below w.heap.size w w' := by
  go_enter Tryd.func5, Tryd.ntmps5
  go_wp2
  refine bodyPost_ret (v := .agg #[.int .i64 k, .int .i64 n]) (by simp [results, Tryd.results5, go_sem]) rfl ⟨rfl, Go.Joins.below_alloc3 ..⟩

theorem sspok1 (n : Int) (w : World) :
    Calls Tryd.prog 7 #[.agg #[.int .i64 1, .int .i64 n]] w fun e w' => e = .returned (.bool (spOk 1 n)) ∧ Below w.heap.size w w' := by
  go_enter Tryd.func7, Tryd.ntmps7
  go_wp2
  go_ret
  exact ⟨ret_b (by simp [spOk]; try rfl), Go.Joins.below_alloc1 ..⟩
theorem sspokn (k n : Int) (w : World) (h : k < 1 ∨ 3 < k) :
    Calls Tryd.prog 7 #[.agg #[.int .i64 k, .int .i64 n]] w fun e w' => e = .returned (.bool (spOk k n)) ∧ Below w.heap.size w w' := by
  rw [spOk_n n h]
  have h1 : (k == 1) = false := by simp; omega
  have hr : rnB k 2 3 = false := by simp [rnB]; omega
  clear h
  go_enter Tryd.func7, Tryd.ntmps7
  go_wp2_with (fail)
  refine (srng k 2 3 _).mono ?_
  rintro e w1 ⟨rfl, rfl⟩
  rw [hr]
  go_wp2
  go_ret
  exact ⟨rfl, Go.Joins.below_alloc1 ..⟩
theorem sspok2 (n : Int) (w : World) :
    Calls Tryd.prog 7 #[.agg #[.int .i64 2, .int .i64 n]] w fun e w' => e = .returned (.bool (spOk 2 n)) ∧ Below w.heap.size w w' := by
  rw [spOk_2]
  go_enter Tryd.func7, Tryd.ntmps7
  go_wp2_with (fail)
  refine (srng 2 2 3 _).mono ?_
  rintro e w1 ⟨rfl, rfl⟩
  rw [show rnB 2 2 3 = true by simp [rnB]]
  go_wp2_with (fail)
  refine (srng n 0 1048576 _).mono ?_
  rintro e w1 ⟨rfl, rfl⟩
  go_wp2
  go_ret
  exact ⟨rfl, Go.Joins.below_alloc1 ..⟩
theorem sspok3 (n : Int) (w : World) :
    Calls Tryd.prog 7 #[.agg #[.int .i64 3, .int .i64 n]] w fun e w' => e = .returned (.bool (spOk 3 n)) ∧ Below w.heap.size w w' := by
  rw [spOk_3]
  go_enter Tryd.func7, Tryd.ntmps7
  go_wp2_with (fail)
  refine (srng 3 2 3 _).mono ?_
  rintro e w1 ⟨rfl, rfl⟩
  rw [show rnB 3 2 3 = true by simp [rnB]]
  go_wp2_with (fail)
  refine (srng n 0 1048576 _).mono ?_
  rintro e w1 ⟨rfl, rfl⟩
  go_wp2
  go_ret
  exact ⟨rfl, Go.Joins.below_alloc1 ..⟩
theorem sspok (k n : Int) (w : World) :
    Calls Tryd.prog 7 #[.agg #[.int .i64 k, .int .i64 n]] w fun e w' => e = .returned (.bool (spOk k n)) ∧ Below w.heap.size w w' := by
  rcases mode_cases k with rfl | rfl | rfl | h
  · exact sspok1 n w
  · exact sspok2 n w
  · exact sspok3 n w
  · exact sspokn k n w h

theorem ispok1 (n : Int) (w : World) :
    Calls Tryd.prog 9 #[.agg #[.int .i64 1, .int .i64 n]] w fun e w' => e = .returned (.bool (spOk 1 n)) ∧ Below w.heap.size w w' := by
  go_enter Tryd.func9, Tryd.ntmps9
  go_wp2
  go_ret
  exact ⟨ret_b (by simp [spOk]; try rfl), Go.Joins.below_alloc1 ..⟩
theorem ispokn (k n : Int) (w : World) (h : k < 1 ∨ 3 < k) :
    Calls Tryd.prog 9 #[.agg #[.int .i64 k, .int .i64 n]] w fun e w' => e = .returned (.bool (spOk k n)) ∧ Below w.heap.size w w' := by
  rw [spOk_n n h]
  have h1 : (k == 1) = false := by simp; omega
  have h2 : (k == 2) = false := by simp; omega
  have h3 : (k == 3) = false := by simp; omega
  clear h
  go_enter Tryd.func9, Tryd.ntmps9
  go_wp2
  go_ret
  exact ⟨rfl, Go.Joins.below_alloc1 ..⟩
theorem ispok2 (n : Int) (w : World) :
    Calls Tryd.prog 9 #[.agg #[.int .i64 2, .int .i64 n]] w fun e w' => e = .returned (.bool (spOk 2 n)) ∧ Below w.heap.size w w' := by
  rw [spOk_2]
  go_enter Tryd.func9, Tryd.ntmps9
  go_wp2_with (fail)
  refine (irng n 0 1048576 _).mono ?_
  rintro e w1 ⟨rfl, rfl⟩
  go_wp2
  go_ret
  exact ⟨rfl, Go.Joins.below_alloc1 ..⟩
theorem ispok3 (n : Int) (w : World) :
    Calls Tryd.prog 9 #[.agg #[.int .i64 3, .int .i64 n]] w fun e w' => e = .returned (.bool (spOk 3 n)) ∧ Below w.heap.size w w' := by
  rw [spOk_3]
  go_enter Tryd.func9, Tryd.ntmps9
  go_wp2_with (fail)
  refine (irng n 0 1048576 _).mono ?_
  rintro e w1 ⟨rfl, rfl⟩
  go_wp2
  go_ret
  exact ⟨rfl, Go.Joins.below_alloc1 ..⟩
theorem ispok (k n : Int) (w : World) :
    Calls Tryd.prog 9 #[.agg #[.int .i64 k, .int .i64 n]] w fun e w' => e = .returned (.bool (spOk k n)) ∧ Below w.heap.size w w' := by
  rcases mode_cases k with rfl | rfl | rfl | h
  · exact ispok1 n w
  · exact ispok2 n w
  · exact ispok3 n w
  · exact ispokn k n w h
end Go.Proofs.YtbgiggngolpljaaDoor

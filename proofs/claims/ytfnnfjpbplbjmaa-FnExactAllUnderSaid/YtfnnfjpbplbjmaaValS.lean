/-
  The contract of spec.ValueOk, and of spec.l01In (within a range). Conditions: none.
-/
import Derived.Test.YtfnnfjpbplbjmaaValM
namespace Go.Proofs.Ytfnnfjpbplbjmaa
open Go.ChangeShapes Go.WideShapes Go.ChangeAt Go.RowKit

theorem sin_any (x least most : Int) (w : World) :
    Calls Try.prog 71 #[.int .i64 x, .int .i64 least, .int .i64 most] w fun e w' => e = .returned (.bool (decide (least ≤ x ∧ x ≤ most))) ∧ w' = w := by
  by_cases h1 : least ≤ x <;> by_cases h2 : x ≤ most <;>
    (go_enter Try.func71, Try.ntmps71
     go_wp2
     go_ret
     exact ⟨ret_bool' (by simp [h1, h2]; try omega), rfl⟩)

theorem svok0 (n : Int) (w : World) :
    Calls Try.prog 146 #[.agg #[.int .i64 0, .int .i64 n]] w fun e w' => e = .returned (.bool (okV 0 n)) ∧ Below w.heap.size w w' := by
  go_enter Try.func146, Try.ntmps146
  go_wp2
  go_ret
  exact ⟨ret_bool' (by simp [okV]; try rfl), Go.Joins.below_alloc1 ..⟩
theorem svok3 (n : Int) (w : World) :
    Calls Try.prog 146 #[.agg #[.int .i64 3, .int .i64 n]] w fun e w' => e = .returned (.bool (okV 3 n)) ∧ Below w.heap.size w w' := by
  go_enter Try.func146, Try.ntmps146
  go_wp2
  go_ret
  exact ⟨ret_bool' (by simp [okV]; try rfl), Go.Joins.below_alloc1 ..⟩
theorem svok1 (n : Int) (w : World) :
    Calls Try.prog 146 #[.agg #[.int .i64 1, .int .i64 n]] w fun e w' => e = .returned (.bool (okV 1 n)) ∧ Below w.heap.size w w' := by
  go_enter Try.func146, Try.ntmps146
  go_wp2_with (fail)
  refine (sin_any n (-1048576) 1048576 _).mono ?_
  rintro e w1 ⟨rfl, rfl⟩
  go_wp2
  go_ret
  exact ⟨ret_bool' (by simp [okV]), Go.Joins.below_alloc1 ..⟩
theorem svok2 (n : Int) (w : World) :
    Calls Try.prog 146 #[.agg #[.int .i64 2, .int .i64 n]] w fun e w' => e = .returned (.bool (okV 2 n)) ∧ Below w.heap.size w w' := by
  go_enter Try.func146, Try.ntmps146
  go_wp2_with (fail)
  refine (sin_any n (-1000) 1000 _).mono ?_
  rintro e w1 ⟨rfl, rfl⟩
  go_wp2
  go_ret
  exact ⟨ret_bool' (by simp [okV]), Go.Joins.below_alloc1 ..⟩
theorem svokn (k n : Int) (w : World) (h : k < 0 ∨ 3 < k) :
    Calls Try.prog 146 #[.agg #[.int .i64 k, .int .i64 n]] w fun e w' => e = .returned (.bool (okV k n)) ∧ Below w.heap.size w w' := by
  have h0 : (k == 0) = false := by simp; omega
  have h1 : (k == 1) = false := by simp; omega
  have h2 : (k == 2) = false := by simp; omega
  have h3 : (k == 3) = false := by simp; omega
  have H := Lib.hid h
  clear h
  go_enter Try.func146, Try.ntmps146
  go_wp2
  go_ret
  exact ⟨ret_bool' (by have h := H.out; unfold okV; rw [if_neg (by omega), if_neg (by omega), if_neg (by omega)]), Go.Joins.below_alloc1 ..⟩
theorem svok (k n : Int) (w : World) :
    Calls Try.prog 146 #[.agg #[.int .i64 k, .int .i64 n]] w fun e w' => e = .returned (.bool (okV k n)) ∧ Below w.heap.size w w' := by
  rcases kind_cases k with rfl | rfl | rfl | rfl | h
  · exact svok0 n w
  · exact svok1 n w
  · exact svok2 n w
  · exact svok3 n w
  · exact svokn k n w h
end Go.Proofs.Ytfnnfjpbplbjmaa

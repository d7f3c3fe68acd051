/-
  The contracts of the program's chapter 4: percentValue.of, resolved. Conditions: none.
-/
import Derived.Test.YtpmfijaclncfhaaValI
import Derived.Test.YtpmfijaclncfhaaLenM
namespace Go.Proofs.Ytpmfijaclncfhaa
open Go.ChangeShapes Go.WideShapes Go.ChangeAt Go.RowKit

theorem iof (n b : Int) (w : World) :
    Calls Try.prog 89 #[.int .i64 n, .int .i64 b] w fun e w' => e = .returned (.int .i64 (pcI b n)) ∧ w' = w := by
  have hp := pc_in b n
  unfold pcI
  go_enter Try.func89, Try.ntmps89
  go_wp2_with (fail)
  refine (iclamped b w).mono ?_
  rintro e w1 ⟨rfl, rfl⟩
  go_wp2_with (fail)
  refine (ibr_any n (-1000000) 1000000 w1).mono ?_
  rintro e w2 ⟨rfl, rfl⟩
  go_wp2_with (fail)
  refine (ifd_any _ 100 w2 (by omega) (by omega)).mono ?_
  rintro e w3 ⟨rfl, rfl⟩
  go_wp2
  go_ret
  exact ⟨rfl, rfl⟩

theorem ires0 (n b : Int) (w : World) :
    Calls Try.prog 85 #[.agg #[.int .i64 0, .int .i64 n], .int .i64 b] w fun e w' => e = .returned (.tuple #[.int .i64 (lnV 0 n b), .bool (knV 0 b)]) ∧ Below w.heap.size w w' := by
  have t1 := as01 (.agg #[])
  have t2 := as02 (.agg #[])
  go_enter Try.func85, Try.ntmps85
  go_wp2_with (fail)
  refine (ity0 n _).mono ?_
  rintro e w1 ⟨rfl, rfl⟩
  go_wp2
  go_ret2
  exact ⟨ret_two (by simp [lnV]) (by simp [knV]), Go.Joins.below_alloc2 ..⟩

theorem ires3 (n b : Int) (w : World) :
    Calls Try.prog 85 #[.agg #[.int .i64 3, .int .i64 n], .int .i64 b] w fun e w' => e = .returned (.tuple #[.int .i64 (lnV 3 n b), .bool (knV 3 b)]) ∧ Below w.heap.size w w' := by
  have t1 := as31 (.agg #[])
  have t2 := as32 (.agg #[])
  go_enter Try.func85, Try.ntmps85
  go_wp2_with (fail)
  refine (ity3 n _).mono ?_
  rintro e w1 ⟨rfl, rfl⟩
  go_wp2
  go_ret2
  exact ⟨ret_two (by simp [lnV]) (by simp [knV]), Go.Joins.below_alloc2 ..⟩

theorem ires1 (n b : Int) (w : World) :
    Calls Try.prog 85 #[.agg #[.int .i64 1, .int .i64 n], .int .i64 b] w fun e w' => e = .returned (.tuple #[.int .i64 (lnV 1 n b), .bool (knV 1 b)]) ∧ Below w.heap.size w w' := by
  have t1 := as11 (.int .i64 n)
  have t2 := as12 (.int .i64 n)
  go_enter Try.func85, Try.ntmps85
  go_wp2_with (fail)
  refine (ity1 n _).mono ?_
  rintro e w1 ⟨rfl, rfl⟩
  go_wp2
  go_ret2
  exact ⟨ret_two (by simp [lnV]) (by simp [knV]), Go.Joins.below_alloc2 ..⟩

theorem ires2 (n b : Int) (w : World) :
    Calls Try.prog 85 #[.agg #[.int .i64 2, .int .i64 n], .int .i64 b] w fun e w' => e = .returned (.tuple #[.int .i64 (lnV 2 n b), .bool (knV 2 b)]) ∧ Below w.heap.size w w' := by
  have t1 := as21 (.int .i64 n)
  have t2 := as22 (.int .i64 n)
  by_cases hb : b < 0
  · go_enter Try.func85, Try.ntmps85
    go_wp2_with (fail)
    refine (ity2 n _).mono ?_
    rintro e w1 ⟨rfl, rfl⟩
    go_wp2
    go_ret2
    exact ⟨ret_two (by unfold lnV; rw [if_neg (by omega), if_neg (by omega)]) (by simp [knV]; omega), Go.Joins.below_alloc2 ..⟩
  · go_enter Try.func85, Try.ntmps85
    go_wp2_with (fail)
    refine (ity2 n _).mono ?_
    rintro e w1 ⟨rfl, rfl⟩
    go_wp2_with (fail)
    refine (iof n b _).mono ?_
    rintro e w2 ⟨rfl, rfl⟩
    go_wp2
    go_ret2
    exact ⟨ret_two (by unfold lnV; rw [if_neg (by omega), if_pos (by omega)]) (by simp [knV]; omega), Go.Joins.below_alloc2 ..⟩
theorem iresn (k n b : Int) (w : World) (h : k < 0 ∨ 3 < k) :
    Calls Try.prog 85 #[.agg #[.int .i64 k, .int .i64 n], .int .i64 b] w fun e w' => e = .returned (.tuple #[.int .i64 (lnV k n b), .bool (knV k b)]) ∧ Below w.heap.size w w' := by
  have t1 := asn1
  have t2 := asn2
  have H := Lib.hid h
  clear h
  go_enter Try.func85, Try.ntmps85
  go_wp2_with (fail)
  refine (itynone k n _ H.out).mono ?_
  rintro e w1 ⟨rfl, rfl⟩
  go_wp2
  go_ret2
  exact ⟨ret_two (by have h := H.out; unfold lnV; rw [if_neg (by omega), if_neg (by omega)]) (by have h := H.out; simp [knV]; omega), Go.Joins.below_alloc2 ..⟩
theorem ires (k n b : Int) (w : World) :
    Calls Try.prog 85 #[.agg #[.int .i64 k, .int .i64 n], .int .i64 b] w fun e w' => e = .returned (.tuple #[.int .i64 (lnV k n b), .bool (knV k b)]) ∧ Below w.heap.size w w' := by
  rcases kind_cases k with rfl | rfl | rfl | rfl | h
  · exact ires0 n b w
  · exact ires1 n b w
  · exact ires2 n b w
  · exact ires3 n b w
  · exact iresn k n b w h
end Go.Proofs.Ytpmfijaclncfhaa

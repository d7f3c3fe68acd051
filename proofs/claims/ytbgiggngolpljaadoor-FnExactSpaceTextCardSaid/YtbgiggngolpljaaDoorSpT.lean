/-
  The text of a space of mode k and number n, as bytes; the contracts of impl.SpaceText and spec.SpaceText. Conditions: the number is an int; for the program's, that the library's table of powers of ten holds its numbers.
-/
import Derived.Test.YtbgiggngolpljaaDoorSpa
import Derived.Test.YtbgiggngolpljaaDoorIto
import Derived.Test.YtbgiggngolpljaaDoorDec
import Derived.Lib.ItoaLen
namespace Go.Proofs.YtbgiggngolpljaaDoor
open Go.ChangeShapes Go.WideShapes Go.ChangeAt Go.RowKit
set_option linter.unusedVariables false

def txS (k n : Int) : ByteArray :=
  if spOk k n = false then ⟨#[63]⟩ else if k = 2 then ⟨([109, 111, 115, 116, 32] ++ Lib.itoa n).toArray⟩ else if k = 3 then ⟨([101, 120, 97, 99, 116, 32] ++ Lib.itoa n).toArray⟩ else ⟨#[102, 114, 101, 101]⟩
theorem cat_most (n : Int) (h0 : -9223372036854775808 ≤ n) (h1 : n ≤ 9223372036854775807) (wr : World) :
    (Op.stringOp .add ⟨#[109, 111, 115, 116, 32]⟩ ⟨(Lib.itoa n).toArray⟩).run Tryd.prog wr = .ok (.string ⟨([109, 111, 115, 116, 32] ++ Lib.itoa n).toArray⟩) wr := by
  have hl := Lib.itoa_length_le n h0 h1
  rw [show (#[109, 111, 115, 116, 32] : Array UInt8) = [109, 111, 115, 116, 32].toArray from rfl, run_string_add_lists _ _ _ (by simp) (by omega)]
theorem cat_exact (n : Int) (h0 : -9223372036854775808 ≤ n) (h1 : n ≤ 9223372036854775807) (wr : World) :
    (Op.stringOp .add ⟨#[101, 120, 97, 99, 116, 32]⟩ ⟨(Lib.itoa n).toArray⟩).run Tryd.prog wr = .ok (.string ⟨([101, 120, 97, 99, 116, 32] ++ Lib.itoa n).toArray⟩) wr := by
  have hl := Lib.itoa_length_le n h0 h1
  rw [show (#[101, 120, 97, 99, 116, 32] : Array UInt8) = [101, 120, 97, 99, 116, 32].toArray from rfl, run_string_add_lists _ _ _ (by simp) (by omega)]

theorem itxbad (k n : Int) (w : World) (h : spOk k n = false) :
    Calls Tryd.prog 6 #[.agg #[.int .i64 k, .int .i64 n]] w fun e w' => e = .returned (.string (txS k n)) ∧ Below w.heap.size w w' := by
  go_enter Tryd.func6, Tryd.ntmps6
  go_wp2_with (fail)
  refine (ispok k n _).mono ?_
  rintro e w1 ⟨rfl, b1⟩
  rw [h]
  go_wp2
  go_ret
  exact ⟨ret_str (by simp [txS, h]), (Go.Joins.below_alloc1 ..).trans (b1.mono (by simp))⟩
theorem itx1 (n : Int) (w : World) (u0 : -9223372036854775808 ≤ n) (u1 : n ≤ 9223372036854775807) (h : spOk 1 n = true) (ht : Ito.Tab w) :
    Calls Tryd.prog 6 #[.agg #[.int .i64 1, .int .i64 n]] w fun e w' => e = .returned (.string (txS 1 n)) ∧ Below w.heap.size w w' := by
  have hx : txS 1 n = ⟨#[102, 114, 101, 101]⟩ := by simp [txS, h]
  rw [hx]
  clear hx
  go_enter Tryd.func6, Tryd.ntmps6
  go_wp2_with (fail)
  refine (ispok 1 n _).mono ?_
  rintro e w1 ⟨rfl, b1⟩
  rw [h]
  have c0 : w1.cell? ⟨w.heap.size, 0, none⟩ = some (.int .i64 1) := by rw [b1.cell (by simp)]; simp
  have c1 : w1.cell? ⟨w.heap.size, 1, none⟩ = some (.int .i64 n) := by rw [b1.cell (by simp)]; simp
  have B1 := Lib.hid ((Go.Joins.below_alloc1 w (.cells #[.int .i64 1, .int .i64 n] 25)).trans (b1.mono (by simp)))
  clear b1 h
  go_wp2
  go_ret
  exact ⟨rfl, B1.out⟩
theorem itx2 (n : Int) (w : World) (u0 : -9223372036854775808 ≤ n) (u1 : n ≤ 9223372036854775807) (h : spOk 2 n = true) (ht : Ito.Tab w) :
    Calls Tryd.prog 6 #[.agg #[.int .i64 2, .int .i64 n]] w fun e w' => e = .returned (.string (txS 2 n)) ∧ Below w.heap.size w w' := by
  have hx : txS 2 n = ⟨([109, 111, 115, 116, 32] ++ Lib.itoa n).toArray⟩ := by simp [txS, h]
  rw [hx]
  clear hx
  have hcat := cat_most n u0 u1
  go_enter Tryd.func6, Tryd.ntmps6
  go_wp2_with (fail)
  refine (ispok 2 n _).mono ?_
  rintro e w1 ⟨rfl, b1⟩
  rw [h]
  have c0 : w1.cell? ⟨w.heap.size, 0, none⟩ = some (.int .i64 2) := by rw [b1.cell (by simp)]; simp
  have c1 : w1.cell? ⟨w.heap.size, 1, none⟩ = some (.int .i64 n) := by rw [b1.cell (by simp)]; simp
  have B1 := Lib.hid ((Go.Joins.below_alloc1 w (.cells #[.int .i64 2, .int .i64 n] 25)).trans (b1.mono (by simp)))
  clear b1 h
  go_wp2_with (fail)
  refine (Ito.idec_any n _ u0 u1 (ht.below B1.out)).mono ?_
  rintro e w3 ⟨rfl, b3⟩
  go_wp2
  go_ret
  exact ⟨rfl, B1.out.trans (b3.mono B1.out.size)⟩
theorem itx3 (n : Int) (w : World) (u0 : -9223372036854775808 ≤ n) (u1 : n ≤ 9223372036854775807) (h : spOk 3 n = true) (ht : Ito.Tab w) :
    Calls Tryd.prog 6 #[.agg #[.int .i64 3, .int .i64 n]] w fun e w' => e = .returned (.string (txS 3 n)) ∧ Below w.heap.size w w' := by
  have hx : txS 3 n = ⟨([101, 120, 97, 99, 116, 32] ++ Lib.itoa n).toArray⟩ := by simp [txS, h]
  rw [hx]
  clear hx
  have hcat := cat_exact n u0 u1
  go_enter Tryd.func6, Tryd.ntmps6
  go_wp2_with (fail)
  refine (ispok 3 n _).mono ?_
  rintro e w1 ⟨rfl, b1⟩
  rw [h]
  have c0 : w1.cell? ⟨w.heap.size, 0, none⟩ = some (.int .i64 3) := by rw [b1.cell (by simp)]; simp
  have c1 : w1.cell? ⟨w.heap.size, 1, none⟩ = some (.int .i64 n) := by rw [b1.cell (by simp)]; simp
  have B1 := Lib.hid ((Go.Joins.below_alloc1 w (.cells #[.int .i64 3, .int .i64 n] 25)).trans (b1.mono (by simp)))
  clear b1 h
  go_wp2_with (fail)
  refine (Ito.idec_any n _ u0 u1 (ht.below B1.out)).mono ?_
  rintro e w3 ⟨rfl, b3⟩
  go_wp2
  go_ret
  exact ⟨rfl, B1.out.trans (b3.mono B1.out.size)⟩
theorem itx (k n : Int) (w : World) (u0 : -9223372036854775808 ≤ n) (u1 : n ≤ 9223372036854775807) (ht : Ito.Tab w) :
    Calls Tryd.prog 6 #[.agg #[.int .i64 k, .int .i64 n]] w fun e w' => e = .returned (.string (txS k n)) ∧ Below w.heap.size w w' := by
  cases h : spOk k n
  · exact itxbad k n w h
  · rcases spOk_in h with ⟨rfl, _⟩ | ⟨rfl, _⟩ | ⟨rfl, _⟩
    · exact itx1 n w u0 u1 h ht
    · exact itx2 n w u0 u1 h ht
    · exact itx3 n w u0 u1 h ht

theorem stxbad (k n : Int) (w : World) (h : spOk k n = false) :
    Calls Tryd.prog 4 #[.agg #[.int .i64 k, .int .i64 n]] w fun e w' => e = .returned (.string (txS k n)) ∧ Below w.heap.size w w' := by
  go_enter Tryd.func4, Tryd.ntmps4
  go_wp2_with (fail)
  refine (sspok k n _).mono ?_
  rintro e w1 ⟨rfl, b1⟩
  rw [h]
  go_wp2
  go_ret
  exact ⟨ret_str (by simp [txS, h]), (Go.Joins.below_alloc1 ..).trans (b1.mono (by simp))⟩
theorem stx1 (n : Int) (w : World) (u0 : -9223372036854775808 ≤ n) (u1 : n ≤ 9223372036854775807) (h : spOk 1 n = true) :
    Calls Tryd.prog 4 #[.agg #[.int .i64 1, .int .i64 n]] w fun e w' => e = .returned (.string (txS 1 n)) ∧ Below w.heap.size w w' := by
  have hx : txS 1 n = ⟨#[102, 114, 101, 101]⟩ := by simp [txS, h]
  rw [hx]
  clear hx
  go_enter Tryd.func4, Tryd.ntmps4
  go_wp2_with (fail)
  refine (sspok 1 n _).mono ?_
  rintro e w1 ⟨rfl, b1⟩
  rw [h]
  have c0 : w1.cell? ⟨w.heap.size, 0, none⟩ = some (.int .i64 1) := by rw [b1.cell (by simp)]; simp
  have c1 : w1.cell? ⟨w.heap.size, 1, none⟩ = some (.int .i64 n) := by rw [b1.cell (by simp)]; simp
  have B1 := Lib.hid ((Go.Joins.below_alloc1 w (.cells #[.int .i64 1, .int .i64 n] 25)).trans (b1.mono (by simp)))
  clear b1 h
  go_wp2
  go_ret
  exact ⟨rfl, B1.out⟩
theorem stx2 (n : Int) (w : World) (u0 : -9223372036854775808 ≤ n) (u1 : n ≤ 9223372036854775807) (h : spOk 2 n = true) :
    Calls Tryd.prog 4 #[.agg #[.int .i64 2, .int .i64 n]] w fun e w' => e = .returned (.string (txS 2 n)) ∧ Below w.heap.size w w' := by
  have hx : txS 2 n = ⟨([109, 111, 115, 116, 32] ++ Lib.itoa n).toArray⟩ := by simp [txS, h]
  rw [hx]
  clear hx
  have hcat := cat_most n u0 u1
  go_enter Tryd.func4, Tryd.ntmps4
  go_wp2_with (fail)
  refine (sspok 2 n _).mono ?_
  rintro e w1 ⟨rfl, b1⟩
  rw [h]
  have c0 : w1.cell? ⟨w.heap.size, 0, none⟩ = some (.int .i64 2) := by rw [b1.cell (by simp)]; simp
  have c1 : w1.cell? ⟨w.heap.size, 1, none⟩ = some (.int .i64 n) := by rw [b1.cell (by simp)]; simp
  have B1 := Lib.hid ((Go.Joins.below_alloc1 w (.cells #[.int .i64 2, .int .i64 n] 25)).trans (b1.mono (by simp)))
  clear b1 h
  go_wp2_with (fail)
  refine (dec_any n _ u0 u1).mono ?_
  rintro e w3 ⟨rfl, b3⟩
  go_wp2
  go_ret
  exact ⟨rfl, B1.out.trans (b3.mono B1.out.size)⟩
theorem stx3 (n : Int) (w : World) (u0 : -9223372036854775808 ≤ n) (u1 : n ≤ 9223372036854775807) (h : spOk 3 n = true) :
    Calls Tryd.prog 4 #[.agg #[.int .i64 3, .int .i64 n]] w fun e w' => e = .returned (.string (txS 3 n)) ∧ Below w.heap.size w w' := by
  have hx : txS 3 n = ⟨([101, 120, 97, 99, 116, 32] ++ Lib.itoa n).toArray⟩ := by simp [txS, h]
  rw [hx]
  clear hx
  have hcat := cat_exact n u0 u1
  go_enter Tryd.func4, Tryd.ntmps4
  go_wp2_with (fail)
  refine (sspok 3 n _).mono ?_
  rintro e w1 ⟨rfl, b1⟩
  rw [h]
  have c0 : w1.cell? ⟨w.heap.size, 0, none⟩ = some (.int .i64 3) := by rw [b1.cell (by simp)]; simp
  have c1 : w1.cell? ⟨w.heap.size, 1, none⟩ = some (.int .i64 n) := by rw [b1.cell (by simp)]; simp
  have B1 := Lib.hid ((Go.Joins.below_alloc1 w (.cells #[.int .i64 3, .int .i64 n] 25)).trans (b1.mono (by simp)))
  clear b1 h
  go_wp2_with (fail)
  refine (dec_any n _ u0 u1).mono ?_
  rintro e w3 ⟨rfl, b3⟩
  go_wp2
  go_ret
  exact ⟨rfl, B1.out.trans (b3.mono B1.out.size)⟩
theorem stx (k n : Int) (w : World) (u0 : -9223372036854775808 ≤ n) (u1 : n ≤ 9223372036854775807) :
    Calls Tryd.prog 4 #[.agg #[.int .i64 k, .int .i64 n]] w fun e w' => e = .returned (.string (txS k n)) ∧ Below w.heap.size w w' := by
  cases h : spOk k n
  · exact stxbad k n w h
  · rcases spOk_in h with ⟨rfl, _⟩ | ⟨rfl, _⟩ | ⟨rfl, _⟩
    · exact stx1 n w u0 u1 h
    · exact stx2 n w u0 u1 h
    · exact stx3 n w u0 u1 h
end Go.Proofs.YtbgiggngolpljaaDoor

/-
  The text of a value of kind k and number n, as bytes; the contracts of impl.ValueText and spec.ValueText. Conditions: the number is an int; for the program's, that the library's table of powers of ten holds its numbers.
-/
import Derived.Test.YthbhdokljlklhaaDoorValI
import Derived.Test.YthbhdokljlklhaaDoorValS
import Derived.Test.YthbhdokljlklhaaDoorIto
import Derived.Test.YthbhdokljlklhaaDoorDec
import Derived.Lib.ItoaLen
namespace Go.Proofs.YthbhdokljlklhaaDoor
open Go.ChangeShapes Go.WideShapes Go.ChangeAt Go.RowKit
set_option linter.unusedVariables false

def txV (k n : Int) : ByteArray :=
  if okV k n = false then ⟨#[63]⟩ else if k = 1 then ⟨(Lib.itoa n).toArray⟩ else if k = 2 then ⟨(Lib.itoa n ++ [37]).toArray⟩ else if k = 3 then ⟨#[97, 117, 116, 111]⟩ else ⟨#[110, 111, 110, 101]⟩
theorem cat_pc (n : Int) (h0 : -9223372036854775808 ≤ n) (h1 : n ≤ 9223372036854775807) (wr : World) :
    (Op.stringOp .add ⟨(Lib.itoa n).toArray⟩ ⟨#[37]⟩).run Tryd.prog wr = .ok (.string ⟨(Lib.itoa n ++ [37]).toArray⟩) wr := by
  have hl := Lib.itoa_length_le n h0 h1
  rw [show (#[37] : Array UInt8) = [37].toArray from rfl, run_string_add_lists _ _ _ (by omega) (by simp)]
theorem okV_kind {k n : Int} (h : okV k n = true) : k = 0 ∨ k = 1 ∨ k = 2 ∨ k = 3 := by
  unfold okV at h; split at h
  · omega
  · split at h
    · omega
    · split at h
      · omega
      · cases h

theorem itxbad (k n : Int) (w : World) (h : okV k n = false) :
    Calls Tryd.prog 18 #[.agg #[.int .i64 k, .int .i64 n]] w fun e w' => e = .returned (.string (txV k n)) ∧ Below w.heap.size w w' := by
  go_enter Tryd.func18, Tryd.ntmps18
  go_wp2_with (fail)
  refine (ivok k n _).mono ?_
  rintro e w1 ⟨rfl, b1⟩
  rw [h]
  go_wp2
  go_ret
  exact ⟨ret_str (by simp [txV, h]), (Go.Joins.below_alloc1 ..).trans (b1.mono (by simp))⟩

theorem itx0 (n : Int) (w : World) (u0 : -9223372036854775808 ≤ n) (u1 : n ≤ 9223372036854775807) (h : okV 0 n = true) :
    Calls Tryd.prog 18 #[.agg #[.int .i64 0, .int .i64 n]] w fun e w' => e = .returned (.string (txV 0 n)) ∧ Below w.heap.size w w' := by
  have t1 := as01 (.agg #[])
  have t2 := as02 (.agg #[])
  have t3 := as03 (.agg #[])
  have hx : txV 0 n = ⟨#[110, 111, 110, 101]⟩ := by simp [txV, h]
  rw [hx]
  clear hx
  go_enter Tryd.func18, Tryd.ntmps18
  go_wp2_with (fail)
  refine (ivok 0 n _).mono ?_
  rintro e w1 ⟨rfl, b1⟩
  rw [h]
  have c0 : w1.cell? ⟨w.heap.size, 0, none⟩ = some (.int .i64 0) := by rw [b1.cell (by simp)]; simp
  have c1 : w1.cell? ⟨w.heap.size, 1, none⟩ = some (.int .i64 n) := by rw [b1.cell (by simp)]; simp
  have B1 := Lib.hid ((Go.Joins.below_alloc1 w (.cells #[.int .i64 0, .int .i64 n] 25)).trans (b1.mono (by simp)))
  clear b1 h
  go_wp2_with (fail)
  refine (ity0 n _).mono ?_
  rintro e w2 ⟨rfl, rfl⟩
  have B2 := Lib.hid (B1.out.trans ((Go.Joins.below_alloc1 w1 (.cells #[.int .i64 0, .int .i64 n] 25)).mono B1.out.size))
  clear B1 c0 c1
  go_wp2
  go_ret
  exact ⟨rfl, B2.out⟩

theorem itx1 (n : Int) (w : World) (u0 : -9223372036854775808 ≤ n) (u1 : n ≤ 9223372036854775807) (h : okV 1 n = true) (ht : Ito.Tab w) :
    Calls Tryd.prog 18 #[.agg #[.int .i64 1, .int .i64 n]] w fun e w' => e = .returned (.string (txV 1 n)) ∧ Below w.heap.size w w' := by
  have t1 := as11 (.int .i64 n)
  have t2 := as12 (.int .i64 n)
  have t3 := as13 (.int .i64 n)
  have hx : txV 1 n = ⟨(Lib.itoa n).toArray⟩ := by simp [txV, h]
  rw [hx]
  clear hx
  go_enter Tryd.func18, Tryd.ntmps18
  go_wp2_with (fail)
  refine (ivok 1 n _).mono ?_
  rintro e w1 ⟨rfl, b1⟩
  rw [h]
  have c0 : w1.cell? ⟨w.heap.size, 0, none⟩ = some (.int .i64 1) := by rw [b1.cell (by simp)]; simp
  have c1 : w1.cell? ⟨w.heap.size, 1, none⟩ = some (.int .i64 n) := by rw [b1.cell (by simp)]; simp
  have B1 := Lib.hid ((Go.Joins.below_alloc1 w (.cells #[.int .i64 1, .int .i64 n] 25)).trans (b1.mono (by simp)))
  clear b1 h
  go_wp2_with (fail)
  refine (ity1 n _).mono ?_
  rintro e w2 ⟨rfl, rfl⟩
  have B2 := Lib.hid (B1.out.trans ((Go.Joins.below_alloc1 w1 (.cells #[.int .i64 1, .int .i64 n] 25)).mono B1.out.size))
  clear B1 c0 c1
  go_wp2_with (fail)
  refine (Ito.idec_any n _ u0 u1 (ht.below B2.out)).mono ?_
  rintro e w3 ⟨rfl, b3⟩
  go_wp2
  go_ret
  exact ⟨rfl, B2.out.trans (b3.mono B2.out.size)⟩

theorem itx2 (n : Int) (w : World) (u0 : -9223372036854775808 ≤ n) (u1 : n ≤ 9223372036854775807) (h : okV 2 n = true) (ht : Ito.Tab w) :
    Calls Tryd.prog 18 #[.agg #[.int .i64 2, .int .i64 n]] w fun e w' => e = .returned (.string (txV 2 n)) ∧ Below w.heap.size w w' := by
  have t1 := as21 (.int .i64 n)
  have t2 := as22 (.int .i64 n)
  have t3 := as23 (.int .i64 n)
  have hcat := cat_pc n u0 u1
  have hx : txV 2 n = ⟨(Lib.itoa n ++ [37]).toArray⟩ := by simp [txV, h]
  rw [hx]
  clear hx
  go_enter Tryd.func18, Tryd.ntmps18
  go_wp2_with (fail)
  refine (ivok 2 n _).mono ?_
  rintro e w1 ⟨rfl, b1⟩
  rw [h]
  have c0 : w1.cell? ⟨w.heap.size, 0, none⟩ = some (.int .i64 2) := by rw [b1.cell (by simp)]; simp
  have c1 : w1.cell? ⟨w.heap.size, 1, none⟩ = some (.int .i64 n) := by rw [b1.cell (by simp)]; simp
  have B1 := Lib.hid ((Go.Joins.below_alloc1 w (.cells #[.int .i64 2, .int .i64 n] 25)).trans (b1.mono (by simp)))
  clear b1 h
  go_wp2_with (fail)
  refine (ity2 n _).mono ?_
  rintro e w2 ⟨rfl, rfl⟩
  have B2 := Lib.hid (B1.out.trans ((Go.Joins.below_alloc1 w1 (.cells #[.int .i64 2, .int .i64 n] 25)).mono B1.out.size))
  clear B1 c0 c1
  go_wp2_with (fail)
  refine (Ito.idec_any n _ u0 u1 (ht.below B2.out)).mono ?_
  rintro e w3 ⟨rfl, b3⟩
  go_wp2
  go_ret
  exact ⟨rfl, B2.out.trans (b3.mono B2.out.size)⟩

theorem itx3 (n : Int) (w : World) (u0 : -9223372036854775808 ≤ n) (u1 : n ≤ 9223372036854775807) (h : okV 3 n = true) :
    Calls Tryd.prog 18 #[.agg #[.int .i64 3, .int .i64 n]] w fun e w' => e = .returned (.string (txV 3 n)) ∧ Below w.heap.size w w' := by
  have t1 := as31 (.agg #[])
  have t2 := as32 (.agg #[])
  have t3 := as33 (.agg #[])
  have hx : txV 3 n = ⟨#[97, 117, 116, 111]⟩ := by simp [txV, h]
  rw [hx]
  clear hx
  go_enter Tryd.func18, Tryd.ntmps18
  go_wp2_with (fail)
  refine (ivok 3 n _).mono ?_
  rintro e w1 ⟨rfl, b1⟩
  rw [h]
  have c0 : w1.cell? ⟨w.heap.size, 0, none⟩ = some (.int .i64 3) := by rw [b1.cell (by simp)]; simp
  have c1 : w1.cell? ⟨w.heap.size, 1, none⟩ = some (.int .i64 n) := by rw [b1.cell (by simp)]; simp
  have B1 := Lib.hid ((Go.Joins.below_alloc1 w (.cells #[.int .i64 3, .int .i64 n] 25)).trans (b1.mono (by simp)))
  clear b1 h
  go_wp2_with (fail)
  refine (ity3 n _).mono ?_
  rintro e w2 ⟨rfl, rfl⟩
  have B2 := Lib.hid (B1.out.trans ((Go.Joins.below_alloc1 w1 (.cells #[.int .i64 3, .int .i64 n] 25)).mono B1.out.size))
  clear B1 c0 c1
  go_wp2
  go_ret
  exact ⟨rfl, B2.out.trans ((Go.Joins.below_alloc1 ..).mono B2.out.size)⟩

theorem itx (k n : Int) (w : World) (u0 : -9223372036854775808 ≤ n) (u1 : n ≤ 9223372036854775807) (ht : Ito.Tab w) :
    Calls Tryd.prog 18 #[.agg #[.int .i64 k, .int .i64 n]] w fun e w' => e = .returned (.string (txV k n)) ∧ Below w.heap.size w w' := by
  cases h : okV k n
  · exact itxbad k n w h
  · rcases okV_kind h with rfl | rfl | rfl | rfl
    · exact itx0 n w u0 u1 h
    · exact itx1 n w u0 u1 h ht
    · exact itx2 n w u0 u1 h ht
    · exact itx3 n w u0 u1 h

theorem stxbad (k n : Int) (w : World) (h : okV k n = false) :
    Calls Tryd.prog 19 #[.agg #[.int .i64 k, .int .i64 n]] w fun e w' => e = .returned (.string (txV k n)) ∧ Below w.heap.size w w' := by
  go_enter Tryd.func19, Tryd.ntmps19
  go_wp2_with (fail)
  refine (svok k n _).mono ?_
  rintro e w1 ⟨rfl, b1⟩
  rw [h]
  go_wp2
  go_ret
  exact ⟨ret_str (by simp [txV, h]), (Go.Joins.below_alloc1 ..).trans (b1.mono (by simp))⟩

theorem stx0 (n : Int) (w : World) (u0 : -9223372036854775808 ≤ n) (u1 : n ≤ 9223372036854775807) (h : okV 0 n = true) :
    Calls Tryd.prog 19 #[.agg #[.int .i64 0, .int .i64 n]] w fun e w' => e = .returned (.string (txV 0 n)) ∧ Below w.heap.size w w' := by
  have hx : txV 0 n = ⟨#[110, 111, 110, 101]⟩ := by simp [txV, h]
  rw [hx]
  clear hx
  go_enter Tryd.func19, Tryd.ntmps19
  go_wp2_with (fail)
  refine (svok 0 n _).mono ?_
  rintro e w1 ⟨rfl, b1⟩
  rw [h]
  have c0 : w1.cell? ⟨w.heap.size, 0, none⟩ = some (.int .i64 0) := by rw [b1.cell (by simp)]; simp
  have c1 : w1.cell? ⟨w.heap.size, 1, none⟩ = some (.int .i64 n) := by rw [b1.cell (by simp)]; simp
  have B1 := Lib.hid ((Go.Joins.below_alloc1 w (.cells #[.int .i64 0, .int .i64 n] 25)).trans (b1.mono (by simp)))
  clear b1 h
  go_wp2
  go_ret
  exact ⟨rfl, B1.out⟩

theorem stx1 (n : Int) (w : World) (u0 : -9223372036854775808 ≤ n) (u1 : n ≤ 9223372036854775807) (h : okV 1 n = true) :
    Calls Tryd.prog 19 #[.agg #[.int .i64 1, .int .i64 n]] w fun e w' => e = .returned (.string (txV 1 n)) ∧ Below w.heap.size w w' := by
  have hx : txV 1 n = ⟨(Lib.itoa n).toArray⟩ := by simp [txV, h]
  rw [hx]
  clear hx
  go_enter Tryd.func19, Tryd.ntmps19
  go_wp2_with (fail)
  refine (svok 1 n _).mono ?_
  rintro e w1 ⟨rfl, b1⟩
  rw [h]
  have c0 : w1.cell? ⟨w.heap.size, 0, none⟩ = some (.int .i64 1) := by rw [b1.cell (by simp)]; simp
  have c1 : w1.cell? ⟨w.heap.size, 1, none⟩ = some (.int .i64 n) := by rw [b1.cell (by simp)]; simp
  have B1 := Lib.hid ((Go.Joins.below_alloc1 w (.cells #[.int .i64 1, .int .i64 n] 25)).trans (b1.mono (by simp)))
  clear b1 h
  go_wp2_with (fail)
  refine (dec_any n _ u0 u1).mono ?_
  rintro e w3 ⟨rfl, b3⟩
  go_wp2
  go_ret
  exact ⟨rfl, B1.out.trans (b3.mono B1.out.size)⟩

theorem stx2 (n : Int) (w : World) (u0 : -9223372036854775808 ≤ n) (u1 : n ≤ 9223372036854775807) (h : okV 2 n = true) :
    Calls Tryd.prog 19 #[.agg #[.int .i64 2, .int .i64 n]] w fun e w' => e = .returned (.string (txV 2 n)) ∧ Below w.heap.size w w' := by
  have hcat := cat_pc n u0 u1
  have hx : txV 2 n = ⟨(Lib.itoa n ++ [37]).toArray⟩ := by simp [txV, h]
  rw [hx]
  clear hx
  go_enter Tryd.func19, Tryd.ntmps19
  go_wp2_with (fail)
  refine (svok 2 n _).mono ?_
  rintro e w1 ⟨rfl, b1⟩
  rw [h]
  have c0 : w1.cell? ⟨w.heap.size, 0, none⟩ = some (.int .i64 2) := by rw [b1.cell (by simp)]; simp
  have c1 : w1.cell? ⟨w.heap.size, 1, none⟩ = some (.int .i64 n) := by rw [b1.cell (by simp)]; simp
  have B1 := Lib.hid ((Go.Joins.below_alloc1 w (.cells #[.int .i64 2, .int .i64 n] 25)).trans (b1.mono (by simp)))
  clear b1 h
  go_wp2_with (fail)
  refine (dec_any n _ u0 u1).mono ?_
  rintro e w3 ⟨rfl, b3⟩
  go_wp2
  go_ret
  exact ⟨rfl, B1.out.trans (b3.mono B1.out.size)⟩

theorem stx3 (n : Int) (w : World) (u0 : -9223372036854775808 ≤ n) (u1 : n ≤ 9223372036854775807) (h : okV 3 n = true) :
    Calls Tryd.prog 19 #[.agg #[.int .i64 3, .int .i64 n]] w fun e w' => e = .returned (.string (txV 3 n)) ∧ Below w.heap.size w w' := by
  have hx : txV 3 n = ⟨#[97, 117, 116, 111]⟩ := by simp [txV, h]
  rw [hx]
  clear hx
  go_enter Tryd.func19, Tryd.ntmps19
  go_wp2_with (fail)
  refine (svok 3 n _).mono ?_
  rintro e w1 ⟨rfl, b1⟩
  rw [h]
  have c0 : w1.cell? ⟨w.heap.size, 0, none⟩ = some (.int .i64 3) := by rw [b1.cell (by simp)]; simp
  have c1 : w1.cell? ⟨w.heap.size, 1, none⟩ = some (.int .i64 n) := by rw [b1.cell (by simp)]; simp
  have B1 := Lib.hid ((Go.Joins.below_alloc1 w (.cells #[.int .i64 3, .int .i64 n] 25)).trans (b1.mono (by simp)))
  clear b1 h
  go_wp2
  go_ret
  exact ⟨rfl, B1.out⟩

theorem stx (k n : Int) (w : World) (u0 : -9223372036854775808 ≤ n) (u1 : n ≤ 9223372036854775807) :
    Calls Tryd.prog 19 #[.agg #[.int .i64 k, .int .i64 n]] w fun e w' => e = .returned (.string (txV k n)) ∧ Below w.heap.size w w' := by
  cases h : okV k n
  · exact stxbad k n w h
  · rcases okV_kind h with rfl | rfl | rfl | rfl
    · exact stx0 n w u0 u1 h
    · exact stx1 n w u0 u1 h
    · exact stx2 n w u0 u1 h
    · exact stx3 n w u0 u1 h
end Go.Proofs.YthbhdokljlklhaaDoor

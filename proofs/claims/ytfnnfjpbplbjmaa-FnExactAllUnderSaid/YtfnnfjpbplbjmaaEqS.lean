/-
  laws.eqSides and laws.eqStyle answer true of equal arguments. Conditions: the two arguments are the same.
-/
import Derived.Test.YtfnnfjpbplbjmaaStyW
import Derived.Test.YtfnnfjpbplbjmaaEqE
namespace Go.Proofs.Ytfnnfjpbplbjmaa
open Go.ChangeShapes Go.WideShapes Go.ChangeAt Go.RowKit
set_option linter.unusedSimpArgs false

set_option maxRecDepth 100000 in
set_option maxHeartbeats 1000000 in
theorem eqSid (a0 a1 a2 a3 a4 a5 a6 a7 a8 a9 a10 a11 : Int) (w : World) :
    Calls Try.prog 169 #[.agg #[.int .i64 a0, .int .i64 a1, .int .i64 a2, .int .i64 a3, .int .i64 a4, .int .i64 a5, .int .i64 a6, .int .i64 a7, .int .i64 a8, .int .i64 a9, .int .i64 a10, .int .i64 a11], .agg #[.int .i64 a0, .int .i64 a1, .int .i64 a2, .int .i64 a3, .int .i64 a4, .int .i64 a5, .int .i64 a6, .int .i64 a7, .int .i64 a8, .int .i64 a9, .int .i64 a10, .int .i64 a11]] w fun e w' => e = .returned (.bool true) ∧ Below w.heap.size w w' := by
  have hA := hp_on (hp_new w (.cells #[.int .i64 a0, .int .i64 a1, .int .i64 a2, .int .i64 a3, .int .i64 a4, .int .i64 a5, .int .i64 a6, .int .i64 a7, .int .i64 a8, .int .i64 a9, .int .i64 a10, .int .i64 a11] 37)) (.cells #[.int .i64 a0, .int .i64 a1, .int .i64 a2, .int .i64 a3, .int .i64 a4, .int .i64 a5, .int .i64 a6, .int .i64 a7, .int .i64 a8, .int .i64 a9, .int .i64 a10, .int .i64 a11] 37)
  have hB := hp_new (w.alloc (.cells #[.int .i64 a0, .int .i64 a1, .int .i64 a2, .int .i64 a3, .int .i64 a4, .int .i64 a5, .int .i64 a6, .int .i64 a7, .int .i64 a8, .int .i64 a9, .int .i64 a10, .int .i64 a11] 37)) (.cells #[.int .i64 a0, .int .i64 a1, .int .i64 a2, .int .i64 a3, .int .i64 a4, .int .i64 a5, .int .i64 a6, .int .i64 a7, .int .i64 a8, .int .i64 a9, .int .i64 a10, .int .i64 a11] 37)
  have bb := Go.Joins.below_alloc2 w (.cells #[.int .i64 a0, .int .i64 a1, .int .i64 a2, .int .i64 a3, .int .i64 a4, .int .i64 a5, .int .i64 a6, .int .i64 a7, .int .i64 a8, .int .i64 a9, .int .i64 a10, .int .i64 a11] 37) (.cells #[.int .i64 a0, .int .i64 a1, .int .i64 a2, .int .i64 a3, .int .i64 a4, .int .i64 a5, .int .i64 a6, .int .i64 a7, .int .i64 a8, .int .i64 a9, .int .i64 a10, .int .i64 a11] 37)
  simp only [World.size_alloc] at hA hB
  obtain ⟨u, eu⟩ : ∃ u, u = (w.alloc (.cells #[.int .i64 a0, .int .i64 a1, .int .i64 a2, .int .i64 a3, .int .i64 a4, .int .i64 a5, .int .i64 a6, .int .i64 a7, .int .i64 a8, .int .i64 a9, .int .i64 a10, .int .i64 a11] 37)).alloc (.cells #[.int .i64 a0, .int .i64 a1, .int .i64 a2, .int .i64 a3, .int .i64 a4, .int .i64 a5, .int .i64 a6, .int .i64 a7, .int .i64 a8, .int .i64 a9, .int .i64 a10, .int .i64 a11] 37) := ⟨_, rfl⟩
  rw [← eu] at hA hB bb
  have EU := Lib.hid eu
  clear eu
  go_enter Try.func169, Try.ntmps169
  have c0 := Go.Joins.cell_of_block hA 0
  have d0 := Go.Joins.cell_of_block hB 0
  have c1 := Go.Joins.cell_of_block hA 1
  have d1 := Go.Joins.cell_of_block hB 1
  simp at c0 d0 c1 d1
  go_wp2_with (rw [← EU.out])
  refine (eqV a0 a1 a0 a1 _).mono ?_
  rintro e w0 ⟨rfl, b0⟩
  simp only [beq_self_eq_true, Bool.and_self]
  clear c0 d0 c1 d1
  replace hA := hp_below hA b0
  replace hB := hp_below hB b0
  replace bb := bb.trans (b0.mono bb.size)
  clear b0
  have c2 := Go.Joins.cell_of_block hA 2
  have d2 := Go.Joins.cell_of_block hB 2
  have c3 := Go.Joins.cell_of_block hA 3
  have d3 := Go.Joins.cell_of_block hB 3
  simp at c2 d2 c3 d3
  (try dsimp only)
  go_wp2_with (fail)
  refine (eqV a2 a3 a2 a3 _).mono ?_
  rintro e w1 ⟨rfl, b1⟩
  simp only [beq_self_eq_true, Bool.and_self]
  clear c2 d2 c3 d3
  replace hA := hp_below hA b1
  replace hB := hp_below hB b1
  replace bb := bb.trans (b1.mono bb.size)
  clear b1
  have c4 := Go.Joins.cell_of_block hA 4
  have d4 := Go.Joins.cell_of_block hB 4
  have c5 := Go.Joins.cell_of_block hA 5
  have d5 := Go.Joins.cell_of_block hB 5
  simp at c4 d4 c5 d5
  (try dsimp only)
  go_wp2_with (fail)
  refine (eqV a4 a5 a4 a5 _).mono ?_
  rintro e w2 ⟨rfl, b2⟩
  simp only [beq_self_eq_true, Bool.and_self]
  clear c4 d4 c5 d5
  replace hA := hp_below hA b2
  replace hB := hp_below hB b2
  replace bb := bb.trans (b2.mono bb.size)
  clear b2
  have c6 := Go.Joins.cell_of_block hA 6
  have d6 := Go.Joins.cell_of_block hB 6
  have c7 := Go.Joins.cell_of_block hA 7
  have d7 := Go.Joins.cell_of_block hB 7
  simp at c6 d6 c7 d7
  (try dsimp only)
  go_wp2_with (fail)
  refine (eqV a6 a7 a6 a7 _).mono ?_
  rintro e w3 ⟨rfl, b3⟩
  simp only [beq_self_eq_true, Bool.and_self]
  clear c6 d6 c7 d7
  replace hA := hp_below hA b3
  replace hB := hp_below hB b3
  replace bb := bb.trans (b3.mono bb.size)
  clear b3
  have c8 := Go.Joins.cell_of_block hA 8
  have d8 := Go.Joins.cell_of_block hB 8
  have c9 := Go.Joins.cell_of_block hA 9
  have d9 := Go.Joins.cell_of_block hB 9
  simp at c8 d8 c9 d9
  (try dsimp only)
  go_wp2_with (fail)
  refine (eqV a8 a9 a8 a9 _).mono ?_
  rintro e w4 ⟨rfl, b4⟩
  simp only [beq_self_eq_true, Bool.and_self]
  clear c8 d8 c9 d9
  replace hA := hp_below hA b4
  replace hB := hp_below hB b4
  replace bb := bb.trans (b4.mono bb.size)
  clear b4
  have c10 := Go.Joins.cell_of_block hA 10
  have d10 := Go.Joins.cell_of_block hB 10
  have c11 := Go.Joins.cell_of_block hA 11
  have d11 := Go.Joins.cell_of_block hB 11
  simp at c10 d10 c11 d11
  (try dsimp only)
  go_wp2_with (fail)
  refine (eqV a10 a11 a10 a11 _).mono ?_
  rintro e w5 ⟨rfl, b5⟩
  simp only [beq_self_eq_true, Bool.and_self]
  clear c10 d10 c11 d11
  replace hA := hp_below hA b5
  replace hB := hp_below hB b5
  replace bb := bb.trans (b5.mono bb.size)
  clear b5
  (try dsimp only)
  go_wp2_with (fail)
  go_ret
  exact ⟨rfl, bb⟩
set_option maxRecDepth 100000 in
set_option maxHeartbeats 1000000 in
theorem eqSty (f : Nat → Int) (w : World) :
    Calls Try.prog 156 #[.agg (sCells f), .agg (sCells f)] w fun e w' => e = .returned (.bool true) ∧ Below w.heap.size w w' := by
  have hA := hp_on (hp_new w (.cells (sCells f) 41)) (.cells (sCells f) 41)
  have hB := hp_new (w.alloc (.cells (sCells f) 41)) (.cells (sCells f) 41)
  have bb := Go.Joins.below_alloc2 w (.cells (sCells f) 41) (.cells (sCells f) 41)
  simp only [World.size_alloc] at hA hB
  obtain ⟨u, eu⟩ : ∃ u, u = (w.alloc (.cells (sCells f) 41)).alloc (.cells (sCells f) 41) := ⟨_, rfl⟩
  rw [← eu] at hA hB bb
  have EU := Lib.hid eu
  clear eu
  go_enter Try.func156, Try.ntmps156
  have c0 := sty_int hA 0 (by decide)
  have d0 := sty_int hB 0 (by decide)
  have c1 := sty_int hA 1 (by decide)
  have d1 := sty_int hB 1 (by decide)
  have c2 := sty_int hA 2 (by decide)
  have d2 := sty_int hB 2 (by decide)
  have c3 := sty_int hA 3 (by decide)
  have d3 := sty_int hB 3 (by decide)
  have c4 := sty_int hA 4 (by decide)
  have d4 := sty_int hB 4 (by decide)
  have c5 := sty_int hA 5 (by decide)
  have d5 := sty_int hB 5 (by decide)
  have c6 := sty_bool hA 6 (by decide)
  have d6 := sty_bool hB 6 (by decide)
  have c7 := sty_bool hA 7 (by decide)
  have d7 := sty_bool hB 7 (by decide)
  have c8 := sty_int hA 8 (by decide)
  have d8 := sty_int hB 8 (by decide)
  have c9 := sty_int hA 9 (by decide)
  have d9 := sty_int hB 9 (by decide)
  have c10 := sty_int hA 10 (by decide)
  have d10 := sty_int hB 10 (by decide)
  have c11 := sty_int hA 11 (by decide)
  have d11 := sty_int hB 11 (by decide)
  have c12 := sty_int hA 12 (by decide)
  have d12 := sty_int hB 12 (by decide)
  go_wp2_with (rw [← EU.out])
  refine (eqV (f 11) (f 12) (f 11) (f 12) _).mono ?_
  rintro e w0 ⟨rfl, b0⟩
  simp only [beq_self_eq_true, Bool.and_self]
  clear c0 d0 c1 d1 c2 d2 c3 d3 c4 d4 c5 d5 c6 d6 c7 d7 c8 d8 c9 d9 c10 d10 c11 d11 c12 d12
  replace hA := hp_below hA b0
  replace hB := hp_below hB b0
  replace bb := bb.trans (b0.mono bb.size)
  clear b0
  have c13 := sty_int hA 13 (by decide)
  have d13 := sty_int hB 13 (by decide)
  have c14 := sty_int hA 14 (by decide)
  have d14 := sty_int hB 14 (by decide)
  (try dsimp only)
  go_wp2_with (fail)
  refine (eqV (f 13) (f 14) (f 13) (f 14) _).mono ?_
  rintro e w1 ⟨rfl, b1⟩
  simp only [beq_self_eq_true, Bool.and_self]
  clear c13 d13 c14 d14
  replace hA := hp_below hA b1
  replace hB := hp_below hB b1
  replace bb := bb.trans (b1.mono bb.size)
  clear b1
  have c15 := sty_int hA 15 (by decide)
  have d15 := sty_int hB 15 (by decide)
  have c16 := sty_int hA 16 (by decide)
  have d16 := sty_int hB 16 (by decide)
  (try dsimp only)
  go_wp2_with (fail)
  refine (eqV (f 15) (f 16) (f 15) (f 16) _).mono ?_
  rintro e w2 ⟨rfl, b2⟩
  simp only [beq_self_eq_true, Bool.and_self]
  clear c15 d15 c16 d16
  replace hA := hp_below hA b2
  replace hB := hp_below hB b2
  replace bb := bb.trans (b2.mono bb.size)
  clear b2
  have c17 := sty_int hA 17 (by decide)
  have d17 := sty_int hB 17 (by decide)
  have c18 := sty_int hA 18 (by decide)
  have d18 := sty_int hB 18 (by decide)
  (try dsimp only)
  go_wp2_with (fail)
  refine (eqV (f 17) (f 18) (f 17) (f 18) _).mono ?_
  rintro e w3 ⟨rfl, b3⟩
  simp only [beq_self_eq_true, Bool.and_self]
  clear c17 d17 c18 d18
  replace hA := hp_below hA b3
  replace hB := hp_below hB b3
  replace bb := bb.trans (b3.mono bb.size)
  clear b3
  have c19 := sty_int hA 19 (by decide)
  have d19 := sty_int hB 19 (by decide)
  have c20 := sty_int hA 20 (by decide)
  have d20 := sty_int hB 20 (by decide)
  (try dsimp only)
  go_wp2_with (fail)
  refine (eqV (f 19) (f 20) (f 19) (f 20) _).mono ?_
  rintro e w4 ⟨rfl, b4⟩
  simp only [beq_self_eq_true, Bool.and_self]
  clear c19 d19 c20 d20
  replace hA := hp_below hA b4
  replace hB := hp_below hB b4
  replace bb := bb.trans (b4.mono bb.size)
  clear b4
  have c21 := sty_int hA 21 (by decide)
  have d21 := sty_int hB 21 (by decide)
  have c22 := sty_int hA 22 (by decide)
  have d22 := sty_int hB 22 (by decide)
  (try dsimp only)
  go_wp2_with (fail)
  refine (eqV (f 21) (f 22) (f 21) (f 22) _).mono ?_
  rintro e w5 ⟨rfl, b5⟩
  simp only [beq_self_eq_true, Bool.and_self]
  clear c21 d21 c22 d22
  replace hA := hp_below hA b5
  replace hB := hp_below hB b5
  replace bb := bb.trans (b5.mono bb.size)
  clear b5
  have c23 := sty_int hA 23 (by decide)
  have d23 := sty_int hB 23 (by decide)
  have c24 := sty_int hA 24 (by decide)
  have d24 := sty_int hB 24 (by decide)
  (try dsimp only)
  go_wp2_with (fail)
  refine (eqV (f 23) (f 24) (f 23) (f 24) _).mono ?_
  rintro e w6 ⟨rfl, b6⟩
  simp only [beq_self_eq_true, Bool.and_self]
  clear c23 d23 c24 d24
  replace hA := hp_below hA b6
  replace hB := hp_below hB b6
  replace bb := bb.trans (b6.mono bb.size)
  clear b6
  have c25 := sty_int hA 25 (by decide)
  have d25 := sty_int hB 25 (by decide)
  have c26 := sty_int hA 26 (by decide)
  have d26 := sty_int hB 26 (by decide)
  have c27 := sty_int hA 27 (by decide)
  have d27 := sty_int hB 27 (by decide)
  have c28 := sty_int hA 28 (by decide)
  have d28 := sty_int hB 28 (by decide)
  have c29 := sty_int hA 29 (by decide)
  have d29 := sty_int hB 29 (by decide)
  have c30 := sty_int hA 30 (by decide)
  have d30 := sty_int hB 30 (by decide)
  have c31 := sty_int hA 31 (by decide)
  have d31 := sty_int hB 31 (by decide)
  have c32 := sty_int hA 32 (by decide)
  have d32 := sty_int hB 32 (by decide)
  have c33 := sty_int hA 33 (by decide)
  have d33 := sty_int hB 33 (by decide)
  have c34 := sty_int hA 34 (by decide)
  have d34 := sty_int hB 34 (by decide)
  have c35 := sty_int hA 35 (by decide)
  have d35 := sty_int hB 35 (by decide)
  have c36 := sty_int hA 36 (by decide)
  have d36 := sty_int hB 36 (by decide)
  have c37 := sty_int hA 37 (by decide)
  have d37 := sty_int hB 37 (by decide)
  (try dsimp only)
  go_wp2_with (fail)
  refine (eqSid (f 26) (f 27) (f 28) (f 29) (f 30) (f 31) (f 32) (f 33) (f 34) (f 35) (f 36) (f 37) _).mono ?_
  rintro e w7 ⟨rfl, b7⟩
  simp only [beq_self_eq_true, Bool.and_self]
  clear c25 d25 c26 d26 c27 d27 c28 d28 c29 d29 c30 d30 c31 d31 c32 d32 c33 d33 c34 d34 c35 d35 c36 d36 c37 d37
  replace hA := hp_below hA b7
  replace hB := hp_below hB b7
  replace bb := bb.trans (b7.mono bb.size)
  clear b7
  have c38 := sty_int hA 38 (by decide)
  have d38 := sty_int hB 38 (by decide)
  have c39 := sty_int hA 39 (by decide)
  have d39 := sty_int hB 39 (by decide)
  have c40 := sty_int hA 40 (by decide)
  have d40 := sty_int hB 40 (by decide)
  have c41 := sty_int hA 41 (by decide)
  have d41 := sty_int hB 41 (by decide)
  have c42 := sty_int hA 42 (by decide)
  have d42 := sty_int hB 42 (by decide)
  have c43 := sty_int hA 43 (by decide)
  have d43 := sty_int hB 43 (by decide)
  have c44 := sty_int hA 44 (by decide)
  have d44 := sty_int hB 44 (by decide)
  have c45 := sty_int hA 45 (by decide)
  have d45 := sty_int hB 45 (by decide)
  have c46 := sty_int hA 46 (by decide)
  have d46 := sty_int hB 46 (by decide)
  have c47 := sty_int hA 47 (by decide)
  have d47 := sty_int hB 47 (by decide)
  have c48 := sty_int hA 48 (by decide)
  have d48 := sty_int hB 48 (by decide)
  have c49 := sty_int hA 49 (by decide)
  have d49 := sty_int hB 49 (by decide)
  (try dsimp only)
  go_wp2_with (fail)
  refine (eqSid (f 38) (f 39) (f 40) (f 41) (f 42) (f 43) (f 44) (f 45) (f 46) (f 47) (f 48) (f 49) _).mono ?_
  rintro e w8 ⟨rfl, b8⟩
  simp only [beq_self_eq_true, Bool.and_self]
  clear c38 d38 c39 d39 c40 d40 c41 d41 c42 d42 c43 d43 c44 d44 c45 d45 c46 d46 c47 d47 c48 d48 c49 d49
  replace hA := hp_below hA b8
  replace hB := hp_below hB b8
  replace bb := bb.trans (b8.mono bb.size)
  clear b8
  have c50 := sty_int hA 50 (by decide)
  have d50 := sty_int hB 50 (by decide)
  have c51 := sty_int hA 51 (by decide)
  have d51 := sty_int hB 51 (by decide)
  have c52 := sty_int hA 52 (by decide)
  have d52 := sty_int hB 52 (by decide)
  have c53 := sty_int hA 53 (by decide)
  have d53 := sty_int hB 53 (by decide)
  (try dsimp only)
  go_wp2_with (fail)
  refine (eqE (f 50) (f 51) (f 52) (f 53) (f 50) (f 51) (f 52) (f 53) _).mono ?_
  rintro e w9 ⟨rfl, b9⟩
  simp only [beq_self_eq_true, Bool.and_self]
  clear c50 d50 c51 d51 c52 d52 c53 d53
  replace hA := hp_below hA b9
  replace hB := hp_below hB b9
  replace bb := bb.trans (b9.mono bb.size)
  clear b9
  have c54 := sty_int hA 54 (by decide)
  have d54 := sty_int hB 54 (by decide)
  have c55 := sty_int hA 55 (by decide)
  have d55 := sty_int hB 55 (by decide)
  have c56 := sty_int hA 56 (by decide)
  have d56 := sty_int hB 56 (by decide)
  have c57 := sty_int hA 57 (by decide)
  have d57 := sty_int hB 57 (by decide)
  (try dsimp only)
  go_wp2_with (fail)
  refine (eqE (f 54) (f 55) (f 56) (f 57) (f 54) (f 55) (f 56) (f 57) _).mono ?_
  rintro e w10 ⟨rfl, b10⟩
  simp only [beq_self_eq_true, Bool.and_self]
  clear c54 d54 c55 d55 c56 d56 c57 d57
  replace hA := hp_below hA b10
  replace hB := hp_below hB b10
  replace bb := bb.trans (b10.mono bb.size)
  clear b10
  have c58 := sty_int hA 58 (by decide)
  have d58 := sty_int hB 58 (by decide)
  have c59 := sty_int hA 59 (by decide)
  have d59 := sty_int hB 59 (by decide)
  (try dsimp only)
  go_wp2_with (fail)
  go_ret
  exact ⟨rfl, bb⟩
end Go.Proofs.Ytfnnfjpbplbjmaa

import Derived.Test.YtckpjldenkjddaaZtAK
import Derived.Test.YtckpjldenkjddaaZtAV
section
namespace Go.Proofs.Ytckpjldenkjddaa
open Go.ChangeShapes Go.WideShapes Go.ChangeAt Go.RowKit
set_option linter.unusedSimpArgs false
set_option linter.unusedVariables false

theorem sin_b (x a b : Int) (w : World) :
    Calls Try.prog 71 #[.int .i64 x, .int .i64 a, .int .i64 b] w fun e w' => e = .returned (.bool (inB x a b)) ∧ w' = w := sin_any x a b w
theorem ssiz (k n : Int) (w : World) :
    Calls Try.prog 118 #[.agg #[.int .i64 k, .int .i64 n]] w fun e w' => e = .returned (.bool (sSzV k n)) ∧ Below w.heap.size w w' := by
  have hv := svok k n
  have h0 := hp_new w (.cells #[.int .i64 k, .int .i64 n] 35)
  have bb : Below w.heap.size w (w.alloc (.cells #[.int .i64 k, .int .i64 n] 35)) := Go.Joins.below_alloc1 ..
  unfold sSzV
  cases hk : okV k n <;> rw [hk] at hv
  · go_enter Try.func118, Try.ntmps118
    go_wp2_with (fail)
    refine (hv _).mono ?_
    rintro e w1 ⟨rfl, b1⟩
    replace bb := bb.trans (b1.mono bb.size)
    go_wp2
    go_ret
    exact ⟨ret_bool' (by simp), bb⟩
  · go_enter Try.func118, Try.ntmps118
    go_wp2_with (fail)
    refine (hv _).mono ?_
    rintro e w1 ⟨rfl, b1⟩
    replace bb := bb.trans (b1.mono bb.size)
    replace h0 := hp_below h0 b1
    have c1 := Go.Joins.cell_of_block h0 1
    simp at c1
    go_wp2
    go_ret
    exact ⟨ret_bool' (by simp), bb⟩

theorem ssc1 (f : Nat → Int) (w : World) :
    Calls Try.prog 119 #[.agg #[.int .i64 (f 26), .int .i64 (f 27), .int .i64 (f 28), .int .i64 (f 29), .int .i64 (f 30), .int .i64 (f 31), .int .i64 (f 32), .int .i64 (f 33), .int .i64 (f 34), .int .i64 (f 35), .int .i64 (f 36), .int .i64 (f 37)]] w fun e w' => e = .returned (.bool (sd1 f)) ∧ Below w.heap.size w w' := ssok (f 26) (f 27) (f 28) (f 29) (f 30) (f 31) (f 32) (f 33) (f 34) (f 35) (f 36) (f 37) w
theorem ssc2 (f : Nat → Int) (w : World) :
    Calls Try.prog 119 #[.agg #[.int .i64 (f 38), .int .i64 (f 39), .int .i64 (f 40), .int .i64 (f 41), .int .i64 (f 42), .int .i64 (f 43), .int .i64 (f 44), .int .i64 (f 45), .int .i64 (f 46), .int .i64 (f 47), .int .i64 (f 48), .int .i64 (f 49)]] w fun e w' => e = .returned (.bool (sd2 f)) ∧ Below w.heap.size w w' := ssok (f 38) (f 39) (f 40) (f 41) (f 42) (f 43) (f 44) (f 45) (f 46) (f 47) (f 48) (f 49) w
theorem sec1 (f : Nat → Int) (w : World) :
    Calls Try.prog 120 #[.agg #[.int .i64 (f 50), .int .i64 (f 51), .int .i64 (f 52), .int .i64 (f 53)]] w fun e w' => e = .returned (.bool (ed1 f)) ∧ Below w.heap.size w w' := sedgesok (f 50) (f 51) (f 52) (f 53) w
theorem sec2 (f : Nat → Int) (w : World) :
    Calls Try.prog 120 #[.agg #[.int .i64 (f 54), .int .i64 (f 55), .int .i64 (f 56), .int .i64 (f 57)]] w fun e w' => e = .returned (.bool (ed2 f)) ∧ Below w.heap.size w w' := sedgesok (f 54) (f 55) (f 56) (f 57) w
set_option maxRecDepth 100000 in
set_option maxHeartbeats 4000000 in
theorem sstyok (f : Nat → Int) (w : World) :
    Calls Try.prog 78 #[.agg (sCells f)] w fun e w' => e = .returned (.bool (styOk f)) ∧ Below w.heap.size w w' := by
  have hA := hp_new w (.cells (sCells f) 41)
  have bb : Below w.heap.size w (w.alloc (.cells (sCells f) 41)) := Go.Joins.below_alloc1 ..
  obtain ⟨u, eu⟩ : ∃ u, u = w.alloc (.cells (sCells f) 41) := ⟨_, rfl⟩
  rw [← eu] at hA bb
  have EU := Lib.hid eu
  clear eu
  go_enter Try.func78, Try.ntmps78
  have c0 := sty_int hA 0 (by decide)
  go_wp2_with (rw [← EU.out])
  refine (sin_b (f 0) 1 4 _).mono ?_
  rintro e _ ⟨rfl, rfl⟩
  clear c0
  cases h0 : inB (f 0) 1 4
  · (try dsimp only)
    go_wp2
    go_ret
    exact ⟨ret_bool' (by simp [styOk, sChV, sNmV, sSiV, sEdV, sGpV, h0]), bb⟩
  have c1 := sty_int hA 1 (by decide)
  (try dsimp only)
  go_wp2_with (fail)
  refine (sin_b (f 1) 1 3 _).mono ?_
  rintro e _ ⟨rfl, rfl⟩
  clear c1
  cases h1 : inB (f 1) 1 3
  · (try dsimp only)
    go_wp2
    go_ret
    exact ⟨ret_bool' (by simp [styOk, sChV, sNmV, sSiV, sEdV, sGpV, h0, h1]), bb⟩
  have c2 := sty_int hA 2 (by decide)
  (try dsimp only)
  go_wp2_with (fail)
  refine (sin_b (f 2) 1 6 _).mono ?_
  rintro e _ ⟨rfl, rfl⟩
  clear c2
  cases h2 : inB (f 2) 1 6
  · (try dsimp only)
    go_wp2
    go_ret
    exact ⟨ret_bool' (by simp [styOk, sChV, sNmV, sSiV, sEdV, sGpV, h0, h1, h2]), bb⟩
  have c3 := sty_int hA 3 (by decide)
  (try dsimp only)
  go_wp2_with (fail)
  refine (sin_b (f 3) 1 5 _).mono ?_
  rintro e _ ⟨rfl, rfl⟩
  clear c3
  cases h3 : inB (f 3) 1 5
  · (try dsimp only)
    go_wp2
    go_ret
    exact ⟨ret_bool' (by simp [styOk, sChV, sNmV, sSiV, sEdV, sGpV, h0, h1, h2, h3]), bb⟩
  have c4 := sty_int hA 4 (by decide)
  (try dsimp only)
  go_wp2_with (fail)
  refine (sin_b (f 4) 0 5 _).mono ?_
  rintro e _ ⟨rfl, rfl⟩
  clear c4
  cases h4 : inB (f 4) 0 5
  · (try dsimp only)
    go_wp2
    go_ret
    exact ⟨ret_bool' (by simp [styOk, sChV, sNmV, sSiV, sEdV, sGpV, h0, h1, h2, h3, h4]), bb⟩
  have c5 := sty_int hA 5 (by decide)
  (try dsimp only)
  go_wp2_with (fail)
  refine (sin_b (f 5) 1 6 _).mono ?_
  rintro e _ ⟨rfl, rfl⟩
  clear c5
  cases h5 : inB (f 5) 1 6
  · (try dsimp only)
    go_wp2
    go_ret
    exact ⟨ret_bool' (by simp [styOk, sChV, sNmV, sSiV, sEdV, sGpV, h0, h1, h2, h3, h4, h5]), bb⟩
  have c8 := sty_int hA 8 (by decide)
  (try dsimp only)
  go_wp2_with (fail)
  refine (sin_b (f 8) (-1000) 1000 _).mono ?_
  rintro e _ ⟨rfl, rfl⟩
  clear c8
  cases h6 : inB (f 8) (-1000) 1000
  · (try dsimp only)
    go_wp2
    go_ret
    exact ⟨ret_bool' (by simp [styOk, sChV, sNmV, sSiV, sEdV, sGpV, h0, h1, h2, h3, h4, h5, h6]), bb⟩
  have c9 := sty_int hA 9 (by decide)
  (try dsimp only)
  go_wp2_with (fail)
  refine (sin_b (f 9) 0 1000 _).mono ?_
  rintro e _ ⟨rfl, rfl⟩
  clear c9
  cases h7 : inB (f 9) 0 1000
  · (try dsimp only)
    go_wp2
    go_ret
    exact ⟨ret_bool' (by simp [styOk, sChV, sNmV, sSiV, sEdV, sGpV, h0, h1, h2, h3, h4, h5, h6, h7]), bb⟩
  have c10 := sty_int hA 10 (by decide)
  (try dsimp only)
  go_wp2_with (fail)
  refine (sin_b (f 10) 0 1000 _).mono ?_
  rintro e _ ⟨rfl, rfl⟩
  clear c10
  cases h8 : inB (f 10) 0 1000
  · (try dsimp only)
    go_wp2
    go_ret
    exact ⟨ret_bool' (by simp [styOk, sChV, sNmV, sSiV, sEdV, sGpV, h0, h1, h2, h3, h4, h5, h6, h7, h8]), bb⟩
  have c25 := sty_int hA 25 (by decide)
  (try dsimp only)
  go_wp2_with (fail)
  refine (sin_b (f 25) 0 6400 _).mono ?_
  rintro e _ ⟨rfl, rfl⟩
  clear c25
  cases h9 : inB (f 25) 0 6400
  · (try dsimp only)
    go_wp2
    go_ret
    exact ⟨ret_bool' (by simp [styOk, sChV, sNmV, sSiV, sEdV, sGpV, h0, h1, h2, h3, h4, h5, h6, h7, h8, h9]), bb⟩
  have c11 := sty_int hA 11 (by decide)
  have c12 := sty_int hA 12 (by decide)
  (try dsimp only)
  go_wp2_with (fail)
  refine (ssiz (f 11) (f 12) _).mono ?_
  rintro e w10 ⟨rfl, b10⟩
  replace hA := hp_below hA b10
  replace bb := bb.trans (b10.mono bb.size)
  clear b10
  clear c11 c12
  cases h10 : sSzV (f 11) (f 12)
  · (try dsimp only)
    go_wp2
    go_ret
    exact ⟨ret_bool' (by simp [styOk, sChV, sNmV, sSiV, sEdV, sGpV, h0, h1, h2, h3, h4, h5, h6, h7, h8, h9, h10]), bb⟩
  have c13 := sty_int hA 13 (by decide)
  have c14 := sty_int hA 14 (by decide)
  (try dsimp only)
  go_wp2_with (fail)
  refine (ssiz (f 13) (f 14) _).mono ?_
  rintro e w11 ⟨rfl, b11⟩
  replace hA := hp_below hA b11
  replace bb := bb.trans (b11.mono bb.size)
  clear b11
  clear c13 c14
  cases h11 : sSzV (f 13) (f 14)
  · (try dsimp only)
    go_wp2
    go_ret
    exact ⟨ret_bool' (by simp [styOk, sChV, sNmV, sSiV, sEdV, sGpV, h0, h1, h2, h3, h4, h5, h6, h7, h8, h9, h10, h11]), bb⟩
  have c15 := sty_int hA 15 (by decide)
  have c16 := sty_int hA 16 (by decide)
  (try dsimp only)
  go_wp2_with (fail)
  refine (ssiz (f 15) (f 16) _).mono ?_
  rintro e w12 ⟨rfl, b12⟩
  replace hA := hp_below hA b12
  replace bb := bb.trans (b12.mono bb.size)
  clear b12
  clear c15 c16
  cases h12 : sSzV (f 15) (f 16)
  · (try dsimp only)
    go_wp2
    go_ret
    exact ⟨ret_bool' (by simp [styOk, sChV, sNmV, sSiV, sEdV, sGpV, h0, h1, h2, h3, h4, h5, h6, h7, h8, h9, h10, h11, h12]), bb⟩
  have c17 := sty_int hA 17 (by decide)
  have c18 := sty_int hA 18 (by decide)
  (try dsimp only)
  go_wp2_with (fail)
  refine (ssiz (f 17) (f 18) _).mono ?_
  rintro e w13 ⟨rfl, b13⟩
  replace hA := hp_below hA b13
  replace bb := bb.trans (b13.mono bb.size)
  clear b13
  clear c17 c18
  cases h13 : sSzV (f 17) (f 18)
  · (try dsimp only)
    go_wp2
    go_ret
    exact ⟨ret_bool' (by simp [styOk, sChV, sNmV, sSiV, sEdV, sGpV, h0, h1, h2, h3, h4, h5, h6, h7, h8, h9, h10, h11, h12, h13]), bb⟩
  have c19 := sty_int hA 19 (by decide)
  have c20 := sty_int hA 20 (by decide)
  (try dsimp only)
  go_wp2_with (fail)
  refine (ssiz (f 19) (f 20) _).mono ?_
  rintro e w14 ⟨rfl, b14⟩
  replace hA := hp_below hA b14
  replace bb := bb.trans (b14.mono bb.size)
  clear b14
  clear c19 c20
  cases h14 : sSzV (f 19) (f 20)
  · (try dsimp only)
    go_wp2
    go_ret
    exact ⟨ret_bool' (by simp [styOk, sChV, sNmV, sSiV, sEdV, sGpV, h0, h1, h2, h3, h4, h5, h6, h7, h8, h9, h10, h11, h12, h13, h14]), bb⟩
  have c21 := sty_int hA 21 (by decide)
  have c22 := sty_int hA 22 (by decide)
  (try dsimp only)
  go_wp2_with (fail)
  refine (ssiz (f 21) (f 22) _).mono ?_
  rintro e w15 ⟨rfl, b15⟩
  replace hA := hp_below hA b15
  replace bb := bb.trans (b15.mono bb.size)
  clear b15
  clear c21 c22
  cases h15 : sSzV (f 21) (f 22)
  · (try dsimp only)
    go_wp2
    go_ret
    exact ⟨ret_bool' (by simp [styOk, sChV, sNmV, sSiV, sEdV, sGpV, h0, h1, h2, h3, h4, h5, h6, h7, h8, h9, h10, h11, h12, h13, h14, h15]), bb⟩
  have c23 := sty_int hA 23 (by decide)
  have c24 := sty_int hA 24 (by decide)
  (try dsimp only)
  go_wp2_with (fail)
  refine (ssiz (f 23) (f 24) _).mono ?_
  rintro e w16 ⟨rfl, b16⟩
  replace hA := hp_below hA b16
  replace bb := bb.trans (b16.mono bb.size)
  clear b16
  clear c23 c24
  cases h16 : sSzV (f 23) (f 24)
  · (try dsimp only)
    go_wp2
    go_ret
    exact ⟨ret_bool' (by simp [styOk, sChV, sNmV, sSiV, sEdV, sGpV, h0, h1, h2, h3, h4, h5, h6, h7, h8, h9, h10, h11, h12, h13, h14, h15, h16]), bb⟩
  have c26 := sty_int hA 26 (by decide)
  have c27 := sty_int hA 27 (by decide)
  have c28 := sty_int hA 28 (by decide)
  have c29 := sty_int hA 29 (by decide)
  have c30 := sty_int hA 30 (by decide)
  have c31 := sty_int hA 31 (by decide)
  have c32 := sty_int hA 32 (by decide)
  have c33 := sty_int hA 33 (by decide)
  have c34 := sty_int hA 34 (by decide)
  have c35 := sty_int hA 35 (by decide)
  have c36 := sty_int hA 36 (by decide)
  have c37 := sty_int hA 37 (by decide)
  (try dsimp only)
  go_wp2_with (fail)
  refine (ssc1 f _).mono ?_
  rintro e w17 ⟨rfl, b17⟩
  replace hA := hp_below hA b17
  replace bb := bb.trans (b17.mono bb.size)
  clear b17
  clear c26 c27 c28 c29 c30 c31 c32 c33 c34 c35 c36 c37
  cases h17 : sd1 f
  · (try dsimp only)
    go_wp2
    go_ret
    exact ⟨ret_bool' (by simp [styOk, sChV, sNmV, sSiV, sEdV, sGpV, h0, h1, h2, h3, h4, h5, h6, h7, h8, h9, h10, h11, h12, h13, h14, h15, h16, h17]), bb⟩
  have c38 := sty_int hA 38 (by decide)
  have c39 := sty_int hA 39 (by decide)
  have c40 := sty_int hA 40 (by decide)
  have c41 := sty_int hA 41 (by decide)
  have c42 := sty_int hA 42 (by decide)
  have c43 := sty_int hA 43 (by decide)
  have c44 := sty_int hA 44 (by decide)
  have c45 := sty_int hA 45 (by decide)
  have c46 := sty_int hA 46 (by decide)
  have c47 := sty_int hA 47 (by decide)
  have c48 := sty_int hA 48 (by decide)
  have c49 := sty_int hA 49 (by decide)
  (try dsimp only)
  go_wp2_with (fail)
  refine (ssc2 f _).mono ?_
  rintro e w18 ⟨rfl, b18⟩
  replace hA := hp_below hA b18
  replace bb := bb.trans (b18.mono bb.size)
  clear b18
  clear c38 c39 c40 c41 c42 c43 c44 c45 c46 c47 c48 c49
  cases h18 : sd2 f
  · (try dsimp only)
    go_wp2
    go_ret
    exact ⟨ret_bool' (by simp [styOk, sChV, sNmV, sSiV, sEdV, sGpV, h0, h1, h2, h3, h4, h5, h6, h7, h8, h9, h10, h11, h12, h13, h14, h15, h16, h17, h18]), bb⟩
  have c50 := sty_int hA 50 (by decide)
  have c51 := sty_int hA 51 (by decide)
  have c52 := sty_int hA 52 (by decide)
  have c53 := sty_int hA 53 (by decide)
  (try dsimp only)
  go_wp2_with (fail)
  refine (sec1 f _).mono ?_
  rintro e w19 ⟨rfl, b19⟩
  replace hA := hp_below hA b19
  replace bb := bb.trans (b19.mono bb.size)
  clear b19
  clear c50 c51 c52 c53
  cases h19 : ed1 f
  · (try dsimp only)
    go_wp2
    go_ret
    exact ⟨ret_bool' (by simp [styOk, sChV, sNmV, sSiV, sEdV, sGpV, h0, h1, h2, h3, h4, h5, h6, h7, h8, h9, h10, h11, h12, h13, h14, h15, h16, h17, h18, h19]), bb⟩
  have c54 := sty_int hA 54 (by decide)
  have c55 := sty_int hA 55 (by decide)
  have c56 := sty_int hA 56 (by decide)
  have c57 := sty_int hA 57 (by decide)
  (try dsimp only)
  go_wp2_with (fail)
  refine (sec2 f _).mono ?_
  rintro e w20 ⟨rfl, b20⟩
  replace hA := hp_below hA b20
  replace bb := bb.trans (b20.mono bb.size)
  clear b20
  clear c54 c55 c56 c57
  cases h20 : ed2 f
  · (try dsimp only)
    go_wp2
    go_ret
    exact ⟨ret_bool' (by simp [styOk, sChV, sNmV, sSiV, sEdV, sGpV, h0, h1, h2, h3, h4, h5, h6, h7, h8, h9, h10, h11, h12, h13, h14, h15, h16, h17, h18, h19, h20]), bb⟩
  have c58 := sty_int hA 58 (by decide)
  (try dsimp only)
  go_wp2_with (fail)
  refine (sin_b (f 58) 0 1048576 _).mono ?_
  rintro e _ ⟨rfl, rfl⟩
  clear c58
  cases h21 : inB (f 58) 0 1048576
  · (try dsimp only)
    go_wp2
    go_ret
    exact ⟨ret_bool' (by simp [styOk, sChV, sNmV, sSiV, sEdV, sGpV, h0, h1, h2, h3, h4, h5, h6, h7, h8, h9, h10, h11, h12, h13, h14, h15, h16, h17, h18, h19, h20, h21]), bb⟩
  have c59 := sty_int hA 59 (by decide)
  (try dsimp only)
  go_wp2_with (fail)
  refine (sin_b (f 59) 0 1048576 _).mono ?_
  rintro e _ ⟨rfl, rfl⟩
  clear c59
  cases h22 : inB (f 59) 0 1048576
  · (try dsimp only)
    go_wp2
    go_ret
    exact ⟨ret_bool' (by simp [styOk, sChV, sNmV, sSiV, sEdV, sGpV, h0, h1, h2, h3, h4, h5, h6, h7, h8, h9, h10, h11, h12, h13, h14, h15, h16, h17, h18, h19, h20, h21, h22]), bb⟩
  (try dsimp only)
  go_wp2
  go_ret
  exact ⟨ret_bool' (by simp [styOk, sChV, sNmV, sSiV, sEdV, sGpV, h0, h1, h2, h3, h4, h5, h6, h7, h8, h9, h10, h11, h12, h13, h14, h15, h16, h17, h18, h19, h20, h21, h22]), bb⟩
end Go.Proofs.Ytckpjldenkjddaa
end

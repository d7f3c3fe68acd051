import Derived.Test.YtckpjldenkjddaaZtAS
section
namespace Go.Proofs.Ytckpjldenkjddaa
open Go.ChangeShapes Go.WideShapes Go.ChangeAt Go.RowKit
set_option linter.unusedSimpArgs false
set_option linter.unusedVariables false

set_option maxHeartbeats 4000000 in
set_option maxRecDepth 100000 in
theorem ipok (f : Nat → Int) (w : World) :
    Calls Try.prog 115 #[.agg (pCells f)] w fun e w' => e = .returned (.bool (sSiV f && sEdV f)) ∧ Below w.heap.size w w' := by
  have hP := hp_new w (.cells (pCells f) 131)
  have bb : Below w.heap.size w (w.alloc (.cells (pCells f) 131)) := Go.Joins.below_alloc1 ..
  obtain ⟨u, eu⟩ : ∃ u, u = w.alloc (.cells (pCells f) 131) := ⟨_, rfl⟩
  rw [← eu] at hP bb
  have EU := Lib.hid eu
  clear eu
  have c0 := (Go.Joins.cell_of_block hP 0).trans (show (pCells f)[0]? = some (.int .i64 (f 11)) from rfl)
  have c1 := (Go.Joins.cell_of_block hP 1).trans (show (pCells f)[1]? = some (.int .i64 (f 12)) from rfl)
  have c2 := (Go.Joins.cell_of_block hP 2).trans (show (pCells f)[2]? = some (.int .i64 (f 13)) from rfl)
  have c3 := (Go.Joins.cell_of_block hP 3).trans (show (pCells f)[3]? = some (.int .i64 (f 14)) from rfl)
  have c4 := (Go.Joins.cell_of_block hP 4).trans (show (pCells f)[4]? = some (.int .i64 (f 15)) from rfl)
  have c5 := (Go.Joins.cell_of_block hP 5).trans (show (pCells f)[5]? = some (.int .i64 (f 16)) from rfl)
  have c6 := (Go.Joins.cell_of_block hP 6).trans (show (pCells f)[6]? = some (.int .i64 (f 17)) from rfl)
  have c7 := (Go.Joins.cell_of_block hP 7).trans (show (pCells f)[7]? = some (.int .i64 (f 18)) from rfl)
  have c8 := (Go.Joins.cell_of_block hP 8).trans (show (pCells f)[8]? = some (.int .i64 (f 19)) from rfl)
  have c9 := (Go.Joins.cell_of_block hP 9).trans (show (pCells f)[9]? = some (.int .i64 (f 20)) from rfl)
  have c10 := (Go.Joins.cell_of_block hP 10).trans (show (pCells f)[10]? = some (.int .i64 (f 21)) from rfl)
  have c11 := (Go.Joins.cell_of_block hP 11).trans (show (pCells f)[11]? = some (.int .i64 (f 22)) from rfl)
  have c12 := (Go.Joins.cell_of_block hP 12).trans (show (pCells f)[12]? = some (.int .i64 (f 23)) from rfl)
  have c13 := (Go.Joins.cell_of_block hP 13).trans (show (pCells f)[13]? = some (.int .i64 (f 24)) from rfl)
  go_enter Try.func115, Try.ntmps115
  go_wp2_with (rw [← EU.out])
  clear EU c0 c1 c2 c3 c4 c5 c6 c7 c8 c9 c10 c11 c12 c13
  have hS := hp_new u (.cells (.int .i64 (f 11) :: .int .i64 (f 12) :: .int .i64 (f 13) :: .int .i64 (f 14) :: .int .i64 (f 15) :: .int .i64 (f 16) :: .int .i64 (f 17) :: .int .i64 (f 18) :: .int .i64 (f 19) :: .int .i64 (f 20) :: .int .i64 (f 21) :: .int .i64 (f 22) :: .int .i64 (f 23) :: .int .i64 (f 24) :: []).toArray 35)
  replace hP := hp_on hP (.cells (.int .i64 (f 11) :: .int .i64 (f 12) :: .int .i64 (f 13) :: .int .i64 (f 14) :: .int .i64 (f 15) :: .int .i64 (f 16) :: .int .i64 (f 17) :: .int .i64 (f 18) :: .int .i64 (f 19) :: .int .i64 (f 20) :: .int .i64 (f 21) :: .int .i64 (f 22) :: .int .i64 (f 23) :: .int .i64 (f 24) :: []).toArray 35)
  replace bb := bb.alloc bb.size (.cells (.int .i64 (f 11) :: .int .i64 (f 12) :: .int .i64 (f 13) :: .int .i64 (f 14) :: .int .i64 (f 15) :: .int .i64 (f 16) :: .int .i64 (f 17) :: .int .i64 (f 18) :: .int .i64 (f 19) :: .int .i64 (f 20) :: .int .i64 (f 21) :: .int .i64 (f 22) :: .int .i64 (f 23) :: .int .i64 (f 24) :: []).toArray 35)
  generalize u.alloc (.cells (.int .i64 (f 11) :: .int .i64 (f 12) :: .int .i64 (f 13) :: .int .i64 (f 14) :: .int .i64 (f 15) :: .int .i64 (f 16) :: .int .i64 (f 17) :: .int .i64 (f 18) :: .int .i64 (f 19) :: .int .i64 (f 20) :: .int .i64 (f 21) :: .int .i64 (f 22) :: .int .i64 (f 23) :: .int .i64 (f 24) :: []).toArray 35) = v at *
  generalize u.heap.size = gs at *
  refine wp_loop_rounds 8 ?_
  rw [rounds_succ]
  have s0 := Go.Joins.cell_of_block hS 0
  have s1 := Go.Joins.cell_of_block hS 1
  simp at s0 s1
  (try dsimp only)
  go_wp2_with (fail)
  clear s0 s1
  have hV := hp_new v (.cells #[.int .i64 (f 11), .int .i64 (f 12)] 35)
  replace hP := hp_on hP (.cells #[.int .i64 (f 11), .int .i64 (f 12)] 35)
  replace hS := hp_on hS (.cells #[.int .i64 (f 11), .int .i64 (f 12)] 35)
  replace bb := bb.alloc bb.size (.cells #[.int .i64 (f 11), .int .i64 (f 12)] 35)
  refine (ivok (f 11) (f 12) _).mono ?_
  rintro e v0 ⟨rfl, b0⟩
  replace hP := hp_below hP b0
  replace hS := hp_below hS b0
  replace hV := hp_below hV b0
  replace bb := bb.trans (b0.mono bb.size)
  clear b0
  generalize v.heap.size = g0 at *
  cases h0 : okV (f 11) (f 12)
  · (try dsimp only)
    go_wp2
    go_ret
    exact ⟨ret_bool' (by simp [sSiV, sSzV, sEdV, h0]), bb⟩
  have d0 := Go.Joins.cell_of_block hV 1
  simp at d0
  clear hV
  by_cases n0 : f 12 < 0
  · (try dsimp only)
    go_wp2
    go_ret
    exact ⟨ret_bool' (by simp [sSiV, sSzV, sEdV, h0, n0, show ¬ (0 ≤ f 12) by omega]), bb⟩
  have m0 : 0 ≤ f 12 := by omega
  (try dsimp only)
  go_wp2_with (fail)
  clear n0 d0
  rw [rounds_succ]
  have s2 := Go.Joins.cell_of_block hS 2
  have s3 := Go.Joins.cell_of_block hS 3
  simp at s2 s3
  (try dsimp only)
  go_wp2_with (fail)
  clear s2 s3
  have hV := hp_new v0 (.cells #[.int .i64 (f 13), .int .i64 (f 14)] 35)
  replace hP := hp_on hP (.cells #[.int .i64 (f 13), .int .i64 (f 14)] 35)
  replace hS := hp_on hS (.cells #[.int .i64 (f 13), .int .i64 (f 14)] 35)
  replace bb := bb.alloc bb.size (.cells #[.int .i64 (f 13), .int .i64 (f 14)] 35)
  refine (ivok (f 13) (f 14) _).mono ?_
  rintro e v1 ⟨rfl, b1⟩
  replace hP := hp_below hP b1
  replace hS := hp_below hS b1
  replace hV := hp_below hV b1
  replace bb := bb.trans (b1.mono bb.size)
  clear b1
  generalize v0.heap.size = g1 at *
  cases h1 : okV (f 13) (f 14)
  · (try dsimp only)
    go_wp2
    go_ret
    exact ⟨ret_bool' (by simp [sSiV, sSzV, sEdV, h0, m0, h1]), bb⟩
  have d1 := Go.Joins.cell_of_block hV 1
  simp at d1
  clear hV
  by_cases n1 : f 14 < 0
  · (try dsimp only)
    go_wp2
    go_ret
    exact ⟨ret_bool' (by simp [sSiV, sSzV, sEdV, h0, m0, h1, n1, show ¬ (0 ≤ f 14) by omega]), bb⟩
  have m1 : 0 ≤ f 14 := by omega
  (try dsimp only)
  go_wp2_with (fail)
  clear n1 d1
  rw [rounds_succ]
  have s4 := Go.Joins.cell_of_block hS 4
  have s5 := Go.Joins.cell_of_block hS 5
  simp at s4 s5
  (try dsimp only)
  go_wp2_with (fail)
  clear s4 s5
  have hV := hp_new v1 (.cells #[.int .i64 (f 15), .int .i64 (f 16)] 35)
  replace hP := hp_on hP (.cells #[.int .i64 (f 15), .int .i64 (f 16)] 35)
  replace hS := hp_on hS (.cells #[.int .i64 (f 15), .int .i64 (f 16)] 35)
  replace bb := bb.alloc bb.size (.cells #[.int .i64 (f 15), .int .i64 (f 16)] 35)
  refine (ivok (f 15) (f 16) _).mono ?_
  rintro e v2 ⟨rfl, b2⟩
  replace hP := hp_below hP b2
  replace hS := hp_below hS b2
  replace hV := hp_below hV b2
  replace bb := bb.trans (b2.mono bb.size)
  clear b2
  generalize v1.heap.size = g2 at *
  cases h2 : okV (f 15) (f 16)
  · (try dsimp only)
    go_wp2
    go_ret
    exact ⟨ret_bool' (by simp [sSiV, sSzV, sEdV, h0, m0, h1, m1, h2]), bb⟩
  have d2 := Go.Joins.cell_of_block hV 1
  simp at d2
  clear hV
  by_cases n2 : f 16 < 0
  · (try dsimp only)
    go_wp2
    go_ret
    exact ⟨ret_bool' (by simp [sSiV, sSzV, sEdV, h0, m0, h1, m1, h2, n2, show ¬ (0 ≤ f 16) by omega]), bb⟩
  have m2 : 0 ≤ f 16 := by omega
  (try dsimp only)
  go_wp2_with (fail)
  clear n2 d2
  rw [rounds_succ]
  have s6 := Go.Joins.cell_of_block hS 6
  have s7 := Go.Joins.cell_of_block hS 7
  simp at s6 s7
  (try dsimp only)
  go_wp2_with (fail)
  clear s6 s7
  have hV := hp_new v2 (.cells #[.int .i64 (f 17), .int .i64 (f 18)] 35)
  replace hP := hp_on hP (.cells #[.int .i64 (f 17), .int .i64 (f 18)] 35)
  replace hS := hp_on hS (.cells #[.int .i64 (f 17), .int .i64 (f 18)] 35)
  replace bb := bb.alloc bb.size (.cells #[.int .i64 (f 17), .int .i64 (f 18)] 35)
  refine (ivok (f 17) (f 18) _).mono ?_
  rintro e v3 ⟨rfl, b3⟩
  replace hP := hp_below hP b3
  replace hS := hp_below hS b3
  replace hV := hp_below hV b3
  replace bb := bb.trans (b3.mono bb.size)
  clear b3
  generalize v2.heap.size = g3 at *
  cases h3 : okV (f 17) (f 18)
  · (try dsimp only)
    go_wp2
    go_ret
    exact ⟨ret_bool' (by simp [sSiV, sSzV, sEdV, h0, m0, h1, m1, h2, m2, h3]), bb⟩
  have d3 := Go.Joins.cell_of_block hV 1
  simp at d3
  clear hV
  by_cases n3 : f 18 < 0
  · (try dsimp only)
    go_wp2
    go_ret
    exact ⟨ret_bool' (by simp [sSiV, sSzV, sEdV, h0, m0, h1, m1, h2, m2, h3, n3, show ¬ (0 ≤ f 18) by omega]), bb⟩
  have m3 : 0 ≤ f 18 := by omega
  (try dsimp only)
  go_wp2_with (fail)
  clear n3 d3
  rw [rounds_succ]
  have s8 := Go.Joins.cell_of_block hS 8
  have s9 := Go.Joins.cell_of_block hS 9
  simp at s8 s9
  (try dsimp only)
  go_wp2_with (fail)
  clear s8 s9
  have hV := hp_new v3 (.cells #[.int .i64 (f 19), .int .i64 (f 20)] 35)
  replace hP := hp_on hP (.cells #[.int .i64 (f 19), .int .i64 (f 20)] 35)
  replace hS := hp_on hS (.cells #[.int .i64 (f 19), .int .i64 (f 20)] 35)
  replace bb := bb.alloc bb.size (.cells #[.int .i64 (f 19), .int .i64 (f 20)] 35)
  refine (ivok (f 19) (f 20) _).mono ?_
  rintro e v4 ⟨rfl, b4⟩
  replace hP := hp_below hP b4
  replace hS := hp_below hS b4
  replace hV := hp_below hV b4
  replace bb := bb.trans (b4.mono bb.size)
  clear b4
  generalize v3.heap.size = g4 at *
  cases h4 : okV (f 19) (f 20)
  · (try dsimp only)
    go_wp2
    go_ret
    exact ⟨ret_bool' (by simp [sSiV, sSzV, sEdV, h0, m0, h1, m1, h2, m2, h3, m3, h4]), bb⟩
  have d4 := Go.Joins.cell_of_block hV 1
  simp at d4
  clear hV
  by_cases n4 : f 20 < 0
  · (try dsimp only)
    go_wp2
    go_ret
    exact ⟨ret_bool' (by simp [sSiV, sSzV, sEdV, h0, m0, h1, m1, h2, m2, h3, m3, h4, n4, show ¬ (0 ≤ f 20) by omega]), bb⟩
  have m4 : 0 ≤ f 20 := by omega
  (try dsimp only)
  go_wp2_with (fail)
  clear n4 d4
  rw [rounds_succ]
  have s10 := Go.Joins.cell_of_block hS 10
  have s11 := Go.Joins.cell_of_block hS 11
  simp at s10 s11
  (try dsimp only)
  go_wp2_with (fail)
  clear s10 s11
  have hV := hp_new v4 (.cells #[.int .i64 (f 21), .int .i64 (f 22)] 35)
  replace hP := hp_on hP (.cells #[.int .i64 (f 21), .int .i64 (f 22)] 35)
  replace hS := hp_on hS (.cells #[.int .i64 (f 21), .int .i64 (f 22)] 35)
  replace bb := bb.alloc bb.size (.cells #[.int .i64 (f 21), .int .i64 (f 22)] 35)
  refine (ivok (f 21) (f 22) _).mono ?_
  rintro e v5 ⟨rfl, b5⟩
  replace hP := hp_below hP b5
  replace hS := hp_below hS b5
  replace hV := hp_below hV b5
  replace bb := bb.trans (b5.mono bb.size)
  clear b5
  generalize v4.heap.size = g5 at *
  cases h5 : okV (f 21) (f 22)
  · (try dsimp only)
    go_wp2
    go_ret
    exact ⟨ret_bool' (by simp [sSiV, sSzV, sEdV, h0, m0, h1, m1, h2, m2, h3, m3, h4, m4, h5]), bb⟩
  have d5 := Go.Joins.cell_of_block hV 1
  simp at d5
  clear hV
  by_cases n5 : f 22 < 0
  · (try dsimp only)
    go_wp2
    go_ret
    exact ⟨ret_bool' (by simp [sSiV, sSzV, sEdV, h0, m0, h1, m1, h2, m2, h3, m3, h4, m4, h5, n5, show ¬ (0 ≤ f 22) by omega]), bb⟩
  have m5 : 0 ≤ f 22 := by omega
  (try dsimp only)
  go_wp2_with (fail)
  clear n5 d5
  rw [rounds_succ]
  have s12 := Go.Joins.cell_of_block hS 12
  have s13 := Go.Joins.cell_of_block hS 13
  simp at s12 s13
  (try dsimp only)
  go_wp2_with (fail)
  clear s12 s13
  have hV := hp_new v5 (.cells #[.int .i64 (f 23), .int .i64 (f 24)] 35)
  replace hP := hp_on hP (.cells #[.int .i64 (f 23), .int .i64 (f 24)] 35)
  replace hS := hp_on hS (.cells #[.int .i64 (f 23), .int .i64 (f 24)] 35)
  replace bb := bb.alloc bb.size (.cells #[.int .i64 (f 23), .int .i64 (f 24)] 35)
  refine (ivok (f 23) (f 24) _).mono ?_
  rintro e v6 ⟨rfl, b6⟩
  replace hP := hp_below hP b6
  replace hS := hp_below hS b6
  replace hV := hp_below hV b6
  replace bb := bb.trans (b6.mono bb.size)
  clear b6
  generalize v5.heap.size = g6 at *
  cases h6 : okV (f 23) (f 24)
  · (try dsimp only)
    go_wp2
    go_ret
    exact ⟨ret_bool' (by simp [sSiV, sSzV, sEdV, h0, m0, h1, m1, h2, m2, h3, m3, h4, m4, h5, m5, h6]), bb⟩
  have d6 := Go.Joins.cell_of_block hV 1
  simp at d6
  clear hV
  by_cases n6 : f 24 < 0
  · (try dsimp only)
    go_wp2
    go_ret
    exact ⟨ret_bool' (by simp [sSiV, sSzV, sEdV, h0, m0, h1, m1, h2, m2, h3, m3, h4, m4, h5, m5, h6, n6, show ¬ (0 ≤ f 24) by omega]), bb⟩
  have m6 : 0 ≤ f 24 := by omega
  (try dsimp only)
  go_wp2_with (fail)
  clear n6 d6
  rw [rounds_succ]
  (try dsimp only)
  have c14 := (Go.Joins.cell_of_block hP 14).trans (show (pCells f)[14]? = some (.int .i64 (f 26)) from rfl)
  have c15 := (Go.Joins.cell_of_block hP 15).trans (show (pCells f)[15]? = some (.int .i64 (f 27)) from rfl)
  have c16 := (Go.Joins.cell_of_block hP 16).trans (show (pCells f)[16]? = some (.int .i64 (f 28)) from rfl)
  have c17 := (Go.Joins.cell_of_block hP 17).trans (show (pCells f)[17]? = some (.int .i64 (f 29)) from rfl)
  have c18 := (Go.Joins.cell_of_block hP 18).trans (show (pCells f)[18]? = some (.int .i64 (f 30)) from rfl)
  have c19 := (Go.Joins.cell_of_block hP 19).trans (show (pCells f)[19]? = some (.int .i64 (f 31)) from rfl)
  have c20 := (Go.Joins.cell_of_block hP 20).trans (show (pCells f)[20]? = some (.int .i64 (f 32)) from rfl)
  have c21 := (Go.Joins.cell_of_block hP 21).trans (show (pCells f)[21]? = some (.int .i64 (f 33)) from rfl)
  have c22 := (Go.Joins.cell_of_block hP 22).trans (show (pCells f)[22]? = some (.int .i64 (f 34)) from rfl)
  have c23 := (Go.Joins.cell_of_block hP 23).trans (show (pCells f)[23]? = some (.int .i64 (f 35)) from rfl)
  have c24 := (Go.Joins.cell_of_block hP 24).trans (show (pCells f)[24]? = some (.int .i64 (f 36)) from rfl)
  have c25 := (Go.Joins.cell_of_block hP 25).trans (show (pCells f)[25]? = some (.int .i64 (f 37)) from rfl)
  (try dsimp only)
  go_wp2_with (fail)
  refine (isc1 f _).mono ?_
  rintro e x0 ⟨rfl, y0⟩
  replace hP := hp_below hP y0
  replace bb := bb.trans (y0.mono bb.size)
  clear y0 c14 c15 c16 c17 c18 c19 c20 c21 c22 c23 c24 c25
  cases k0 : sd1 f
  · (try dsimp only)
    go_wp2
    go_ret
    exact ⟨ret_bool' (by simp [sSiV, sSzV, sEdV, k0]), bb⟩
  have c26 := (Go.Joins.cell_of_block hP 26).trans (show (pCells f)[26]? = some (.int .i64 (f 38)) from rfl)
  have c27 := (Go.Joins.cell_of_block hP 27).trans (show (pCells f)[27]? = some (.int .i64 (f 39)) from rfl)
  have c28 := (Go.Joins.cell_of_block hP 28).trans (show (pCells f)[28]? = some (.int .i64 (f 40)) from rfl)
  have c29 := (Go.Joins.cell_of_block hP 29).trans (show (pCells f)[29]? = some (.int .i64 (f 41)) from rfl)
  have c30 := (Go.Joins.cell_of_block hP 30).trans (show (pCells f)[30]? = some (.int .i64 (f 42)) from rfl)
  have c31 := (Go.Joins.cell_of_block hP 31).trans (show (pCells f)[31]? = some (.int .i64 (f 43)) from rfl)
  have c32 := (Go.Joins.cell_of_block hP 32).trans (show (pCells f)[32]? = some (.int .i64 (f 44)) from rfl)
  have c33 := (Go.Joins.cell_of_block hP 33).trans (show (pCells f)[33]? = some (.int .i64 (f 45)) from rfl)
  have c34 := (Go.Joins.cell_of_block hP 34).trans (show (pCells f)[34]? = some (.int .i64 (f 46)) from rfl)
  have c35 := (Go.Joins.cell_of_block hP 35).trans (show (pCells f)[35]? = some (.int .i64 (f 47)) from rfl)
  have c36 := (Go.Joins.cell_of_block hP 36).trans (show (pCells f)[36]? = some (.int .i64 (f 48)) from rfl)
  have c37 := (Go.Joins.cell_of_block hP 37).trans (show (pCells f)[37]? = some (.int .i64 (f 49)) from rfl)
  (try dsimp only)
  go_wp2_with (fail)
  refine (isc2 f _).mono ?_
  rintro e x1 ⟨rfl, y1⟩
  replace hP := hp_below hP y1
  replace bb := bb.trans (y1.mono bb.size)
  clear y1 c26 c27 c28 c29 c30 c31 c32 c33 c34 c35 c36 c37
  cases k1 : sd2 f
  · (try dsimp only)
    go_wp2
    go_ret
    exact ⟨ret_bool' (by simp [sSiV, sSzV, sEdV, k0, k1]), bb⟩
  have c38 := (Go.Joins.cell_of_block hP 38).trans (show (pCells f)[38]? = some (.int .i64 (f 50)) from rfl)
  have c39 := (Go.Joins.cell_of_block hP 39).trans (show (pCells f)[39]? = some (.int .i64 (f 51)) from rfl)
  have c40 := (Go.Joins.cell_of_block hP 40).trans (show (pCells f)[40]? = some (.int .i64 (f 52)) from rfl)
  have c41 := (Go.Joins.cell_of_block hP 41).trans (show (pCells f)[41]? = some (.int .i64 (f 53)) from rfl)
  (try dsimp only)
  go_wp2_with (fail)
  refine (iec1 f _).mono ?_
  rintro e x2 ⟨rfl, y2⟩
  replace hP := hp_below hP y2
  replace bb := bb.trans (y2.mono bb.size)
  clear y2 c38 c39 c40 c41
  cases k2 : ed1 f
  · (try dsimp only)
    go_wp2
    go_ret
    exact ⟨ret_bool' (by simp [sSiV, sSzV, sEdV, k0, k1, k2]), bb⟩
  have c42 := (Go.Joins.cell_of_block hP 42).trans (show (pCells f)[42]? = some (.int .i64 (f 54)) from rfl)
  have c43 := (Go.Joins.cell_of_block hP 43).trans (show (pCells f)[43]? = some (.int .i64 (f 55)) from rfl)
  have c44 := (Go.Joins.cell_of_block hP 44).trans (show (pCells f)[44]? = some (.int .i64 (f 56)) from rfl)
  have c45 := (Go.Joins.cell_of_block hP 45).trans (show (pCells f)[45]? = some (.int .i64 (f 57)) from rfl)
  (try dsimp only)
  go_wp2_with (fail)
  refine (iec2 f _).mono ?_
  rintro e x3 ⟨rfl, y3⟩
  replace hP := hp_below hP y3
  replace bb := bb.trans (y3.mono bb.size)
  clear y3 c42 c43 c44 c45
  cases k3 : ed2 f
  · (try dsimp only)
    go_wp2
    go_ret
    exact ⟨ret_bool' (by simp [sSiV, sSzV, sEdV, k0, k1, k2, k3]), bb⟩
  (try dsimp only)
  go_wp2
  go_ret
  exact ⟨ret_bool' (by simp [sSiV, sSzV, sEdV, h0, m0, h1, m1, h2, m2, h3, m3, h4, m4, h5, m5, h6, m6, k0, k1, k2, k3]), bb⟩
theorem ok_all (a b c d e : Bool) : (a && (b && e) && (c && d)) = (a && b && c && d && e) := by cases a <;> cases b <;> cases c <;> cases d <;> cases e <;> rfl
set_option maxHeartbeats 1000000 in
theorem istyok (f : Nat → Int) (w : World) :
    Calls Try.prog 73 #[.agg (sCells f)] w fun e w' => e = .returned (.bool (styOk f)) ∧ Below w.heap.size w w' := by
  have hA := hp_new w (.cells (sCells f) 41)
  have bb : Below w.heap.size w (w.alloc (.cells (sCells f) 41)) := Go.Joins.below_alloc1 ..
  obtain ⟨u, eu⟩ : ∃ u, u = w.alloc (.cells (sCells f) 41) := ⟨_, rfl⟩
  rw [← eu] at hA bb
  have EU := Lib.hid eu
  clear eu
  rw [show styOk f = (sChV f && (sNmV f && sGpV f) && (sSiV f && sEdV f)) from (ok_all _ _ _ _ _).symm]
  have q1 := icho f
  have q2 := inum f
  have q3 := ipok f
  generalize sChV f = r1 at *
  generalize (sNmV f && sGpV f) = r2 at *
  generalize (sSiV f && sEdV f) = r3 at *
  go_enter Try.func73, Try.ntmps73
  go_wp2_with (first | (rw [← EU.out]) | ((with_reducible apply list_load_sty); exact rfl; exact rfl; exact rfl; (with_reducible exact hA); simp only [World.size_alloc, Act.put, List.setIfInBounds_toArray, List.set_cons_succ, List.set_cons_zero]))
  refine (q1 _).mono ?_
  rintro e w1 ⟨rfl, b1⟩
  replace hA := hp_below hA b1
  replace bb := bb.trans (b1.mono bb.size)
  clear b1
  cases r1
  · (try dsimp only)
    go_wp2
    go_ret
    exact ⟨rfl, bb⟩
  (try dsimp only)
  go_wp2_with ((with_reducible apply list_load_gsty); exact rfl; exact rfl; exact rfl; (with_reducible exact hA); simp only [World.size_alloc, Act.put, List.setIfInBounds_toArray, List.set_cons_succ, List.set_cons_zero])
  refine (q2 _).mono ?_
  rintro e w2 ⟨rfl, b2⟩
  replace hA := hp_below hA b2
  replace bb := bb.trans (b2.mono bb.size)
  clear b2
  cases r2
  · (try dsimp only)
    go_wp2
    go_ret
    exact ⟨rfl, bb⟩
  (try dsimp only)
  go_wp2_with ((with_reducible apply list_load_gsty); exact rfl; exact rfl; exact rfl; (with_reducible exact hA); simp only [World.size_alloc, Act.put, List.setIfInBounds_toArray, List.set_cons_succ, List.set_cons_zero])
  refine (iparts f _).mono ?_
  rintro e w3 ⟨rfl, b3⟩
  replace hA := hp_below hA b3
  replace bb := bb.trans (b3.mono bb.size)
  clear b3
  (try dsimp only)
  go_wp2_with (fail)
  refine (q3 _).mono ?_
  rintro e w4 ⟨rfl, b4⟩
  replace hA := hp_below hA b4
  replace bb := bb.trans (b4.mono bb.size)
  clear b4
  (try dsimp only)
  go_wp2
  go_ret
  exact ⟨ret_bool' (by simp), bb⟩
end Go.Proofs.Ytckpjldenkjddaa
end

/-
  The contracts of the program: its extents (impl.extentOf and the methods of impl.extent), impl.LeastOf, MostOf, FixedOf. Conditions: none.
-/
import Derived.Test.YtpmfijaclncfhaaBdM
import Derived.Test.YtpmfijaclncfhaaQtl
namespace Go.Proofs.Ytpmfijaclncfhaa
open Go.ChangeShapes Go.WideShapes Go.ChangeAt Go.RowKit
set_option linter.unusedSimpArgs false
set_option linter.unusedVariables false

/-- What a style says along one axis. -/
def exV (f : Nat → Int) (b : Bool) : Value := .agg #[.int .i64 (frI f b), .int .i64 (pkI b (f 13) (f 15)), .int .i64 (pkI b (f 14) (f 16)), .int .i64 (pkI b (f 17) (f 19)), .int .i64 (pkI b (f 18) (f 20)), .int .i64 (pkI b (f 21) (f 23)), .int .i64 (pkI b (f 22) (f 24))]
theorem imin (x0 x1 x2 x3 x4 x5 x6 base : Int) (w : World) :
    Calls Try.prog 43 #[.agg #[.int .i64 x0, .int .i64 x1, .int .i64 x2, .int .i64 x3, .int .i64 x4, .int .i64 x5, .int .i64 x6], .int .i64 base] w fun e w' => e = .returned (.int .i64 (mxI x0 (orI (szV x3 x4 base) 0))) ∧ Below w.heap.size w w' := by
  have hz := isizeof x3 x4 base
  generalize szV x3 x4 base = y at *
  have ho := iorelseB y 0
  generalize orI y 0 = x at *
  have h1 := hp_new w (.cells #[.int .i64 x0, .int .i64 x1, .int .i64 x2, .int .i64 x3, .int .i64 x4, .int .i64 x5, .int .i64 x6] 64)
  have bb := Go.Joins.below_alloc1 w (.cells #[.int .i64 x0, .int .i64 x1, .int .i64 x2, .int .i64 x3, .int .i64 x4, .int .i64 x5, .int .i64 x6] 64)
  obtain ⟨u, eu⟩ : ∃ u, u = w.alloc (.cells #[.int .i64 x0, .int .i64 x1, .int .i64 x2, .int .i64 x3, .int .i64 x4, .int .i64 x5, .int .i64 x6] 64) := ⟨_, rfl⟩
  rw [← eu] at h1 bb
  have EU := Lib.hid eu
  clear eu
  have q0 := fun d os => hp_cell h1 d os 0 _ rfl
  have q3 := fun d os => hp_cell h1 d os 3 _ rfl
  have q4 := fun d os => hp_cell h1 d os 4 _ rfl
  rw [show mxI x0 x = if x ≤ x0 then x0 else x by unfold mxI; (repeat' split) <;> omega]
  by_cases e1 : x ≤ x0
  · rw [if_pos e1]
    go_enter Try.func43, Try.ntmps43
    go_wp2_with (rw [← EU.out])
    refine wp_region_quiet_below (by kernel_rfl) (by kernel_rfl) ?_
    repeat (first | go_big_quiet_step (first | (go_at_call 72; exact Calls.regrown_of (hz _)) | (go_at_call 55; exact Calls.regrown_of (ho _)) | fail))
    refine wpQuiet_nil ?_
    intro _ hw'
    obtain ⟨⟨dq, osq⟩, hw''⟩ := hw'
    subst hw''
    replace bb := bb.trans ((below_regrown u dq osq).mono bb.size)
    go_wp2
    go_ret
    exact ⟨rfl, bb⟩
  · rw [if_neg e1]
    go_enter Try.func43, Try.ntmps43
    go_wp2_with (rw [← EU.out])
    refine wp_region_quiet_below (by kernel_rfl) (by kernel_rfl) ?_
    repeat (first | go_big_quiet_step (first | (go_at_call 72; exact Calls.regrown_of (hz _)) | (go_at_call 55; exact Calls.regrown_of (ho _)) | fail))
    refine wpQuiet_nil ?_
    intro _ hw'
    obtain ⟨⟨dq, osq⟩, hw''⟩ := hw'
    subst hw''
    replace bb := bb.trans ((below_regrown u dq osq).mono bb.size)
    go_wp2
    go_ret
    exact ⟨rfl, bb⟩
theorem imax (x0 x1 x2 x3 x4 x5 x6 base : Int) (w : World) :
    Calls Try.prog 45 #[.agg #[.int .i64 x0, .int .i64 x1, .int .i64 x2, .int .i64 x3, .int .i64 x4, .int .i64 x5, .int .i64 x6], .int .i64 base] w fun e w' => e = .returned (.int .i64 (szV x5 x6 base)) ∧ Below w.heap.size w w' := by
  go_enter Try.func45, Try.ntmps45
  go_wp2_with (fail)
  refine (isizeof x5 x6 base _).mono ?_
  rintro e w1 ⟨rfl, b1⟩
  go_wp2
  go_ret
  exact ⟨rfl, (Go.Joins.below_alloc1 ..).trans (b1.mono (by simp))⟩
theorem iexa (x0 x1 x2 x3 x4 x5 x6 base : Int) (w : World) :
    Calls Try.prog 54 #[.agg #[.int .i64 x0, .int .i64 x1, .int .i64 x2, .int .i64 x3, .int .i64 x4, .int .i64 x5, .int .i64 x6], .int .i64 base] w fun e w' => e = .returned (.int .i64 (szV x1 x2 base)) ∧ Below w.heap.size w w' := by
  go_enter Try.func54, Try.ntmps54
  go_wp2_with (fail)
  refine (isizeof x1 x2 base _).mono ?_
  rintro e w1 ⟨rfl, b1⟩
  go_wp2
  go_ret
  exact ⟨rfl, (Go.Joins.below_alloc1 ..).trans (b1.mono (by simp))⟩
set_option maxRecDepth 100000 in
theorem iext (f : Nat → Int) (b : Bool) (w : World) :
    Calls Try.prog 73 #[.agg (sCells f), .bool b] w fun e w' => e = .returned (exV f b) ∧ Below w.heap.size w w' := by
  have h0 := hp_on (hp_new w (.cells (sCells f) 31)) (.cells #[.int .i64 0, .int .i64 0, .int .i64 0, .int .i64 0, .int .i64 0, .int .i64 0, .int .i64 0] 64)
  have hz := hp_new (w.alloc (.cells (sCells f) 31)) (.cells #[.int .i64 0, .int .i64 0, .int .i64 0, .int .i64 0, .int .i64 0, .int .i64 0, .int .i64 0] 64)
  have bb := Go.Joins.below_alloc2 w (.cells (sCells f) 31) (.cells #[.int .i64 0, .int .i64 0, .int .i64 0, .int .i64 0, .int .i64 0, .int .i64 0, .int .i64 0] 64)
  simp only [World.size_alloc] at h0 hz
  obtain ⟨u, eu⟩ : ∃ u, u = (w.alloc (.cells (sCells f) 31)).alloc (.cells #[.int .i64 0, .int .i64 0, .int .i64 0, .int .i64 0, .int .i64 0, .int .i64 0, .int .i64 0] 64) := ⟨_, rfl⟩
  rw [← eu] at h0 hz bb
  have EU := Lib.hid eu
  clear eu
  have hf := ifsize f b
  unfold exV
  generalize frI f b = y at *
  have l13 := sty_int_regrown h0 13 (by decide)
  have l15 := sty_int_regrown h0 15 (by decide)
  have l14 := sty_int_regrown h0 14 (by decide)
  have l16 := sty_int_regrown h0 16 (by decide)
  have l17 := sty_int_regrown h0 17 (by decide)
  have l19 := sty_int_regrown h0 19 (by decide)
  have l18 := sty_int_regrown h0 18 (by decide)
  have l20 := sty_int_regrown h0 20 (by decide)
  have l21 := sty_int_regrown h0 21 (by decide)
  have l23 := sty_int_regrown h0 23 (by decide)
  have l22 := sty_int_regrown h0 22 (by decide)
  have l24 := sty_int_regrown h0 24 (by decide)
  cases b
  · simp only [pkI, if_true, Bool.false_eq_true, if_false, Nat.reduceAdd]
    go_enter Try.func73, Try.ntmps73
    go_wp2_with (rw [← EU.out])
    refine region_qtail 9 (by kernel_rfl) (by kernel_rfl) ?_
    simp only [blank, nopOf, Nat.reduceAdd, Nat.reduceEqDiff, Nat.reduceLeDiff, or_self, or_true, false_or, or_false, true_or, ↓reduceIte]
    repeat (first | (go_big_quiet_want; (with_reducible apply quiet_sty); exact rfl; exact rfl; (with_reducible exact h0); simp only [Act.put, List.setIfInBounds_toArray, List.set_cons_succ, List.set_cons_zero]; go_big_quiet_on) | go_big_quiet_step (first | (go_at_call 23; exact Calls.regrown_of (hf _)) | fail))
    refine wpQuiet_nil ?_
    intro w1 hw'
    have b1 := below_of hw'
    clear hw'
    replace hz := hp_below hz b1
    replace bb := bb.trans (b1.mono bb.size)
    clear b1 h0 l13 l15 l14 l16 l17 l19 l18 l20 l21 l23 l22 l24
    simp only [List.drop_succ_cons, List.drop_zero]
    have z0 := Go.Joins.cell_of_block hz 0
    have F0 := Go.Joins.unfrozen_of_block hz 0
    have z1 := Go.Joins.cell_of_block hz 1
    have F1 := Go.Joins.unfrozen_of_block hz 1
    have z2 := Go.Joins.cell_of_block hz 2
    have F2 := Go.Joins.unfrozen_of_block hz 2
    have z3 := Go.Joins.cell_of_block hz 3
    have F3 := Go.Joins.unfrozen_of_block hz 3
    have z4 := Go.Joins.cell_of_block hz 4
    have F4 := Go.Joins.unfrozen_of_block hz 4
    have z5 := Go.Joins.cell_of_block hz 5
    have F5 := Go.Joins.unfrozen_of_block hz 5
    have z6 := Go.Joins.cell_of_block hz 6
    have F6 := Go.Joins.unfrozen_of_block hz 6
    simp at z0 z1 z2 z3 z4 z5 z6
    have HZ := Lib.hid hz
    clear hz
    go_wp2
    clear z0 F0 z1 F1 z2 F2 z3 F3 z4 F4 z5 F5 z6 F6
    have h9 := (Go.Joins.block_setCell (Go.Joins.block_setCell (Go.Joins.block_setCell (Go.Joins.block_setCell (Go.Joins.block_setCell (Go.Joins.block_setCell (Go.Joins.block_setCell HZ.out (i := 0) (.int .i64 y)) (i := 1) (.int .i64 (f 15))) (i := 2) (.int .i64 (f 16))) (i := 3) (.int .i64 (f 19))) (i := 4) (.int .i64 (f 20))) (i := 5) (.int .i64 (f 23))) (i := 6) (.int .i64 (f 24)))
    have b9 := (bl_set (bl_set (bl_set (bl_set (bl_set (bl_set (bl_set bb (g := w.heap.size + 1) 0 (by omega) (.int .i64 y)) (g := w.heap.size + 1) 1 (by omega) (.int .i64 (f 15))) (g := w.heap.size + 1) 2 (by omega) (.int .i64 (f 16))) (g := w.heap.size + 1) 3 (by omega) (.int .i64 (f 19))) (g := w.heap.size + 1) 4 (by omega) (.int .i64 (f 20))) (g := w.heap.size + 1) 5 (by omega) (.int .i64 (f 23))) (g := w.heap.size + 1) 6 (by omega) (.int .i64 (f 24)))
    generalize (((((((w1.setCell ⟨w.heap.size + 1, 0, none⟩ (.int .i64 y)).setCell ⟨w.heap.size + 1, 1, none⟩ (.int .i64 (f 15))).setCell ⟨w.heap.size + 1, 2, none⟩ (.int .i64 (f 16))).setCell ⟨w.heap.size + 1, 3, none⟩ (.int .i64 (f 19))).setCell ⟨w.heap.size + 1, 4, none⟩ (.int .i64 (f 20))).setCell ⟨w.heap.size + 1, 5, none⟩ (.int .i64 (f 23))).setCell ⟨w.heap.size + 1, 6, none⟩ (.int .i64 (f 24))) = u9 at *
    have h9' : u9.heap[w.heap.size + 1]? = some (.cells #[.int .i64 y, .int .i64 (f 15), .int .i64 (f 16), .int .i64 (f 19), .int .i64 (f 20), .int .i64 (f 23), .int .i64 (f 24)] 64) := by simpa using h9
    have D0 := Go.Joins.cell_of_block h9' 0
    have D1 := Go.Joins.cell_of_block h9' 1
    have D2 := Go.Joins.cell_of_block h9' 2
    have D3 := Go.Joins.cell_of_block h9' 3
    have D4 := Go.Joins.cell_of_block h9' 4
    have D5 := Go.Joins.cell_of_block h9' 5
    have D6 := Go.Joins.cell_of_block h9' 6
    simp at D0 D1 D2 D3 D4 D5 D6
    exact bodyPost_ret (v := .agg #[.int .i64 y, .int .i64 (f 15), .int .i64 (f 16), .int .i64 (f 19), .int .i64 (f 20), .int .i64 (f 23), .int .i64 (f 24)]) (by simp [results, Try.results73, go_sem, D0, D1, D2, D3, D4, D5, D6]) rfl ⟨rfl, b9⟩
  · simp only [pkI, if_true, Bool.false_eq_true, if_false, Nat.reduceAdd]
    go_enter Try.func73, Try.ntmps73
    go_wp2_with (rw [← EU.out])
    refine region_qtail 9 (by kernel_rfl) (by kernel_rfl) ?_
    simp only [blank, nopOf, Nat.reduceAdd, Nat.reduceEqDiff, Nat.reduceLeDiff, or_self, or_true, false_or, or_false, true_or, ↓reduceIte]
    repeat (first | (go_big_quiet_want; (with_reducible apply quiet_sty); exact rfl; exact rfl; (with_reducible exact h0); simp only [Act.put, List.setIfInBounds_toArray, List.set_cons_succ, List.set_cons_zero]; go_big_quiet_on) | go_big_quiet_step (first | (go_at_call 23; exact Calls.regrown_of (hf _)) | fail))
    refine wpQuiet_nil ?_
    intro w1 hw'
    have b1 := below_of hw'
    clear hw'
    replace hz := hp_below hz b1
    replace bb := bb.trans (b1.mono bb.size)
    clear b1 h0 l13 l15 l14 l16 l17 l19 l18 l20 l21 l23 l22 l24
    simp only [List.drop_succ_cons, List.drop_zero]
    have z0 := Go.Joins.cell_of_block hz 0
    have F0 := Go.Joins.unfrozen_of_block hz 0
    have z1 := Go.Joins.cell_of_block hz 1
    have F1 := Go.Joins.unfrozen_of_block hz 1
    have z2 := Go.Joins.cell_of_block hz 2
    have F2 := Go.Joins.unfrozen_of_block hz 2
    have z3 := Go.Joins.cell_of_block hz 3
    have F3 := Go.Joins.unfrozen_of_block hz 3
    have z4 := Go.Joins.cell_of_block hz 4
    have F4 := Go.Joins.unfrozen_of_block hz 4
    have z5 := Go.Joins.cell_of_block hz 5
    have F5 := Go.Joins.unfrozen_of_block hz 5
    have z6 := Go.Joins.cell_of_block hz 6
    have F6 := Go.Joins.unfrozen_of_block hz 6
    simp at z0 z1 z2 z3 z4 z5 z6
    have HZ := Lib.hid hz
    clear hz
    go_wp2
    clear z0 F0 z1 F1 z2 F2 z3 F3 z4 F4 z5 F5 z6 F6
    have h9 := (Go.Joins.block_setCell (Go.Joins.block_setCell (Go.Joins.block_setCell (Go.Joins.block_setCell (Go.Joins.block_setCell (Go.Joins.block_setCell (Go.Joins.block_setCell HZ.out (i := 0) (.int .i64 y)) (i := 1) (.int .i64 (f 13))) (i := 2) (.int .i64 (f 14))) (i := 3) (.int .i64 (f 17))) (i := 4) (.int .i64 (f 18))) (i := 5) (.int .i64 (f 21))) (i := 6) (.int .i64 (f 22)))
    have b9 := (bl_set (bl_set (bl_set (bl_set (bl_set (bl_set (bl_set bb (g := w.heap.size + 1) 0 (by omega) (.int .i64 y)) (g := w.heap.size + 1) 1 (by omega) (.int .i64 (f 13))) (g := w.heap.size + 1) 2 (by omega) (.int .i64 (f 14))) (g := w.heap.size + 1) 3 (by omega) (.int .i64 (f 17))) (g := w.heap.size + 1) 4 (by omega) (.int .i64 (f 18))) (g := w.heap.size + 1) 5 (by omega) (.int .i64 (f 21))) (g := w.heap.size + 1) 6 (by omega) (.int .i64 (f 22)))
    generalize (((((((w1.setCell ⟨w.heap.size + 1, 0, none⟩ (.int .i64 y)).setCell ⟨w.heap.size + 1, 1, none⟩ (.int .i64 (f 13))).setCell ⟨w.heap.size + 1, 2, none⟩ (.int .i64 (f 14))).setCell ⟨w.heap.size + 1, 3, none⟩ (.int .i64 (f 17))).setCell ⟨w.heap.size + 1, 4, none⟩ (.int .i64 (f 18))).setCell ⟨w.heap.size + 1, 5, none⟩ (.int .i64 (f 21))).setCell ⟨w.heap.size + 1, 6, none⟩ (.int .i64 (f 22))) = u9 at *
    have h9' : u9.heap[w.heap.size + 1]? = some (.cells #[.int .i64 y, .int .i64 (f 13), .int .i64 (f 14), .int .i64 (f 17), .int .i64 (f 18), .int .i64 (f 21), .int .i64 (f 22)] 64) := by simpa using h9
    have D0 := Go.Joins.cell_of_block h9' 0
    have D1 := Go.Joins.cell_of_block h9' 1
    have D2 := Go.Joins.cell_of_block h9' 2
    have D3 := Go.Joins.cell_of_block h9' 3
    have D4 := Go.Joins.cell_of_block h9' 4
    have D5 := Go.Joins.cell_of_block h9' 5
    have D6 := Go.Joins.cell_of_block h9' 6
    simp at D0 D1 D2 D3 D4 D5 D6
    exact bodyPost_ret (v := .agg #[.int .i64 y, .int .i64 (f 13), .int .i64 (f 14), .int .i64 (f 17), .int .i64 (f 18), .int .i64 (f 21), .int .i64 (f 22)]) (by simp [results, Try.results73, go_sem, D0, D1, D2, D3, D4, D5, D6]) rfl ⟨rfl, b9⟩
theorem iof_minimum (f : Nat → Int) (b : Bool) (base : Int) (w : World) :
    Calls Try.prog 44 #[.func (.func 43) #[] #[], .agg (sCells f), .bool b, .int .i64 base] w fun e w' => e = .returned (.int .i64 (leI f b base)) ∧ Below w.heap.size w w' := by
  have h0 := hp_new w (.cells (sCells f) 31)
  have bb : Below w.heap.size w (w.alloc (.cells (sCells f) 31)) := Go.Joins.below_alloc1 ..
  obtain ⟨u, eu⟩ : ∃ u, u = w.alloc (.cells (sCells f) 31) := ⟨_, rfl⟩
  rw [← eu] at h0 bb
  have EU := Lib.hid eu
  clear eu
  have hx := iext f b
  unfold exV at hx
  have hm := imin (frI f b) (pkI b (f 13) (f 15)) (pkI b (f 14) (f 16)) (pkI b (f 17) (f 19)) (pkI b (f 18) (f 20)) (pkI b (f 21) (f 23)) (pkI b (f 22) (f 24)) base
  go_enter Try.func44, Try.ntmps44
  go_wp2_with (first | (rw [← EU.out]) | ((with_reducible apply list_load_sty); exact rfl; exact rfl; exact rfl; (with_reducible exact h0); simp only [World.size_alloc, Act.put, List.setIfInBounds_toArray, List.set_cons_succ, List.set_cons_zero]))
  (try dsimp only)
  refine (hx _).mono ?_
  rintro e w1 ⟨rfl, b1⟩
  replace bb := bb.trans (b1.mono bb.size)
  clear b1
  go_wp2_with (fail)
  (try dsimp only)
  refine (hm _).mono ?_
  rintro e w2 ⟨rfl, b2⟩
  replace bb := bb.trans (b2.mono bb.size)
  clear b2
  go_wp2
  go_ret
  exact ⟨rfl, bb⟩
theorem ileast (f : Nat → Int) (b : Bool) (base : Int) (w : World) :
    Calls Try.prog 15 #[.agg (sCells f), .bool b, .int .i64 base] w fun e w' => e = .returned (.int .i64 (leI f b base)) ∧ Below w.heap.size w w' := by
  have h0 := hp_new w (.cells (sCells f) 31)
  have bb : Below w.heap.size w (w.alloc (.cells (sCells f) 31)) := Go.Joins.below_alloc1 ..
  obtain ⟨u, eu⟩ : ∃ u, u = w.alloc (.cells (sCells f) 31) := ⟨_, rfl⟩
  rw [← eu] at h0 bb
  have EU := Lib.hid eu
  clear eu
  go_enter Try.func15, Try.ntmps15
  go_wp2_with (first | (rw [← EU.out]) | ((with_reducible apply list_load_sty); exact rfl; exact rfl; exact rfl; (with_reducible exact h0); simp only [World.size_alloc, Act.put, List.setIfInBounds_toArray, List.set_cons_succ, List.set_cons_zero]))
  (try dsimp only)
  refine (iof_minimum f b base _).mono ?_
  rintro e w1 ⟨rfl, b1⟩
  replace bb := bb.trans (b1.mono bb.size)
  clear b1
  go_wp2
  go_ret
  exact ⟨rfl, bb⟩
theorem iof_maximum (f : Nat → Int) (b : Bool) (base : Int) (w : World) :
    Calls Try.prog 44 #[.func (.func 45) #[] #[], .agg (sCells f), .bool b, .int .i64 base] w fun e w' => e = .returned (.int .i64 (vzI f b 21 base)) ∧ Below w.heap.size w w' := by
  have h0 := hp_new w (.cells (sCells f) 31)
  have bb : Below w.heap.size w (w.alloc (.cells (sCells f) 31)) := Go.Joins.below_alloc1 ..
  obtain ⟨u, eu⟩ : ∃ u, u = w.alloc (.cells (sCells f) 31) := ⟨_, rfl⟩
  rw [← eu] at h0 bb
  have EU := Lib.hid eu
  clear eu
  have hx := iext f b
  unfold exV at hx
  have hm := imax (frI f b) (pkI b (f 13) (f 15)) (pkI b (f 14) (f 16)) (pkI b (f 17) (f 19)) (pkI b (f 18) (f 20)) (pkI b (f 21) (f 23)) (pkI b (f 22) (f 24)) base
  go_enter Try.func44, Try.ntmps44
  go_wp2_with (first | (rw [← EU.out]) | ((with_reducible apply list_load_sty); exact rfl; exact rfl; exact rfl; (with_reducible exact h0); simp only [World.size_alloc, Act.put, List.setIfInBounds_toArray, List.set_cons_succ, List.set_cons_zero]))
  (try dsimp only)
  refine (hx _).mono ?_
  rintro e w1 ⟨rfl, b1⟩
  replace bb := bb.trans (b1.mono bb.size)
  clear b1
  go_wp2_with (fail)
  (try dsimp only)
  refine (hm _).mono ?_
  rintro e w2 ⟨rfl, b2⟩
  replace bb := bb.trans (b2.mono bb.size)
  clear b2
  go_wp2
  go_ret
  exact ⟨rfl, bb⟩
theorem imost (f : Nat → Int) (b : Bool) (base : Int) (w : World) :
    Calls Try.prog 16 #[.agg (sCells f), .bool b, .int .i64 base] w fun e w' => e = .returned (.int .i64 (vzI f b 21 base)) ∧ Below w.heap.size w w' := by
  have h0 := hp_new w (.cells (sCells f) 31)
  have bb : Below w.heap.size w (w.alloc (.cells (sCells f) 31)) := Go.Joins.below_alloc1 ..
  obtain ⟨u, eu⟩ : ∃ u, u = w.alloc (.cells (sCells f) 31) := ⟨_, rfl⟩
  rw [← eu] at h0 bb
  have EU := Lib.hid eu
  clear eu
  go_enter Try.func16, Try.ntmps16
  go_wp2_with (first | (rw [← EU.out]) | ((with_reducible apply list_load_sty); exact rfl; exact rfl; exact rfl; (with_reducible exact h0); simp only [World.size_alloc, Act.put, List.setIfInBounds_toArray, List.set_cons_succ, List.set_cons_zero]))
  (try dsimp only)
  refine (iof_maximum f b base _).mono ?_
  rintro e w1 ⟨rfl, b1⟩
  replace bb := bb.trans (b1.mono bb.size)
  clear b1
  go_wp2
  go_ret
  exact ⟨rfl, bb⟩
theorem iof_exact (f : Nat → Int) (b : Bool) (base : Int) (w : World) :
    Calls Try.prog 44 #[.func (.func 54) #[] #[], .agg (sCells f), .bool b, .int .i64 base] w fun e w' => e = .returned (.int .i64 (vzI f b 13 base)) ∧ Below w.heap.size w w' := by
  have h0 := hp_new w (.cells (sCells f) 31)
  have bb : Below w.heap.size w (w.alloc (.cells (sCells f) 31)) := Go.Joins.below_alloc1 ..
  obtain ⟨u, eu⟩ : ∃ u, u = w.alloc (.cells (sCells f) 31) := ⟨_, rfl⟩
  rw [← eu] at h0 bb
  have EU := Lib.hid eu
  clear eu
  have hx := iext f b
  unfold exV at hx
  have hm := iexa (frI f b) (pkI b (f 13) (f 15)) (pkI b (f 14) (f 16)) (pkI b (f 17) (f 19)) (pkI b (f 18) (f 20)) (pkI b (f 21) (f 23)) (pkI b (f 22) (f 24)) base
  go_enter Try.func44, Try.ntmps44
  go_wp2_with (first | (rw [← EU.out]) | ((with_reducible apply list_load_sty); exact rfl; exact rfl; exact rfl; (with_reducible exact h0); simp only [World.size_alloc, Act.put, List.setIfInBounds_toArray, List.set_cons_succ, List.set_cons_zero]))
  (try dsimp only)
  refine (hx _).mono ?_
  rintro e w1 ⟨rfl, b1⟩
  replace bb := bb.trans (b1.mono bb.size)
  clear b1
  go_wp2_with (fail)
  (try dsimp only)
  refine (hm _).mono ?_
  rintro e w2 ⟨rfl, b2⟩
  replace bb := bb.trans (b2.mono bb.size)
  clear b2
  go_wp2
  go_ret
  exact ⟨rfl, bb⟩
theorem ifixed (f : Nat → Int) (b : Bool) (base : Int) (w : World) :
    Calls Try.prog 24 #[.agg (sCells f), .bool b, .int .i64 base] w fun e w' => e = .returned (.int .i64 (vzI f b 13 base)) ∧ Below w.heap.size w w' := by
  have h0 := hp_new w (.cells (sCells f) 31)
  have bb : Below w.heap.size w (w.alloc (.cells (sCells f) 31)) := Go.Joins.below_alloc1 ..
  obtain ⟨u, eu⟩ : ∃ u, u = w.alloc (.cells (sCells f) 31) := ⟨_, rfl⟩
  rw [← eu] at h0 bb
  have EU := Lib.hid eu
  clear eu
  go_enter Try.func24, Try.ntmps24
  go_wp2_with (first | (rw [← EU.out]) | ((with_reducible apply list_load_sty); exact rfl; exact rfl; exact rfl; (with_reducible exact h0); simp only [World.size_alloc, Act.put, List.setIfInBounds_toArray, List.set_cons_succ, List.set_cons_zero]))
  (try dsimp only)
  refine (iof_exact f b base _).mono ?_
  rintro e w1 ⟨rfl, b1⟩
  replace bb := bb.trans (b1.mono bb.size)
  clear b1
  go_wp2
  go_ret
  exact ⟨rfl, bb⟩
end Go.Proofs.Ytpmfijaclncfhaa

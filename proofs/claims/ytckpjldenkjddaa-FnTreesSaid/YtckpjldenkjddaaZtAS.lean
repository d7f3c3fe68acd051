import Derived.LoopN
import Derived.Test.YtckpjldenkjddaaZtAK
import Derived.Test.YtckpjldenkjddaaZtAP
import Derived.Test.YtckpjldenkjddaaZtAQ
import Derived.Test.YtckpjldenkjddaaZtAR
section
namespace Go.Proofs.Ytckpjldenkjddaa
open Go.ChangeShapes Go.WideShapes Go.ChangeAt Go.RowKit
set_option linter.unusedSimpArgs false
set_option linter.unusedVariables false

theorem irange (x a b : Int) (w : World) :
    Calls Try.prog 76 #[.int .i64 x, .int .i64 a, .int .i64 b] w fun e w' => e = .returned (.bool (inB x a b)) ∧ w' = w := by
  unfold inB
  by_cases h1 : a ≤ x <;> by_cases h2 : x ≤ b <;>
    (go_enter Try.func76, Try.ntmps76
     go_wp2
     go_ret
     exact ⟨ret_bool' (by simp [h1, h2]), rfl⟩)

theorem isc1 (f : Nat → Int) (w : World) :
    Calls Try.prog 144 #[.agg #[.int .i64 (f 26), .int .i64 (f 27), .int .i64 (f 28), .int .i64 (f 29), .int .i64 (f 30), .int .i64 (f 31), .int .i64 (f 32), .int .i64 (f 33), .int .i64 (f 34), .int .i64 (f 35), .int .i64 (f 36), .int .i64 (f 37)]] w fun e w' => e = .returned (.bool (sd1 f)) ∧ Below w.heap.size w w' := isok (f 26) (f 27) (f 28) (f 29) (f 30) (f 31) (f 32) (f 33) (f 34) (f 35) (f 36) (f 37) w
theorem isc2 (f : Nat → Int) (w : World) :
    Calls Try.prog 144 #[.agg #[.int .i64 (f 38), .int .i64 (f 39), .int .i64 (f 40), .int .i64 (f 41), .int .i64 (f 42), .int .i64 (f 43), .int .i64 (f 44), .int .i64 (f 45), .int .i64 (f 46), .int .i64 (f 47), .int .i64 (f 48), .int .i64 (f 49)]] w fun e w' => e = .returned (.bool (sd2 f)) ∧ Below w.heap.size w w' := isok (f 38) (f 39) (f 40) (f 41) (f 42) (f 43) (f 44) (f 45) (f 46) (f 47) (f 48) (f 49) w
theorem iec1 (f : Nat → Int) (w : World) :
    Calls Try.prog 145 #[.agg #[.int .i64 (f 50), .int .i64 (f 51), .int .i64 (f 52), .int .i64 (f 53)]] w fun e w' => e = .returned (.bool (ed1 f)) ∧ Below w.heap.size w w' := iedgesok (f 50) (f 51) (f 52) (f 53) w
theorem iec2 (f : Nat → Int) (w : World) :
    Calls Try.prog 145 #[.agg #[.int .i64 (f 54), .int .i64 (f 55), .int .i64 (f 56), .int .i64 (f 57)]] w fun e w' => e = .returned (.bool (ed2 f)) ∧ Below w.heap.size w w' := iedgesok (f 54) (f 55) (f 56) (f 57) w
set_option maxRecDepth 100000 in
set_option maxHeartbeats 4000000 in
theorem icho (f : Nat → Int) (w : World) :
    Calls Try.prog 112 #[.agg (sCells f)] w fun e w' => e = .returned (.bool (sChV f)) ∧ Below w.heap.size w w' := by
  have hA := hp_new w (.cells (sCells f) 41)
  have bb : Below w.heap.size w (w.alloc (.cells (sCells f) 41)) := Go.Joins.below_alloc1 ..
  obtain ⟨u, eu⟩ : ∃ u, u = w.alloc (.cells (sCells f) 41) := ⟨_, rfl⟩
  rw [← eu] at hA bb
  have EU := Lib.hid eu
  clear eu
  go_enter Try.func112, Try.ntmps112
  have c0 := sty_int hA 0 (by decide)
  go_wp2_with (rw [← EU.out])
  refine (irange (f 0) 1 4 _).mono ?_
  rintro e _ ⟨rfl, rfl⟩
  clear c0
  cases h0 : inB (f 0) 1 4
  · (try dsimp only)
    go_wp2
    go_ret
    exact ⟨ret_bool' (by simp [sChV, h0]), bb⟩
  have c1 := sty_int hA 1 (by decide)
  (try dsimp only)
  go_wp2_with (fail)
  refine (irange (f 1) 1 3 _).mono ?_
  rintro e _ ⟨rfl, rfl⟩
  clear c1
  cases h1 : inB (f 1) 1 3
  · (try dsimp only)
    go_wp2
    go_ret
    exact ⟨ret_bool' (by simp [sChV, h0, h1]), bb⟩
  have c2 := sty_int hA 2 (by decide)
  (try dsimp only)
  go_wp2_with (fail)
  refine (irange (f 2) 1 6 _).mono ?_
  rintro e _ ⟨rfl, rfl⟩
  clear c2
  cases h2 : inB (f 2) 1 6
  · (try dsimp only)
    go_wp2
    go_ret
    exact ⟨ret_bool' (by simp [sChV, h0, h1, h2]), bb⟩
  have c3 := sty_int hA 3 (by decide)
  (try dsimp only)
  go_wp2_with (fail)
  refine (irange (f 3) 1 5 _).mono ?_
  rintro e _ ⟨rfl, rfl⟩
  clear c3
  cases h3 : inB (f 3) 1 5
  · (try dsimp only)
    go_wp2
    go_ret
    exact ⟨ret_bool' (by simp [sChV, h0, h1, h2, h3]), bb⟩
  have c4 := sty_int hA 4 (by decide)
  (try dsimp only)
  go_wp2_with (fail)
  refine (irange (f 4) 0 5 _).mono ?_
  rintro e _ ⟨rfl, rfl⟩
  clear c4
  cases h4 : inB (f 4) 0 5
  · (try dsimp only)
    go_wp2
    go_ret
    exact ⟨ret_bool' (by simp [sChV, h0, h1, h2, h3, h4]), bb⟩
  have c5 := sty_int hA 5 (by decide)
  (try dsimp only)
  go_wp2_with (fail)
  refine (irange (f 5) 1 6 _).mono ?_
  rintro e _ ⟨rfl, rfl⟩
  clear c5
  cases h5 : inB (f 5) 1 6
  · (try dsimp only)
    go_wp2
    go_ret
    exact ⟨ret_bool' (by simp [sChV, h0, h1, h2, h3, h4, h5]), bb⟩
  (try dsimp only)
  go_wp2
  go_ret
  exact ⟨ret_bool' (by simp [sChV, h0, h1, h2, h3, h4, h5]), bb⟩
set_option maxRecDepth 100000 in
set_option maxHeartbeats 4000000 in
theorem inum (f : Nat → Int) (w : World) :
    Calls Try.prog 113 #[.agg (sCells f)] w fun e w' => e = .returned (.bool (sNmV f && sGpV f)) ∧ Below w.heap.size w w' := by
  have hA := hp_new w (.cells (sCells f) 41)
  have bb : Below w.heap.size w (w.alloc (.cells (sCells f) 41)) := Go.Joins.below_alloc1 ..
  obtain ⟨u, eu⟩ : ∃ u, u = w.alloc (.cells (sCells f) 41) := ⟨_, rfl⟩
  rw [← eu] at hA bb
  have EU := Lib.hid eu
  clear eu
  go_enter Try.func113, Try.ntmps113
  have c8 := sty_int hA 8 (by decide)
  go_wp2_with (rw [← EU.out])
  refine (irange (f 8) (-1000) 1000 _).mono ?_
  rintro e _ ⟨rfl, rfl⟩
  clear c8
  cases h0 : inB (f 8) (-1000) 1000
  · (try dsimp only)
    go_wp2
    go_ret
    exact ⟨ret_bool' (by simp [sNmV, sGpV, h0]), bb⟩
  have c9 := sty_int hA 9 (by decide)
  (try dsimp only)
  go_wp2_with (fail)
  refine (irange (f 9) 0 1000 _).mono ?_
  rintro e _ ⟨rfl, rfl⟩
  clear c9
  cases h1 : inB (f 9) 0 1000
  · (try dsimp only)
    go_wp2
    go_ret
    exact ⟨ret_bool' (by simp [sNmV, sGpV, h0, h1]), bb⟩
  have c10 := sty_int hA 10 (by decide)
  (try dsimp only)
  go_wp2_with (fail)
  refine (irange (f 10) 0 1000 _).mono ?_
  rintro e _ ⟨rfl, rfl⟩
  clear c10
  cases h2 : inB (f 10) 0 1000
  · (try dsimp only)
    go_wp2
    go_ret
    exact ⟨ret_bool' (by simp [sNmV, sGpV, h0, h1, h2]), bb⟩
  have c25 := sty_int hA 25 (by decide)
  (try dsimp only)
  go_wp2_with (fail)
  refine (irange (f 25) 0 6400 _).mono ?_
  rintro e _ ⟨rfl, rfl⟩
  clear c25
  cases h3 : inB (f 25) 0 6400
  · (try dsimp only)
    go_wp2
    go_ret
    exact ⟨ret_bool' (by simp [sNmV, sGpV, h0, h1, h2, h3]), bb⟩
  have c58 := sty_int hA 58 (by decide)
  (try dsimp only)
  go_wp2_with (fail)
  refine (irange (f 58) 0 1048576 _).mono ?_
  rintro e _ ⟨rfl, rfl⟩
  clear c58
  cases h4 : inB (f 58) 0 1048576
  · (try dsimp only)
    go_wp2
    go_ret
    exact ⟨ret_bool' (by simp [sNmV, sGpV, h0, h1, h2, h3, h4]), bb⟩
  have c59 := sty_int hA 59 (by decide)
  (try dsimp only)
  go_wp2_with (fail)
  refine (irange (f 59) 0 1048576 _).mono ?_
  rintro e _ ⟨rfl, rfl⟩
  clear c59
  cases h5 : inB (f 59) 0 1048576
  · (try dsimp only)
    go_wp2
    go_ret
    exact ⟨ret_bool' (by simp [sNmV, sGpV, h0, h1, h2, h3, h4, h5]), bb⟩
  (try dsimp only)
  go_wp2
  go_ret
  exact ⟨ret_bool' (by simp [sNmV, sGpV, h0, h1, h2, h3, h4, h5]), bb⟩
/-- The cells of a style's parts. -/
def pCells (f : Nat → Int) : Array Value := (.int .i64 (f 11) :: .int .i64 (f 12) :: .int .i64 (f 13) :: .int .i64 (f 14) :: .int .i64 (f 15) :: .int .i64 (f 16) :: .int .i64 (f 17) :: .int .i64 (f 18) :: .int .i64 (f 19) :: .int .i64 (f 20) :: .int .i64 (f 21) :: .int .i64 (f 22) :: .int .i64 (f 23) :: .int .i64 (f 24) :: .int .i64 (f 26) :: .int .i64 (f 27) :: .int .i64 (f 28) :: .int .i64 (f 29) :: .int .i64 (f 30) :: .int .i64 (f 31) :: .int .i64 (f 32) :: .int .i64 (f 33) :: .int .i64 (f 34) :: .int .i64 (f 35) :: .int .i64 (f 36) :: .int .i64 (f 37) :: .int .i64 (f 38) :: .int .i64 (f 39) :: .int .i64 (f 40) :: .int .i64 (f 41) :: .int .i64 (f 42) :: .int .i64 (f 43) :: .int .i64 (f 44) :: .int .i64 (f 45) :: .int .i64 (f 46) :: .int .i64 (f 47) :: .int .i64 (f 48) :: .int .i64 (f 49) :: .int .i64 (f 50) :: .int .i64 (f 51) :: .int .i64 (f 52) :: .int .i64 (f 53) :: .int .i64 (f 54) :: .int .i64 (f 55) :: .int .i64 (f 56) :: .int .i64 (f 57) :: []).toArray
theorem p_under : Try.prog.underlying 131 = some (.struct (Try.prog.fieldsOf 131)) := by kernel_rfl
theorem p_size (f : Nat → Int) : (Try.prog.info? 131).map (·.size) = some (pCells f).size := by
  show _ = some 46
  kernel_rfl
theorem p_one (f : Nat → Int) : (pCells f).all (·.oneCell') = true := by
  simp only [pCells, List.all_toArray, List.all_cons, List.all_nil, Bool.and_true]
  rfl
theorem list_store_parts {ops : Array Oper} {rest : List Oper} {op : Oper} {a : Act} {w : World} {Q : Exit → Act → World → Prop} {g : Nat} {t : TypeId} {old : Array Value} {f : Nat → Int} (hgd : op.guard = none) {x y : Operand} (ho : op.op = .store 131 x y)
    (hx : a.eval x = .pointer (some ⟨g, 0, none⟩)) (hy : a.eval y = .agg (pCells f)) (hg : w.heap[g]? = some (.cells old t)) (hs : old.size = 46)
    (h : wpList Try.prog ops Q rest (a.put op.dst undef) (w.setRow g (pCells f))) : wpList Try.prog ops Q (op :: rest) a w :=
  wpList_store_row hgd _ x y ho g _ hx hy t _ hg (p_size f) (hs.trans rfl) (p_one f) h
set_option maxHeartbeats 4000000 in
set_option maxRecDepth 100000 in
theorem iparts (f : Nat → Int) (w : World) :
    Calls Try.prog 114 #[.agg (sCells f)] w fun e w' => e = .returned (.agg (pCells f)) ∧ Below w.heap.size w w' := by
  have hA := hp_on (hp_new w (.cells (sCells f) 41)) (.cells (.int .i64 0 :: .int .i64 0 :: .int .i64 0 :: .int .i64 0 :: .int .i64 0 :: .int .i64 0 :: .int .i64 0 :: .int .i64 0 :: .int .i64 0 :: .int .i64 0 :: .int .i64 0 :: .int .i64 0 :: .int .i64 0 :: .int .i64 0 :: .int .i64 0 :: .int .i64 0 :: .int .i64 0 :: .int .i64 0 :: .int .i64 0 :: .int .i64 0 :: .int .i64 0 :: .int .i64 0 :: .int .i64 0 :: .int .i64 0 :: .int .i64 0 :: .int .i64 0 :: .int .i64 0 :: .int .i64 0 :: .int .i64 0 :: .int .i64 0 :: .int .i64 0 :: .int .i64 0 :: .int .i64 0 :: .int .i64 0 :: .int .i64 0 :: .int .i64 0 :: .int .i64 0 :: .int .i64 0 :: .int .i64 0 :: .int .i64 0 :: .int .i64 0 :: .int .i64 0 :: .int .i64 0 :: .int .i64 0 :: .int .i64 0 :: .int .i64 0 :: []).toArray 131)
  have hz := hp_new (w.alloc (.cells (sCells f) 41)) (.cells (.int .i64 0 :: .int .i64 0 :: .int .i64 0 :: .int .i64 0 :: .int .i64 0 :: .int .i64 0 :: .int .i64 0 :: .int .i64 0 :: .int .i64 0 :: .int .i64 0 :: .int .i64 0 :: .int .i64 0 :: .int .i64 0 :: .int .i64 0 :: .int .i64 0 :: .int .i64 0 :: .int .i64 0 :: .int .i64 0 :: .int .i64 0 :: .int .i64 0 :: .int .i64 0 :: .int .i64 0 :: .int .i64 0 :: .int .i64 0 :: .int .i64 0 :: .int .i64 0 :: .int .i64 0 :: .int .i64 0 :: .int .i64 0 :: .int .i64 0 :: .int .i64 0 :: .int .i64 0 :: .int .i64 0 :: .int .i64 0 :: .int .i64 0 :: .int .i64 0 :: .int .i64 0 :: .int .i64 0 :: .int .i64 0 :: .int .i64 0 :: .int .i64 0 :: .int .i64 0 :: .int .i64 0 :: .int .i64 0 :: .int .i64 0 :: .int .i64 0 :: []).toArray 131)
  have bb := Go.Joins.below_alloc2 w (.cells (sCells f) 41) (.cells (.int .i64 0 :: .int .i64 0 :: .int .i64 0 :: .int .i64 0 :: .int .i64 0 :: .int .i64 0 :: .int .i64 0 :: .int .i64 0 :: .int .i64 0 :: .int .i64 0 :: .int .i64 0 :: .int .i64 0 :: .int .i64 0 :: .int .i64 0 :: .int .i64 0 :: .int .i64 0 :: .int .i64 0 :: .int .i64 0 :: .int .i64 0 :: .int .i64 0 :: .int .i64 0 :: .int .i64 0 :: .int .i64 0 :: .int .i64 0 :: .int .i64 0 :: .int .i64 0 :: .int .i64 0 :: .int .i64 0 :: .int .i64 0 :: .int .i64 0 :: .int .i64 0 :: .int .i64 0 :: .int .i64 0 :: .int .i64 0 :: .int .i64 0 :: .int .i64 0 :: .int .i64 0 :: .int .i64 0 :: .int .i64 0 :: .int .i64 0 :: .int .i64 0 :: .int .i64 0 :: .int .i64 0 :: .int .i64 0 :: .int .i64 0 :: .int .i64 0 :: []).toArray 131)
  simp only [World.size_alloc] at hA hz
  obtain ⟨u, eu⟩ : ∃ u, u = (w.alloc (.cells (sCells f) 41)).alloc (.cells (.int .i64 0 :: .int .i64 0 :: .int .i64 0 :: .int .i64 0 :: .int .i64 0 :: .int .i64 0 :: .int .i64 0 :: .int .i64 0 :: .int .i64 0 :: .int .i64 0 :: .int .i64 0 :: .int .i64 0 :: .int .i64 0 :: .int .i64 0 :: .int .i64 0 :: .int .i64 0 :: .int .i64 0 :: .int .i64 0 :: .int .i64 0 :: .int .i64 0 :: .int .i64 0 :: .int .i64 0 :: .int .i64 0 :: .int .i64 0 :: .int .i64 0 :: .int .i64 0 :: .int .i64 0 :: .int .i64 0 :: .int .i64 0 :: .int .i64 0 :: .int .i64 0 :: .int .i64 0 :: .int .i64 0 :: .int .i64 0 :: .int .i64 0 :: .int .i64 0 :: .int .i64 0 :: .int .i64 0 :: .int .i64 0 :: .int .i64 0 :: .int .i64 0 :: .int .i64 0 :: .int .i64 0 :: .int .i64 0 :: .int .i64 0 :: .int .i64 0 :: []).toArray 131) := ⟨_, rfl⟩
  rw [← eu] at hA hz bb
  have EU := Lib.hid eu
  clear eu
  have c11 := sty_int hA 11 (by decide)
  have c12 := sty_int hA 12 (by decide)
  have c13 := sty_int hA 13 (by decide)
  have c14 := sty_int hA 14 (by decide)
  have c15 := sty_int hA 15 (by decide)
  have c16 := sty_int hA 16 (by decide)
  have c17 := sty_int hA 17 (by decide)
  have c18 := sty_int hA 18 (by decide)
  have c19 := sty_int hA 19 (by decide)
  have c20 := sty_int hA 20 (by decide)
  have c21 := sty_int hA 21 (by decide)
  have c22 := sty_int hA 22 (by decide)
  have c23 := sty_int hA 23 (by decide)
  have c24 := sty_int hA 24 (by decide)
  have c26 := sty_int hA 26 (by decide)
  have c27 := sty_int hA 27 (by decide)
  have c28 := sty_int hA 28 (by decide)
  have c29 := sty_int hA 29 (by decide)
  have c30 := sty_int hA 30 (by decide)
  have c31 := sty_int hA 31 (by decide)
  have c32 := sty_int hA 32 (by decide)
  have c33 := sty_int hA 33 (by decide)
  have c34 := sty_int hA 34 (by decide)
  have c35 := sty_int hA 35 (by decide)
  have c36 := sty_int hA 36 (by decide)
  have c37 := sty_int hA 37 (by decide)
  have c38 := sty_int hA 38 (by decide)
  have c39 := sty_int hA 39 (by decide)
  have c40 := sty_int hA 40 (by decide)
  have c41 := sty_int hA 41 (by decide)
  have c42 := sty_int hA 42 (by decide)
  have c43 := sty_int hA 43 (by decide)
  have c44 := sty_int hA 44 (by decide)
  have c45 := sty_int hA 45 (by decide)
  have c46 := sty_int hA 46 (by decide)
  have c47 := sty_int hA 47 (by decide)
  have c48 := sty_int hA 48 (by decide)
  have c49 := sty_int hA 49 (by decide)
  have c50 := sty_int hA 50 (by decide)
  have c51 := sty_int hA 51 (by decide)
  have c52 := sty_int hA 52 (by decide)
  have c53 := sty_int hA 53 (by decide)
  have c54 := sty_int hA 54 (by decide)
  have c55 := sty_int hA 55 (by decide)
  have c56 := sty_int hA 56 (by decide)
  have c57 := sty_int hA 57 (by decide)
  have HZ := Lib.hid hz
  have H9 := Lib.hid (setRow_heap _ _ _ (pCells f) _ _ hz)
  have B9 := Lib.hid (below_setRow bb (g := w.heap.size + 1) (by omega) (pCells f))
  clear hz hA bb
  go_enter Try.func114, Try.ntmps114
  go_wp2_with (first
    | (rw [← EU.out])
    | ((with_reducible apply list_store_parts (f := f)); exact rfl; exact rfl; exact rfl; exact rfl; (with_reducible exact HZ.out); exact rfl; simp only [World.size_alloc, Act.put, List.setIfInBounds_toArray, List.set_cons_succ, List.set_cons_zero]))
  exact bodyPost_ret (results_cell_row rfl _ _ _ _ _ _ _ rfl H9.out p_under rfl (p_size f)) rfl ⟨rfl, B9.out⟩
end Go.Proofs.Ytckpjldenkjddaa
end

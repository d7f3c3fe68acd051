/-
  The contracts of StyleNew and StyleLess (program and model). Conditions: none.
-/
import Derived.Test.YtjkdbaanknppbaaStyW
namespace Go.Proofs.Ytjkdbaanknppbaa
open Go.ChangeShapes Go.WideShapes Go.ChangeAt Go.RowKit
set_option linter.unusedSimpArgs false

/-- The new style. -/
def newF (i : Nat) : Int := if i = 0 ∨ i = 5 then 2 else if i = 1 ∨ i = 2 ∨ i = 3 then 1 else 0
/-- A style without its own place: neither apart nor hidden, no margin, no inset. -/
def lessF (f : Nat → Int) : Nat → Int := fun i => if i = 6 ∨ i = 7 ∨ 26 ≤ i ∧ i < 50 then 0 else f i
theorem less_less (f : Nat → Int) : lessF (lessF f) = lessF f := by
  funext i
  unfold lessF
  split <;> rfl
theorem zeros_at (n i : Nat) : (List.replicate n (0 : Int)).getD i 0 = 0 := by
  simp only [List.getD, List.getElem?_replicate]
  split <;> rfl
theorem less_upd (f : Nat → Int) : sCells (updL (updL (upd (upd f 6 0) 7 0) 26 (List.replicate 12 0)) 38 (List.replicate 12 0)) = sCells (lessF f) :=
  sCells_congr fun i hi => by
    rw [updL_at, updL_at]
    simp only [List.length_replicate, upd, lessF]
    by_cases h1 : 38 ≤ i ∧ i < 38 + 12
    · rw [if_pos h1, if_pos (by omega)]
      rw [zeros_at]
    · rw [if_neg h1]
      by_cases h2 : 26 ≤ i ∧ i < 26 + 12
      · rw [if_pos h2, if_pos (by omega)]
        rw [zeros_at]
      · rw [if_neg h2]
        by_cases h7 : i = 7
        · simp [h7]
        · by_cases h6 : i = 6
          · simp [h6]
          · rw [if_neg h7, if_neg h6, if_neg (by omega)]

theorem snew (w : World) :
    Calls Try.prog 18 #[] w fun e w' => e = .returned (.agg (sCells newF)) ∧ Below w.heap.size w w' := by
  go_enter Try.func18, Try.ntmps18
  have hz := Lib.hid (hp_new w (.cells (sCells fun _ => 0) 31))
  have h9 := Lib.hid (setRow_heap _ _ _ (sCells newF) _ _ (hp_new w (.cells (sCells fun _ => 0) 31)))
  have b9 := Lib.hid (below_setRow (Go.Joins.below_alloc1 w (.cells (sCells fun _ => 0) 31)) (g := w.heap.size) (Nat.le_refl _) (sCells newF))
  go_wp2_with (first
    | ((with_reducible apply list_alloc_sty); exact rfl; exact rfl; simp only [World.size_alloc, Act.put, List.setIfInBounds_toArray, List.set_cons_succ, List.set_cons_zero])
    | ((with_reducible apply list_build_sty (f := newF)); exact rfl; exact rfl; (kernel_rfl); simp only [Act.put, List.setIfInBounds_toArray, List.set_cons_succ, List.set_cons_zero])
    | ((with_reducible apply list_store_sty); exact rfl; exact rfl; exact rfl; exact rfl; (with_reducible exact hz.out); simp only [Act.put, List.setIfInBounds_toArray, List.set_cons_succ, List.set_cons_zero]))
  exact bodyPost_ret (results_sty rfl rfl h9.out) rfl ⟨rfl, b9.out⟩
theorem inew (w : World) :
    Calls Try.prog 12 #[] w fun e w' => e = .returned (.agg (sCells newF)) ∧ Below w.heap.size w w' := by
  go_enter Try.func12, Try.ntmps12
  have hz := Lib.hid (hp_new w (.cells (sCells fun _ => 0) 31))
  have h9 := Lib.hid (setRow_heap _ _ _ (sCells newF) _ _ (hp_new w (.cells (sCells fun _ => 0) 31)))
  have b9 := Lib.hid (below_setRow (Go.Joins.below_alloc1 w (.cells (sCells fun _ => 0) 31)) (g := w.heap.size) (Nat.le_refl _) (sCells newF))
  go_wp2_with (first
    | ((with_reducible apply list_alloc_sty); exact rfl; exact rfl; simp only [World.size_alloc, Act.put, List.setIfInBounds_toArray, List.set_cons_succ, List.set_cons_zero])
    | ((with_reducible apply list_build_sty (f := newF)); exact rfl; exact rfl; (kernel_rfl); simp only [Act.put, List.setIfInBounds_toArray, List.set_cons_succ, List.set_cons_zero])
    | ((with_reducible apply list_store_sty); exact rfl; exact rfl; exact rfl; exact rfl; (with_reducible exact hz.out); simp only [Act.put, List.setIfInBounds_toArray, List.set_cons_succ, List.set_cons_zero]))
  exact bodyPost_ret (results_sty rfl rfl h9.out) rfl ⟨rfl, b9.out⟩
theorem sless (f : Nat → Int) (w : World) :
    Calls Try.prog 21 #[.agg (sCells f)] w fun e w' => e = .returned (.agg (sCells (lessF f))) ∧ Below w.heap.size w w' := by
  have h0 := hp_on (hp_new w (.cells (sCells f) 31)) (.cells (sCells fun _ => 0) 31)
  have hz := hp_new (w.alloc (.cells (sCells f) 31)) (.cells (sCells fun _ => 0) 31)
  have bb := Go.Joins.below_alloc2 w (.cells (sCells f) 31) (.cells (sCells fun _ => 0) 31)
  simp only [World.size_alloc] at h0 hz
  obtain ⟨u, eu⟩ : ∃ u, u = (w.alloc (.cells (sCells f) 31)).alloc (.cells (sCells fun _ => 0) 31) := ⟨_, rfl⟩
  rw [← eu] at h0 hz bb
  have EU := Lib.hid eu
  clear eu
  obtain ⟨zs, ez⟩ : ∃ zs : List Int, zs = List.replicate 12 0 := ⟨_, rfl⟩
  have hl : zs.length = 12 := by rw [ez]; rfl
  have HY : Hid ((.agg (.int .i64 0 :: .int .i64 0 :: .int .i64 0 :: .int .i64 0 :: .int .i64 0 :: .int .i64 0 :: .int .i64 0 :: .int .i64 0 :: .int .i64 0 :: .int .i64 0 :: .int .i64 0 :: .int .i64 0 :: []).toArray : Value) = .agg (zs.map (Value.int .i64)).toArray) := Lib.hid (by rw [ez]; rfl)
  have HI : Hid ((Try.prog.info? 27).map (·.size) = some zs.length) := Lib.hid (by rw [hl]; kernel_rfl)
  have HL26 : Hid (26 + zs.length ≤ 60) := Lib.hid (by omega)
  have HL38 : Hid (38 + zs.length ≤ 60) := Lib.hid (by omega)
  have c6 := sty_bool h0 6 (by decide)
  have c7 := sty_bool h0 7 (by decide)
  have F6 := sty_free h0 6
  have F7 := sty_free h0 7
  have h2 := sty_put (sty_put h0 6 0 (.bool false) (by decide) rfl) 7 0 (.bool false) (by decide) rfl
  have h3 := sty_puts zs 26 _ _ h2 (by decide) (by omega)
  have h4 := sty_puts zs 38 _ _ h3 (by decide) (by omega)
  have z4 := hp_cells (show w.heap.size + 1 ≠ w.heap.size by omega) (zs.map (Value.int .i64)) 38 _ (hp_cells (show w.heap.size + 1 ≠ w.heap.size by omega) (zs.map (Value.int .i64)) 26 _ (hp_set (hp_set hz (show w.heap.size + 1 ≠ w.heap.size by omega) 6 (.bool false)) (show w.heap.size + 1 ≠ w.heap.size by omega) 7 (.bool false)))
  have b4 := below_cells (Nat.le_refl w.heap.size) (zs.map (Value.int .i64)) 38 _ (below_cells (Nat.le_refl w.heap.size) (zs.map (Value.int .i64)) 26 _ (bl_set (bl_set bb (g := w.heap.size) 6 (Nat.le_refl _) (.bool false)) (g := w.heap.size) 7 (Nat.le_refl _) (.bool false)))
  have H9 := Lib.hid (setRow_heap _ _ _ (sCells (updL (updL (upd (upd f 6 0) 7 0) 26 zs) 38 zs)) _ _ z4)
  have B9 := Lib.hid (below_setRow b4 (g := w.heap.size + 1) (by omega) (sCells (updL (updL (upd (upd f 6 0) 7 0) 26 zs) 38 zs)))
  have H2 := Lib.hid h2
  have H3 := Lib.hid h3
  have H4 := Lib.hid h4
  have Z4 := Lib.hid z4
  have EZ := Lib.hid ez
  clear h0 hz bb hl h2 h3 h4 z4 b4 ez
  go_enter Try.func21, Try.ntmps21
  go_wp2_with (first
    | (rw [← EU.out])
    | ((with_reducible apply list_alloc_sty); exact rfl; exact rfl; simp only [World.size_alloc, Act.put, List.setIfInBounds_toArray, List.set_cons_succ, List.set_cons_zero])
    | ((with_reducible apply list_store_ints zs 26); exact rfl; exact rfl; exact rfl; exact HY.out; exact HI.out; exact HL26.out; (with_reducible exact H2.out); simp only [Act.put, List.setIfInBounds_toArray, List.set_cons_succ, List.set_cons_zero])
    | ((with_reducible apply list_store_ints zs 38); exact rfl; exact rfl; exact rfl; exact HY.out; exact HI.out; exact HL38.out; (with_reducible exact H3.out); simp only [Act.put, List.setIfInBounds_toArray, List.set_cons_succ, List.set_cons_zero])
    | ((with_reducible apply list_load_sty); exact rfl; exact rfl; exact rfl; (with_reducible exact H4.out); simp only [Act.put, List.setIfInBounds_toArray, List.set_cons_succ, List.set_cons_zero])
    | ((with_reducible apply list_store_sty); exact rfl; exact rfl; exact rfl; exact rfl; (with_reducible exact Z4.out); simp only [Act.put, List.setIfInBounds_toArray, List.set_cons_succ, List.set_cons_zero]))
  rw [← less_upd, ← EZ.out]
  exact bodyPost_ret (results_sty rfl rfl H9.out) rfl ⟨rfl, B9.out⟩
theorem iless (f : Nat → Int) (w : World) :
    Calls Try.prog 14 #[.agg (sCells f)] w fun e w' => e = .returned (.agg (sCells (lessF f))) ∧ Below w.heap.size w w' := by
  have h0 := hp_on (hp_new w (.cells (sCells f) 31)) (.cells (sCells fun _ => 0) 31)
  have hz := hp_new (w.alloc (.cells (sCells f) 31)) (.cells (sCells fun _ => 0) 31)
  have bb := Go.Joins.below_alloc2 w (.cells (sCells f) 31) (.cells (sCells fun _ => 0) 31)
  simp only [World.size_alloc] at h0 hz
  obtain ⟨u, eu⟩ : ∃ u, u = (w.alloc (.cells (sCells f) 31)).alloc (.cells (sCells fun _ => 0) 31) := ⟨_, rfl⟩
  rw [← eu] at h0 hz bb
  have EU := Lib.hid eu
  clear eu
  obtain ⟨zs, ez⟩ : ∃ zs : List Int, zs = List.replicate 12 0 := ⟨_, rfl⟩
  have hl : zs.length = 12 := by rw [ez]; rfl
  have HY : Hid ((.agg (.int .i64 0 :: .int .i64 0 :: .int .i64 0 :: .int .i64 0 :: .int .i64 0 :: .int .i64 0 :: .int .i64 0 :: .int .i64 0 :: .int .i64 0 :: .int .i64 0 :: .int .i64 0 :: .int .i64 0 :: []).toArray : Value) = .agg (zs.map (Value.int .i64)).toArray) := Lib.hid (by rw [ez]; rfl)
  have HI : Hid ((Try.prog.info? 27).map (·.size) = some zs.length) := Lib.hid (by rw [hl]; kernel_rfl)
  have HL26 : Hid (26 + zs.length ≤ 60) := Lib.hid (by omega)
  have HL38 : Hid (38 + zs.length ≤ 60) := Lib.hid (by omega)
  have c6 := sty_bool h0 6 (by decide)
  have c7 := sty_bool h0 7 (by decide)
  have F6 := sty_free h0 6
  have F7 := sty_free h0 7
  have h2 := sty_put (sty_put h0 6 0 (.bool false) (by decide) rfl) 7 0 (.bool false) (by decide) rfl
  have h3 := sty_puts zs 26 _ _ h2 (by decide) (by omega)
  have h4 := sty_puts zs 38 _ _ h3 (by decide) (by omega)
  have z4 := hp_cells (show w.heap.size + 1 ≠ w.heap.size by omega) (zs.map (Value.int .i64)) 38 _ (hp_cells (show w.heap.size + 1 ≠ w.heap.size by omega) (zs.map (Value.int .i64)) 26 _ (hp_set (hp_set hz (show w.heap.size + 1 ≠ w.heap.size by omega) 6 (.bool false)) (show w.heap.size + 1 ≠ w.heap.size by omega) 7 (.bool false)))
  have b4 := below_cells (Nat.le_refl w.heap.size) (zs.map (Value.int .i64)) 38 _ (below_cells (Nat.le_refl w.heap.size) (zs.map (Value.int .i64)) 26 _ (bl_set (bl_set bb (g := w.heap.size) 6 (Nat.le_refl _) (.bool false)) (g := w.heap.size) 7 (Nat.le_refl _) (.bool false)))
  have H9 := Lib.hid (setRow_heap _ _ _ (sCells (updL (updL (upd (upd f 6 0) 7 0) 26 zs) 38 zs)) _ _ z4)
  have B9 := Lib.hid (below_setRow b4 (g := w.heap.size + 1) (by omega) (sCells (updL (updL (upd (upd f 6 0) 7 0) 26 zs) 38 zs)))
  have H2 := Lib.hid h2
  have H3 := Lib.hid h3
  have H4 := Lib.hid h4
  have Z4 := Lib.hid z4
  have EZ := Lib.hid ez
  clear h0 hz bb hl h2 h3 h4 z4 b4 ez
  go_enter Try.func14, Try.ntmps14
  go_wp2_with (first
    | (rw [← EU.out])
    | ((with_reducible apply list_alloc_sty); exact rfl; exact rfl; simp only [World.size_alloc, Act.put, List.setIfInBounds_toArray, List.set_cons_succ, List.set_cons_zero])
    | ((with_reducible apply list_store_ints zs 26); exact rfl; exact rfl; exact rfl; exact HY.out; exact HI.out; exact HL26.out; (with_reducible exact H2.out); simp only [Act.put, List.setIfInBounds_toArray, List.set_cons_succ, List.set_cons_zero])
    | ((with_reducible apply list_store_ints zs 38); exact rfl; exact rfl; exact rfl; exact HY.out; exact HI.out; exact HL38.out; (with_reducible exact H3.out); simp only [Act.put, List.setIfInBounds_toArray, List.set_cons_succ, List.set_cons_zero])
    | ((with_reducible apply list_load_sty); exact rfl; exact rfl; exact rfl; (with_reducible exact H4.out); simp only [Act.put, List.setIfInBounds_toArray, List.set_cons_succ, List.set_cons_zero])
    | ((with_reducible apply list_store_sty); exact rfl; exact rfl; exact rfl; exact rfl; (with_reducible exact Z4.out); simp only [Act.put, List.setIfInBounds_toArray, List.set_cons_succ, List.set_cons_zero]))
  rw [← less_upd, ← EZ.out]
  exact bodyPost_ret (results_sty rfl rfl H9.out) rfl ⟨rfl, B9.out⟩
end Go.Proofs.Ytjkdbaanknppbaa

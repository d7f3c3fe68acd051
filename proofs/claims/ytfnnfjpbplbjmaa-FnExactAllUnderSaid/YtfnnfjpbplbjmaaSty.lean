/-
  A style as a function from the cell's number to an int (the two Bools are cells 6 and 7): its cells, one cell read, one cell turned, the whole read and written in one step, the argument opened. Conditions: none.
-/
import Derived.Test.YtfnnfjpbplbjmaaOpen
import Derived.Deep.MidRow
namespace Go.Proofs.Ytfnnfjpbplbjmaa
open Go.ChangeShapes Go.WideShapes Go.ChangeAt Go.RowKit

/-- The Bool that an int stands for. -/
def bz (z : Int) : Bool := !decide (z = 0)
/-- Cell number i of a style. -/
def sCell (i : Nat) (z : Int) : Value := if i = 6 ∨ i = 7 then .bool (bz z) else .int .i64 z
/-- The cells of a style. -/
def sCells (f : Nat → Int) : Array Value := ((List.range 60).map fun i => sCell i (f i)).toArray
theorem sCells_size (f : Nat → Int) : (sCells f).size = 60 := by simp [sCells]
theorem sCells_get (f : Nat → Int) {i : Nat} (h : i < 60) : (sCells f)[i]? = some (sCell i (f i)) := by simp [sCells, h]
theorem sCells_ext {cs : Array Value} {f : Nat → Int} (hs : cs.size = 60) (h : ∀ i, i < 60 → cs[i]? = some (sCell i (f i))) : cs = sCells f := by
  apply Array.ext_getElem?
  intro i
  by_cases hi : i < 60
  · rw [h i hi, sCells_get f hi]
  · rw [Array.getElem?_eq_none (by omega), Array.getElem?_eq_none (by rw [sCells_size]; omega)]
theorem sCells_congr {f g : Nat → Int} (h : ∀ i, i < 60 → f i = g i) : sCells f = sCells g := sCells_ext (sCells_size f) fun i hi => by rw [sCells_get f hi, h i hi]
theorem sCell_int {i : Nat} (z : Int) (h : i ≠ 6 ∧ i ≠ 7) : sCell i z = .int .i64 z := by simp [sCell, h.1, h.2]
theorem sCell_one (i : Nat) (z : Int) : (sCell i z).oneCell' = true := by unfold sCell; split <;> rfl
theorem sCells_one (f : Nat → Int) : (sCells f).all (·.oneCell') = true := by
  simp only [sCells, List.all_toArray, List.all_map, List.all_eq_true]
  intro i _
  exact sCell_one i _
/-- One cell turned. -/
def upd (f : Nat → Int) (k : Nat) (z : Int) : Nat → Int := fun i => if i = k then z else f i
theorem sCells_set (f : Nat → Int) {k : Nat} (h : k < 60) (z : Int) : (sCells f).setIfInBounds k (sCell k z) = sCells (upd f k z) :=
  sCells_ext (by simp [sCells_size]) fun i hi => by
    rw [Array.getElem?_setIfInBounds]
    by_cases e : k = i
    · subst e; simp [sCells_size, h, upd]
    · rw [if_neg e, sCells_get f hi]; simp [upd, Ne.symm e]
/-- The first k cells of f, zero behind. -/
def cut (f : Nat → Int) (k : Nat) : Nat → Int := fun i => if i < k then f i else 0
theorem upd_cut (f : Nat → Int) (k : Nat) : upd (cut f k) k (f k) = cut f (k + 1) := by
  funext i
  simp only [upd, cut]
  by_cases e : i = k
  · subst e; simp
  · simp only [e, if_false]
    by_cases h : i < k
    · simp [h, Nat.lt_succ_of_lt h]
    · have : ¬ i < k + 1 := by omega
      simp [h, this]
theorem cut_all (f : Nat → Int) : sCells (cut f 60) = sCells f := sCells_congr fun i hi => by simp [cut, hi]

/-- Every cell is an int of 64 bits. -/
def InR (f : Nat → Int) : Prop := ∀ i, -9223372036854775808 ≤ f i ∧ f i ≤ 9223372036854775807

/-! A block that holds a style. -/
section
variable {w : World} {g : Nat} {t : TypeId} {f : Nat → Int}
theorem sty_cell (h : w.heap[g]? = some (.cells (sCells f) t)) (i : Nat) (hi : i < 60) : w.cell? ⟨g, i, none⟩ = some (sCell i (f i)) := (Go.Joins.cell_of_block h i).trans (sCells_get f hi)
theorem sty_int (h : w.heap[g]? = some (.cells (sCells f) t)) (i : Nat) (hi : i < 60 ∧ i ≠ 6 ∧ i ≠ 7) : w.cell? ⟨g, i, none⟩ = some (.int .i64 (f i)) := (sty_cell h i hi.1).trans (congrArg some (sCell_int _ hi.2))
theorem sty_bool (h : w.heap[g]? = some (.cells (sCells f) t)) (i : Nat) (hi : i = 6 ∨ i = 7) : w.cell? ⟨g, i, none⟩ = some (.bool (bz (f i))) := (sty_cell h i (by omega)).trans (by simp [sCell, hi])
theorem sty_put (h : w.heap[g]? = some (.cells (sCells f) t)) (k : Nat) (z : Int) (v : Value) (hk : k < 60) (hv : sCell k z = v) : (w.setCell ⟨g, k, none⟩ v).heap[g]? = some (.cells (sCells (upd f k z)) t) := by
  subst hv
  rw [← sCells_set f hk z]
  exact Go.Joins.block_setCell h _
theorem sty_step {k : Nat} (h : w.heap[g]? = some (.cells (sCells (cut f k)) t)) (v : Value) (hk : k < 60) (hv : sCell k (f k) = v) : (w.setCell ⟨g, k, none⟩ v).heap[g]? = some (.cells (sCells (cut f (k + 1))) t) := by
  rw [← upd_cut]
  exact sty_put h k (f k) v hk hv
theorem sty_free (h : w.heap[g]? = some (.cells (sCells f) t)) (i : Nat) : w.frozen? ⟨g, i, none⟩ = false := Go.Joins.unfrozen_of_block h i
end

/-! The whole, in one step. -/
theorem sty_size (f : Nat → Int) : (Try.prog.info? 41).map (·.size) = some (sCells f).size := by rw [sCells_size]; kernel_rfl
theorem sty_under : Try.prog.underlying 41 = some (.struct (Try.prog.fieldsOf 41)) := by kernel_rfl
theorem load_sty {w : World} {g : Nat} {t : TypeId} {f : Nat → Int} (h : w.heap[g]? = some (.cells (sCells f) t)) : (loadVar 41 ⟨g, 0, none⟩).run Try.prog w = .ok (.agg (sCells f)) w :=
  run_loadVar_row w g t _ _ _ _ h sty_under rfl (sty_size f)
section
variable {ops : Array Oper} {rest : List Oper} {op : Oper} {a : Act} {w : World} {Q : Exit → Act → World → Prop} {g : Nat} {t : TypeId} {f : Nat → Int}
theorem list_load_sty (hgd : op.guard = none) (x : Operand) (ho : op.op = .load 41 x) (hx : a.eval x = .pointer (some ⟨g, 0, none⟩)) (hg : w.heap[g]? = some (.cells (sCells f) t))
    (h : wpList Try.prog ops Q rest (a.put op.dst (.agg (sCells f))) w) : wpList Try.prog ops Q (op :: rest) a w :=
  wpList_load_row hgd _ x ho g hx t _ _ _ hg sty_under rfl (sty_size f) h
theorem list_store_sty {f' : Nat → Int} (hgd : op.guard = none) (x y : Operand) (ho : op.op = .store 41 x y) (hx : a.eval x = .pointer (some ⟨g, 0, none⟩)) (hy : a.eval y = .agg (sCells f)) (hg : w.heap[g]? = some (.cells (sCells f') t))
    (h : wpList Try.prog ops Q rest (a.put op.dst undef) (w.setRow g (sCells f))) : wpList Try.prog ops Q (op :: rest) a w :=
  wpList_store_row hgd _ x y ho g _ hx hy t _ hg (sty_size f) (by rw [sCells_size, sCells_size]) (sCells_one f) h
end
theorem below_setRow {B : Nat} {a w : World} (h : Below B a w) {g : Nat} (hg : B ≤ g) (cs : Array Value) : Below B a (w.setRow g cs) :=
  ⟨h.os, h.tape, h.output, by rw [setRow_size]; exact h.size, fun k hk => by rw [setRow_other w g k cs (by omega)]; exact h.block k hk⟩
theorem hp_row {w : World} {g g' : Nat} {o : Obj} (h : w.heap[g]? = some o) (hne : g ≠ g') (cs : Array Value) : (w.setRow g' cs).heap[g]? = some o := (setRow_other w g' g cs hne).trans h
/-- The answer that lies in a cell of its own. -/
theorem results_sty {fn : Func} {p : Tmp} (h : fn.results = #[.cell p 41]) {tmps : Array Value} {w : World} {g : Nat} {t : TypeId} {f : Nat → Int} (hp : tmps.getD p undef = .pointer (some ⟨g, 0, none⟩)) (hg : w.heap[g]? = some (.cells (sCells f) t)) :
    (results fn tmps).run Try.prog w = .ok (.agg (sCells f)) w := results_cell_row h tmps w g t _ _ _ hp hg sty_under rfl (sty_size f)
/-- Nothing but zeros. -/
theorem zero_sty : (.int .i64 0 :: .int .i64 0 :: .int .i64 0 :: .int .i64 0 :: .int .i64 0 :: .int .i64 0 :: .bool false :: .bool false :: .int .i64 0 :: .int .i64 0 :: .int .i64 0 :: .int .i64 0 :: .int .i64 0 :: .int .i64 0 :: .int .i64 0 :: .int .i64 0 :: .int .i64 0 :: .int .i64 0 :: .int .i64 0 :: .int .i64 0 :: .int .i64 0 :: .int .i64 0 :: .int .i64 0 :: .int .i64 0 :: .int .i64 0 :: .int .i64 0 :: .int .i64 0 :: .int .i64 0 :: .int .i64 0 :: .int .i64 0 :: .int .i64 0 :: .int .i64 0 :: .int .i64 0 :: .int .i64 0 :: .int .i64 0 :: .int .i64 0 :: .int .i64 0 :: .int .i64 0 :: .int .i64 0 :: .int .i64 0 :: .int .i64 0 :: .int .i64 0 :: .int .i64 0 :: .int .i64 0 :: .int .i64 0 :: .int .i64 0 :: .int .i64 0 :: .int .i64 0 :: .int .i64 0 :: .int .i64 0 :: .int .i64 0 :: .int .i64 0 :: .int .i64 0 :: .int .i64 0 :: .int .i64 0 :: .int .i64 0 :: .int .i64 0 :: .int .i64 0 :: .int .i64 0 :: .int .i64 0 :: [] : List Value).toArray = sCells (fun _ => 0) := by rfl
theorem cut_zero (f : Nat → Int) : (fun _ => 0) = cut f 0 := by funext i; simp [cut]

/-! An argument of the type. -/
theorem sty_cells {P : Program} {w : World} {r : Reach} {base : Nat} {i : Nat} {u : TypeId} {v : Value} (hu : P.underlying u = some (if i = 6 ∨ i = 7 then .bool else .int .i64)) (h : Cell.okWide P w r base u v) :
    ∃ z, v = sCell i z ∧ (-9223372036854775808 ≤ z ∧ z ≤ 9223372036854775807) ∧ (i = 6 ∨ i = 7 → z = 0 ∨ z = 1) := by
  by_cases hi : i = 6 ∨ i = 7
  · rw [if_pos hi] at hu
    unfold Cell.okWide at h
    rw [hu] at h
    simp only at h
    unfold Cell.ok at h
    rw [hu] at h
    cases v with
    | bool b => exact ⟨if b then 1 else 0, by cases b <;> simp [sCell, hi, bz], by cases b <;> simp, fun _ => by cases b <;> simp⟩
    | _ => exact h.elim
  · rw [if_neg hi] at hu
    obtain ⟨n, rfl, h0, h1⟩ := int_cell hu h
    exact ⟨n, by simp [sCell, hi], ⟨h0, h1⟩, fun e => absurd e hi⟩
theorem open_sty {P : Program} {w : World} {r : Reach} {base : Nat} {t : TypeId} {fs : Array Field} {ts : List TypeId} {v : Value} (hs : P.underlying t = some (.struct fs)) (hts : P.cellTypes P.depth t = some ts) (hl : ts.length = 60) (hn : P.cellsOf t = 60)
    (hk : ∀ i u, ts[i]? = some u → P.underlying u = some (if i = 6 ∨ i = 7 then .bool else .int .i64)) (h : Value.okWide P w r base t v) :
    ∃ f : Nat → Int, v = .agg (sCells f) ∧ InR f ∧ ∀ i, i = 6 ∨ i = 7 → f i = 0 ∨ f i = 1 := by
  unfold Value.okWide at h
  rw [hs] at h
  obtain ⟨cs, rfl, hsz, ts', hts', _, hc⟩ := h
  obtain rfl : ts = ts' := Option.some.inj (hts.symm.trans hts')
  have hsz' : cs.size = 60 := hsz.trans hn
  have key : ∀ i : Nat, ∃ z : Int, (i < 60 → cs[i]? = some (sCell i z)) ∧ (-9223372036854775808 ≤ z ∧ z ≤ 9223372036854775807) ∧ (i = 6 ∨ i = 7 → z = 0 ∨ z = 1) := by
    intro i
    by_cases hi : i < 60
    · have hv : cs[i]? = some cs[i] := Array.getElem?_eq_getElem (by omega)
      obtain ⟨u, hu, hok⟩ := hc i cs[i] hv
      rw [hl, Nat.mod_eq_of_lt hi] at hu
      obtain ⟨z, e, hr, hb⟩ := sty_cells (hk i u hu) hok
      exact ⟨z, fun _ => by rw [hv, e], hr, hb⟩
    · exact ⟨0, fun h => absurd h hi, by omega, fun _ => Or.inl rfl⟩
  obtain ⟨f, hf⟩ := Classical.axiomOfChoice key
  exact ⟨f, by rw [sCells_ext hsz' fun i hi => (hf i).1 hi], fun i => (hf i).2.1, fun i hi => (hf i).2.2 hi⟩
set_option maxRecDepth 8000 in
theorem open_laws_sty {w : World} {r : Reach} {base : Nat} {v : Value} (h : Value.okWide Try.prog w r base 154 v) :
    ∃ f : Nat → Int, v = .agg (sCells f) ∧ InR f ∧ ∀ i, i = 6 ∨ i = 7 → f i = 0 ∨ f i = 1 := by
  have u3 := Try.underlying3
  have u4 := Try.underlying4
  refine open_sty (ts := List.replicate 6 3 ++ List.replicate 2 4 ++ List.replicate 52 3) Try.underlying154 (by kernel_rfl) (by simp) (by kernel_rfl) (fun i u hu => ?_) h
  have hlt : i < 60 := by
    have := (List.getElem?_eq_some_iff.1 hu).1
    simpa using this
  by_cases h6 : i < 6
  · have : u = 3 := by
      rw [List.append_assoc, List.getElem?_append_left (by simpa using h6), List.getElem?_replicate] at hu
      simp [h6] at hu
      exact hu.symm
    subst this
    rw [u3, if_neg (by omega)]
  · by_cases h8 : i < 8
    · have : u = 4 := by
        rw [List.append_assoc, List.getElem?_append_right (by simp; omega), List.getElem?_append_left (by simp; omega), List.getElem?_replicate] at hu
        simp at hu
        exact hu.2.symm
      subst this
      rw [u4, if_pos (by omega)]
    · have : u = 3 := by
        rw [List.getElem?_append_right (by simp; omega), List.getElem?_replicate] at hu
        simp at hu
        exact hu.2.symm
      subst this
      rw [u3, if_neg (by omega)]
end Go.Proofs.Ytfnnfjpbplbjmaa

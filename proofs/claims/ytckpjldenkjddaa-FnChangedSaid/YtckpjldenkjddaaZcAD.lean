import Derived.Deep.MidRow
import Derived.Lib.QuietBelow
import Derived.BigQuiet
import Derived.Test.YtckpjldenkjddaaZcAC
section
namespace Go.Proofs.Ytckpjldenkjddaa
open Go.ChangeShapes Go.WideShapes Go.ChangeAt Go.RowKit

/-- The Bool that an int stands for. -/
def bz (z : Int) : Bool := !decide (z = 0)
/-- Cell number i of a style. -/
def sCell (i : Nat) (z : Int) : Value := if i = 6 ∨ i = 7 then .bool (bz z) else .int .i64 z
/-- The cells of a style. -/
def sCells (f : Nat → Int) : Array Value := ((List.range 60).map fun i => sCell i (f i)).toArray
theorem sCells_size (f : Nat → Int) : (sCells f).size = 60 := by simp [sCells]
theorem sCells_get (f : Nat → Int) {i : Nat} (h : i < 60) : (sCells f)[i]? = some (sCell i (f i)) := by simp [sCells, h]
theorem sCells_ext {cs : Array Value} {f : Nat → Int} (hs : cs.size = 60) (h : ∀ i, i < 60 → cs[i]? = some (sCell i (f i))) : cs = sCells f := by
  apply Array.ext_getElem?
  intro i
  by_cases hi : i < 60
  · rw [h i hi, sCells_get f hi]
  · rw [Array.getElem?_eq_none (by omega), Array.getElem?_eq_none (by rw [sCells_size]; omega)]
theorem sCell_int {i : Nat} (z : Int) (h : i ≠ 6 ∧ i ≠ 7) : sCell i z = .int .i64 z := by simp [sCell, h.1, h.2]
theorem sCell_one (i : Nat) (z : Int) : (sCell i z).oneCell' = true := by unfold sCell; split <;> rfl
theorem sCells_one (f : Nat → Int) : (sCells f).all (·.oneCell') = true := by
  simp only [sCells, List.all_toArray, List.all_map, List.all_eq_true]
  intro i _
  exact sCell_one i _
/-- One cell turned. -/
def upd (f : Nat → Int) (k : Nat) (z : Int) : Nat → Int := fun i => if i = k then z else f i
theorem sCells_set (f : Nat → Int) {k : Nat} (h : k < 60) (z : Int) : (sCells f).setIfInBounds k (sCell k z) = sCells (upd f k z) :=
  sCells_ext (by simp [sCells_size]) fun i hi => by
    rw [Array.getElem?_setIfInBounds]
    by_cases e : k = i
    · subst e; simp [sCells_size, h, upd]
    · rw [if_neg e, sCells_get f hi]; simp [upd, Ne.symm e]
/-- The first k cells of f, zero behind. -/
def cut (f : Nat → Int) (k : Nat) : Nat → Int := fun i => if i < k then f i else 0
/-- Every cell is an int of 64 bits. -/
def InR (f : Nat → Int) : Prop := ∀ i, -9223372036854775808 ≤ f i ∧ f i ≤ 9223372036854775807

section
variable {w : World} {g : Nat} {t : TypeId} {f : Nat → Int}
theorem sty_cell (h : w.heap[g]? = some (.cells (sCells f) t)) (i : Nat) (hi : i < 60) : w.cell? ⟨g, i, none⟩ = some (sCell i (f i)) := (Go.Joins.cell_of_block h i).trans (sCells_get f hi)
theorem sty_int (h : w.heap[g]? = some (.cells (sCells f) t)) (i : Nat) (hi : i < 60 ∧ i ≠ 6 ∧ i ≠ 7) : w.cell? ⟨g, i, none⟩ = some (.int .i64 (f i)) := (sty_cell h i hi.1).trans (congrArg some (sCell_int _ hi.2))
theorem sty_put (h : w.heap[g]? = some (.cells (sCells f) t)) (k : Nat) (z : Int) (v : Value) (hk : k < 60) (hv : sCell k z = v) : (w.setCell ⟨g, k, none⟩ v).heap[g]? = some (.cells (sCells (upd f k z)) t) := by
  subst hv
  rw [← sCells_set f hk z]
  exact Go.Joins.block_setCell h _
theorem sty_free (h : w.heap[g]? = some (.cells (sCells f) t)) (i : Nat) : w.frozen? ⟨g, i, none⟩ = false := Go.Joins.unfrozen_of_block h i
end

theorem sty_size (f : Nat → Int) : (Try.prog.info? 41).map (·.size) = some (sCells f).size := by rw [sCells_size]; kernel_rfl
theorem sty_under : Try.prog.underlying 41 = some (.struct (Try.prog.fieldsOf 41)) := by kernel_rfl
theorem load_sty {w : World} {g : Nat} {t : TypeId} {f : Nat → Int} (h : w.heap[g]? = some (.cells (sCells f) t)) : (loadVar 41 ⟨g, 0, none⟩).run Try.prog w = .ok (.agg (sCells f)) w :=
  run_loadVar_row w g t _ _ _ _ h sty_under rfl (sty_size f)
section
variable {ops : Array Oper} {rest : List Oper} {op : Oper} {a : Act} {w : World} {Q : Exit → Act → World → Prop} {g : Nat} {t : TypeId} {f : Nat → Int}
theorem list_load_sty (hgd : op.guard = none) (x : Operand) (ho : op.op = .load 41 x) (hx : a.eval x = .pointer (some ⟨g, 0, none⟩)) (hg : w.heap[g]? = some (.cells (sCells f) t))
    (h : wpList Try.prog ops Q rest (a.put op.dst (.agg (sCells f))) w) : wpList Try.prog ops Q (op :: rest) a w :=
  wpList_load_row hgd _ x ho g hx t _ _ _ hg sty_under rfl (sty_size f) h
theorem list_store_sty {f' : Nat → Int} (hgd : op.guard = none) (x y : Operand) (ho : op.op = .store 41 x y) (hx : a.eval x = .pointer (some ⟨g, 0, none⟩)) (hy : a.eval y = .agg (sCells f)) (hg : w.heap[g]? = some (.cells (sCells f') t))
    (h : wpList Try.prog ops Q rest (a.put op.dst undef) (w.setRow g (sCells f))) : wpList Try.prog ops Q (op :: rest) a w :=
  wpList_store_row hgd _ x y ho g _ hx hy t _ hg (sty_size f) (by rw [sCells_size, sCells_size]) (sCells_one f) h
end
theorem below_setRow {B : Nat} {a w : World} (h : Below B a w) {g : Nat} (hg : B ≤ g) (cs : Array Value) : Below B a (w.setRow g cs) :=
  ⟨h.os, h.tape, h.output, by rw [setRow_size]; exact h.size, fun k hk => by rw [setRow_other w g k cs (by omega)]; exact h.block k hk⟩
theorem hp_row {w : World} {g g' : Nat} {o : Obj} (h : w.heap[g]? = some o) (hne : g ≠ g') (cs : Array Value) : (w.setRow g' cs).heap[g]? = some o := (setRow_other w g' g cs hne).trans h
/-- The answer that lies in a cell of its own. -/
theorem results_sty {fn : Func} {p : Tmp} (h : fn.results = #[.cell p 41]) {tmps : Array Value} {w : World} {g : Nat} {t : TypeId} {f : Nat → Int} (hp : tmps.getD p undef = .pointer (some ⟨g, 0, none⟩)) (hg : w.heap[g]? = some (.cells (sCells f) t)) :
    (results fn tmps).run Try.prog w = .ok (.agg (sCells f)) w := results_cell_row h tmps w g t _ _ _ hp hg sty_under rfl (sty_size f)
/-- Nothing but zeros. -/
theorem zero_sty : (.int .i64 0 :: .int .i64 0 :: .int .i64 0 :: .int .i64 0 :: .int .i64 0 :: .int .i64 0 :: .bool false :: .bool false :: .int .i64 0 :: .int .i64 0 :: .int .i64 0 :: .int .i64 0 :: .int .i64 0 :: .int .i64 0 :: .int .i64 0 :: .int .i64 0 :: .int .i64 0 :: .int .i64 0 :: .int .i64 0 :: .int .i64 0 :: .int .i64 0 :: .int .i64 0 :: .int .i64 0 :: .int .i64 0 :: .int .i64 0 :: .int .i64 0 :: .int .i64 0 :: .int .i64 0 :: .int .i64 0 :: .int .i64 0 :: .int .i64 0 :: .int .i64 0 :: .int .i64 0 :: .int .i64 0 :: .int .i64 0 :: .int .i64 0 :: .int .i64 0 :: .int .i64 0 :: .int .i64 0 :: .int .i64 0 :: .int .i64 0 :: .int .i64 0 :: .int .i64 0 :: .int .i64 0 :: .int .i64 0 :: .int .i64 0 :: .int .i64 0 :: .int .i64 0 :: .int .i64 0 :: .int .i64 0 :: .int .i64 0 :: .int .i64 0 :: .int .i64 0 :: .int .i64 0 :: .int .i64 0 :: .int .i64 0 :: .int .i64 0 :: .int .i64 0 :: .int .i64 0 :: .int .i64 0 :: [] : List Value).toArray = sCells (fun _ => 0) := by rfl
end Go.Proofs.Ytckpjldenkjddaa
end
section
namespace Go.Proofs.Ytckpjldenkjddaa
open Go.ChangeShapes Go.WideShapes Go.ChangeAt Go.RowKit
set_option linter.unusedVariables false

/-- The ints zs in the cells from o on. -/
def updL (f : Nat → Int) : Nat → List Int → (Nat → Int)
  | _, [] => f
  | o, z :: zs => updL (upd f o z) (o + 1) zs
theorem updL_at : ∀ (zs : List Int) (f : Nat → Int) (o i : Nat), updL f o zs i = if o ≤ i ∧ i < o + zs.length then zs.getD (i - o) 0 else f i
  | [], f, o, i => by rw [updL, if_neg (by simp only [List.length_nil]; omega)]
  | z :: zs, f, o, i => by
    rw [updL, updL_at zs]
    by_cases h1 : o + 1 ≤ i ∧ i < o + 1 + zs.length
    · have h2 : o ≤ i ∧ i < o + (z :: zs).length := by simp only [List.length_cons]; omega
      rw [if_pos h1, if_pos h2, show i - o = (i - (o + 1)) + 1 by omega, List.getD_cons_succ]
    · rw [if_neg h1]
      by_cases e : i = o
      · subst e; simp [upd]
      · have h2 : ¬ (o ≤ i ∧ i < o + (z :: zs).length) := by simp only [List.length_cons]; omega
        rw [if_neg h2]
        simp [upd, e]
section
variable {t : TypeId} {g : Nat}
theorem below_cells {B : Nat} {a : World} (hg : B ≤ g) : ∀ (vs : List Value) (o : Nat) (w : World), Below B a w → Below B a (w.setCells g o vs)
  | [], _, _, h => h
  | v :: vs, o, w, h => below_cells hg vs (o + 1) _ (bl_set h o hg v)
theorem sty_there {w : World} {f : Nat → Int} (h : w.heap[g]? = some (.cells (sCells f) t)) (o n : Nat) (hn : o + n ≤ 60) : w.there g o n := fun j hj =>
  ⟨by rw [sty_cell h (o + j) (by omega)]; rfl, sty_free h _⟩
theorem ints_one (zs : List Int) : ((zs.map (Value.int .i64)).toArray).all (·.oneCell') = true := by
  simp only [List.all_toArray, List.all_map, List.all_eq_true]
  intro z _
  rfl
end
section
variable {ops : Array Oper} {rest : List Oper} {op : Oper} {a : Act} {w : World} {Q : Exit → Act → World → Prop} {g : Nat} {t : TypeId} {f : Nat → Int}
theorem list_store_ints (zs : List Int) (o : Nat) {ty : TypeId} (hgd : op.guard = none) {x y : Operand} (ho : op.op = .store ty x y) (hx : a.eval x = .pointer (some ⟨g, o, none⟩)) (hy : a.eval y = .agg (zs.map (Value.int .i64)).toArray)
    (hi : (Try.prog.info? ty).map (·.size) = some zs.length) (hl : o + zs.length ≤ 60) (hg : w.heap[g]? = some (.cells (sCells f) t))
    (h : wpList Try.prog ops Q rest (a.put op.dst undef) (w.setCells g o (zs.map (Value.int .i64)))) : wpList Try.prog ops Q (op :: rest) a w :=
  wpList_store_mid hgd ty x y ho g o _ hx hy (sty_there hg o _ (by simpa using hl)) (by simpa using hi) (ints_one zs) h
end
/-- The same behind a guard that says yes. -/
theorem list_load_gsty {ops : Array Oper} {rest : List Oper} {op : Oper} {a : Act} {w : World} {Q : Exit → Act → World → Prop} {g : Nat} {t : TypeId} {f : Nat → Int} (hw : Region.wanted op (yielded ops a.tmps) = true) (x : Operand) (ho : op.op = .load 41 x) (hx : a.eval x = .pointer (some ⟨g, 0, none⟩)) (hg : w.heap[g]? = some (.cells (sCells f) t))
    (h : wpList Try.prog ops Q rest (a.put op.dst (.agg (sCells f))) w) : wpList Try.prog ops Q (op :: rest) a w :=
  wpList_step fun K hK => by
    rw [if_pos hw]
    exact wp_load_row _ x ho g hx t _ _ _ hg sty_under rfl (sty_size f) (hK _ _ h)
theorem run_alloc_sty {a : Act} {w : World} {o : Oper} (ho : o.op = .alloc 41) : (execOp a.eval o).run Try.prog w = .ok (.value (.pointer (some ⟨w.heap.size, 0, none⟩))) (w.alloc (.cells (sCells fun _ => 0) 41)) := by
  cases o
  simp only at ho
  subst ho
  rw [← zero_sty]
  go_simp
section
variable {ops : Array Oper} {rest : List Oper} {op op2 : Oper} {a : Act} {w : World} {Q : Exit → Act → World → Prop} {f : Nat → Int}
theorem list_alloc_sty (hgd : op.guard = none) (ho : op.op = .alloc 41) (h : wpList Try.prog ops Q rest (a.put op.dst (.pointer (some ⟨w.heap.size, 0, none⟩))) (w.alloc (.cells (sCells fun _ => 0) 41))) : wpList Try.prog ops Q (op :: rest) a w := by
  refine wpList_plain hgd fun K hK => ?_
  unfold Oper.wp
  rw [run_alloc_sty ho, Oper.upon_value]
  exact hK _ _ h
/-- 'x := f(..)': a new variable that holds what the call hands back. -/
theorem list_new_sty (hgd : op.guard = none) (ho : op.op = .alloc 41) (hgd2 : op2.guard = none) {x y : Operand} (ho2 : op2.op = .store 41 x y) (hd2 : op2.dst = none)
    (hx : (a.put op.dst (.pointer (some ⟨w.heap.size, 0, none⟩))).eval x = .pointer (some ⟨w.heap.size, 0, none⟩)) (hy : (a.put op.dst (.pointer (some ⟨w.heap.size, 0, none⟩))).eval y = .agg (sCells f))
    (h : ∀ u, Below w.heap.size w u → u.heap[w.heap.size]? = some (.cells (sCells f) 41) → wpList Try.prog ops Q rest (a.put op.dst (.pointer (some ⟨w.heap.size, 0, none⟩))) u) : wpList Try.prog ops Q (op :: op2 :: rest) a w := by
  refine list_alloc_sty hgd ho (list_store_sty hgd2 x y ho2 hx hy (hp_new w _) ?_)
  rw [hd2]
  exact h _ (below_setRow (Go.Joins.below_alloc1 ..) (Nat.le_refl _) _) (setRow_heap _ _ _ _ _ _ (hp_new w _))
theorem list_build_sty {parts : Array (Nat × Operand)} (hgd : op.guard = none) (ho : op.op = .build 41 parts) (hb : Try.prog.built 41 (parts.map fun (i, x) => (i, a.eval x)).toList = some (sCells f))
    (h : wpList Try.prog ops Q rest (a.put op.dst (.agg (sCells f))) w) : wpList Try.prog ops Q (op :: rest) a w :=
  wpList_build hgd _ parts ho (by rw [hb]; rfl) (by rw [hb]; exact h)
end
section
variable {C : World → Prop} {K : Act → Prop} {a : Act} {o : Oper} {g : Nat} {t : TypeId} {f : Nat → Int}
theorem quiet_load_sty {x : Operand} (ho : o.op = .load 41 x) (hx : a.eval x = .pointer (some ⟨g, 0, none⟩)) (hC : ∀ w, C w → w.heap[g]? = some (.cells (sCells f) t)) (h : K (a.put o.dst (.agg (sCells f)))) : o.quiet Try.prog a C K :=
  ⟨.agg (sCells f), fun w hw => by
    unfold Oper.quietAt execOp
    simp only [ho, hx, Instr.loadAt, Instr.sureAddr, Sem.run_bind, Sem.run_pure, Result.andThen_ok, load_sty (hC w hw)]
    exact ⟨rfl, rfl⟩, h⟩
theorem quiet_sty {w : World} {x : Operand} (ho : o.op = .load 41 x) (hx : a.eval x = .pointer (some ⟨g, 0, none⟩)) (hg : w.heap[g]? = some (.cells (sCells f) t)) (h : K (a.put o.dst (.agg (sCells f)))) :
    o.quiet Try.prog a (fun w' => ∃ p : Regrown, w' = Sort.grow (redrawn w p.d) p.os) K :=
  quiet_load_sty ho hx (fun w' ⟨p, e⟩ => e ▸ hp_below hg (below_regrown w p.d p.os)) h
end
end Go.Proofs.Ytckpjldenkjddaa
end

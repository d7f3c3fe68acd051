/-
  The steps of a walk that read or write a whole style, or a run of its ints, at once; in a region that draws too. Conditions: none.
-/
import Derived.Test.YtfnnfjpbplbjmaaSty
import Derived.Lib.QuietBelow
import Derived.BigQuiet
namespace Go.Proofs.Ytfnnfjpbplbjmaa
open Go.ChangeShapes Go.WideShapes Go.ChangeAt Go.RowKit
set_option linter.unusedVariables false

/-- The ints zs in the cells from o on. -/
def updL (f : Nat → Int) : Nat → List Int → (Nat → Int)
  | _, [] => f
  | o, z :: zs => updL (upd f o z) (o + 1) zs
theorem updL_at : ∀ (zs : List Int) (f : Nat → Int) (o i : Nat), updL f o zs i = if o ≤ i ∧ i < o + zs.length then zs.getD (i - o) 0 else f i
  | [], f, o, i => by rw [updL, if_neg (by simp only [List.length_nil]; omega)]
  | z :: zs, f, o, i => by
    rw [updL, updL_at zs]
    by_cases h1 : o + 1 ≤ i ∧ i < o + 1 + zs.length
    · have h2 : o ≤ i ∧ i < o + (z :: zs).length := by simp only [List.length_cons]; omega
      rw [if_pos h1, if_pos h2, show i - o = (i - (o + 1)) + 1 by omega, List.getD_cons_succ]
    · rw [if_neg h1]
      by_cases e : i = o
      · subst e; simp [upd]
      · have h2 : ¬ (o ≤ i ∧ i < o + (z :: zs).length) := by simp only [List.length_cons]; omega
        rw [if_neg h2]
        simp [upd, e]
section
variable {t : TypeId} {g : Nat}
theorem sty_puts : ∀ (zs : List Int) (o : Nat) (f : Nat → Int) (w : World), w.heap[g]? = some (.cells (sCells f) t) → 8 ≤ o → o + zs.length ≤ 60 → (w.setCells g o (zs.map (Value.int .i64))).heap[g]? = some (.cells (sCells (updL f o zs)) t)
  | [], _, _, _, h, _, _ => h
  | z :: zs, o, f, w, h, h8, hl => by
    simp only [List.length_cons] at hl
    exact sty_puts zs (o + 1) (upd f o z) _ (sty_put h o z _ (by omega) (sCell_int z (by omega))) (by omega) (by omega)
theorem hp_cells {ob : Obj} {g' : Nat} (hne : g ≠ g') : ∀ (vs : List Value) (o : Nat) (w : World), w.heap[g]? = some ob → (w.setCells g' o vs).heap[g]? = some ob
  | [], _, _, h => h
  | v :: vs, o, w, h => hp_cells hne vs (o + 1) _ (hp_set h hne o v)
theorem below_cells {B : Nat} {a : World} (hg : B ≤ g) : ∀ (vs : List Value) (o : Nat) (w : World), Below B a w → Below B a (w.setCells g o vs)
  | [], _, _, h => h
  | v :: vs, o, w, h => below_cells hg vs (o + 1) _ (bl_set h o hg v)
theorem sty_there {w : World} {f : Nat → Int} (h : w.heap[g]? = some (.cells (sCells f) t)) (o n : Nat) (hn : o + n ≤ 60) : w.there g o n := fun j hj =>
  ⟨by rw [sty_cell h (o + j) (by omega)]; rfl, sty_free h _⟩
theorem ints_one (zs : List Int) : ((zs.map (Value.int .i64)).toArray).all (·.oneCell') = true := by
  simp only [List.all_toArray, List.all_map, List.all_eq_true]
  intro z _
  rfl
end
section
variable {ops : Array Oper} {rest : List Oper} {op : Oper} {a : Act} {w : World} {Q : Exit → Act → World → Prop} {g : Nat} {t : TypeId} {f : Nat → Int}
theorem list_store_ints (zs : List Int) (o : Nat) {ty : TypeId} (hgd : op.guard = none) {x y : Operand} (ho : op.op = .store ty x y) (hx : a.eval x = .pointer (some ⟨g, o, none⟩)) (hy : a.eval y = .agg (zs.map (Value.int .i64)).toArray)
    (hi : (Try.prog.info? ty).map (·.size) = some zs.length) (hl : o + zs.length ≤ 60) (hg : w.heap[g]? = some (.cells (sCells f) t))
    (h : wpList Try.prog ops Q rest (a.put op.dst undef) (w.setCells g o (zs.map (Value.int .i64)))) : wpList Try.prog ops Q (op :: rest) a w :=
  wpList_store_mid hgd ty x y ho g o _ hx hy (sty_there hg o _ (by simpa using hl)) (by simpa using hi) (ints_one zs) h
end
/-- The same behind a guard that says yes. -/
theorem list_load_gsty {ops : Array Oper} {rest : List Oper} {op : Oper} {a : Act} {w : World} {Q : Exit → Act → World → Prop} {g : Nat} {t : TypeId} {f : Nat → Int} (hw : Region.wanted op (yielded ops a.tmps) = true) (x : Operand) (ho : op.op = .load 41 x) (hx : a.eval x = .pointer (some ⟨g, 0, none⟩)) (hg : w.heap[g]? = some (.cells (sCells f) t))
    (h : wpList Try.prog ops Q rest (a.put op.dst (.agg (sCells f))) w) : wpList Try.prog ops Q (op :: rest) a w :=
  wpList_step fun K hK => by
    rw [if_pos hw]
    exact wp_load_row _ x ho g hx t _ _ _ hg sty_under rfl (sty_size f) (hK _ _ h)
/-! A variable of the type is made. -/
theorem run_alloc_sty {a : Act} {w : World} {o : Oper} (ho : o.op = .alloc 41) : (execOp a.eval o).run Try.prog w = .ok (.value (.pointer (some ⟨w.heap.size, 0, none⟩))) (w.alloc (.cells (sCells fun _ => 0) 41)) := by
  cases o
  simp only at ho
  subst ho
  rw [← zero_sty]
  go_simp
section
variable {ops : Array Oper} {rest : List Oper} {op op2 : Oper} {a : Act} {w : World} {Q : Exit → Act → World → Prop} {f : Nat → Int}
theorem list_alloc_sty (hgd : op.guard = none) (ho : op.op = .alloc 41) (h : wpList Try.prog ops Q rest (a.put op.dst (.pointer (some ⟨w.heap.size, 0, none⟩))) (w.alloc (.cells (sCells fun _ => 0) 41))) : wpList Try.prog ops Q (op :: rest) a w := by
  refine wpList_plain hgd fun K hK => ?_
  unfold Oper.wp
  rw [run_alloc_sty ho, Oper.upon_value]
  exact hK _ _ h
/-- 'x := f(..)': a new variable that holds what the call hands back. -/
theorem list_new_sty (hgd : op.guard = none) (ho : op.op = .alloc 41) (hgd2 : op2.guard = none) {x y : Operand} (ho2 : op2.op = .store 41 x y) (hd2 : op2.dst = none)
    (hx : (a.put op.dst (.pointer (some ⟨w.heap.size, 0, none⟩))).eval x = .pointer (some ⟨w.heap.size, 0, none⟩)) (hy : (a.put op.dst (.pointer (some ⟨w.heap.size, 0, none⟩))).eval y = .agg (sCells f))
    (h : ∀ u, Below w.heap.size w u → u.heap[w.heap.size]? = some (.cells (sCells f) 41) → wpList Try.prog ops Q rest (a.put op.dst (.pointer (some ⟨w.heap.size, 0, none⟩))) u) : wpList Try.prog ops Q (op :: op2 :: rest) a w := by
  refine list_alloc_sty hgd ho (list_store_sty hgd2 x y ho2 hx hy (hp_new w _) ?_)
  rw [hd2]
  exact h _ (below_setRow (Go.Joins.below_alloc1 ..) (Nat.le_refl _) _) (setRow_heap _ _ _ _ _ _ (hp_new w _))
theorem list_build_sty {parts : Array (Nat × Operand)} (hgd : op.guard = none) (ho : op.op = .build 41 parts) (hb : Try.prog.built 41 (parts.map fun (i, x) => (i, a.eval x)).toList = some (sCells f))
    (h : wpList Try.prog ops Q rest (a.put op.dst (.agg (sCells f))) w) : wpList Try.prog ops Q (op :: rest) a w :=
  wpList_build hgd _ parts ho (by rw [hb]; rfl) (by rw [hb]; exact h)
end
section
variable {C : World → Prop} {K : Act → Prop} {a : Act} {o : Oper} {g : Nat} {t : TypeId} {f : Nat → Int}
theorem quiet_load_sty {x : Operand} (ho : o.op = .load 41 x) (hx : a.eval x = .pointer (some ⟨g, 0, none⟩)) (hC : ∀ w, C w → w.heap[g]? = some (.cells (sCells f) t)) (h : K (a.put o.dst (.agg (sCells f)))) : o.quiet Try.prog a C K :=
  ⟨.agg (sCells f), fun w hw => by
    unfold Oper.quietAt execOp
    simp only [ho, hx, Instr.loadAt, Instr.sureAddr, Sem.run_bind, Sem.run_pure, Result.andThen_ok, load_sty (hC w hw)]
    exact ⟨rfl, rfl⟩, h⟩
theorem quiet_sty {w : World} {x : Operand} (ho : o.op = .load 41 x) (hx : a.eval x = .pointer (some ⟨g, 0, none⟩)) (hg : w.heap[g]? = some (.cells (sCells f) t)) (h : K (a.put o.dst (.agg (sCells f)))) :
    o.quiet Try.prog a (fun w' => ∃ p : Regrown, w' = Sort.grow (redrawn w p.d) p.os) K :=
  quiet_load_sty ho hx (fun w' ⟨p, e⟩ => e ▸ hp_below hg (below_regrown w p.d p.os)) h
theorem sty_int_regrown {w : World} (hg : w.heap[g]? = some (.cells (sCells f) t)) (i : Nat) (hi : i < 60 ∧ i ≠ 6 ∧ i ≠ 7) (d : Nat) (os : Array Obj) : (Sort.grow (redrawn w d) os).cell? ⟨g, i, none⟩ = some (.int .i64 (f i)) := cell_regrown (sty_int hg i hi) d os
end
/-! The same of the law's own style type. -/
theorem lsty_size (f : Nat → Int) : (Try.prog.info? 154).map (·.size) = some (sCells f).size := by rw [sCells_size]; kernel_rfl
theorem lsty_under : Try.prog.underlying 154 = some (.struct (Try.prog.fieldsOf 154)) := by kernel_rfl
theorem load_lsty {w : World} {g : Nat} {t : TypeId} {f : Nat → Int} (h : w.heap[g]? = some (.cells (sCells f) t)) : (loadVar 154 ⟨g, 0, none⟩).run Try.prog w = .ok (.agg (sCells f)) w :=
  run_loadVar_row w g t _ _ _ _ h lsty_under rfl (lsty_size f)
theorem list_load_lsty {ops : Array Oper} {rest : List Oper} {op : Oper} {a : Act} {w : World} {Q : Exit → Act → World → Prop} {g : Nat} {t : TypeId} {f : Nat → Int} (hgd : op.guard = none) (x : Operand) (ho : op.op = .load 154 x) (hx : a.eval x = .pointer (some ⟨g, 0, none⟩)) (hg : w.heap[g]? = some (.cells (sCells f) t))
    (h : wpList Try.prog ops Q rest (a.put op.dst (.agg (sCells f))) w) : wpList Try.prog ops Q (op :: rest) a w :=
  wpList_load_row hgd _ x ho g hx t _ _ _ hg lsty_under rfl (lsty_size f) h
theorem quiet_lsty {K : Act → Prop} {a : Act} {o : Oper} {g : Nat} {t : TypeId} {f : Nat → Int} {w : World} {x : Operand} (ho : o.op = .load 154 x) (hx : a.eval x = .pointer (some ⟨g, 0, none⟩)) (hg : w.heap[g]? = some (.cells (sCells f) t)) (h : K (a.put o.dst (.agg (sCells f)))) :
    o.quiet Try.prog a (fun w' => ∃ p : Regrown, w' = Sort.grow (redrawn w p.d) p.os) K :=
  ⟨.agg (sCells f), fun w' hw => by
    obtain ⟨p, rfl⟩ := hw
    unfold Oper.quietAt execOp
    simp only [ho, hx, Instr.loadAt, Instr.sureAddr, Sem.run_bind, Sem.run_pure, Result.andThen_ok, load_lsty (hp_below hg (below_regrown w p.d p.os))]
    exact ⟨rfl, rfl⟩, h⟩
end Go.Proofs.Ytfnnfjpbplbjmaa

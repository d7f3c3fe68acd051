/-
  Nodes in memory: a node's 64 cells over its parts; slices of nodes that lie somewhere, and rows of nodes of one's own (whose children and rules lie in rows of their own). Conditions: those of the lemma.
-/
import Derived.Test.YtjlgcnhjifdgfaaStyW
import Derived.Test.YtjlgcnhjifdgfaaIntS
import Derived.Test.YtjlgcnhjifdgfaaRls
import Derived.Laws.OwnMore
namespace Go.Proofs.Ytjlgcnhjifdgfaa
open Go.ChangeShapes Go.WideShapes Go.ChangeAt Go.RowKit
set_option linter.unusedVariables false

/-- A node without its addresses. -/
structure PN where
  up : Int
  kids : List Int
  sty : Nat → Int
  meas : Bool
  rl : Nat
  rules : List Int
instance : Inhabited PN := ⟨⟨0, [], fun _ => 0, false, 0, []⟩⟩
def I64 (z : Int) : Prop := -9223372036854775808 ≤ z ∧ z ≤ 9223372036854775807
def PN.ok (n : PN) : Prop := I64 n.up ∧ AllI n.kids ∧ InR n.sty ∧ AllI n.rules ∧ n.rules.length = n.rl * 3
/-- The cells of a node. -/
def nL (u : Int) (k : Value) (f : Nat → Int) (m : Bool) (t : Value) : List Value := .int .i64 u :: k :: ((sCells f).toList ++ [.bool m, t])
def nA (u : Int) (k : Value) (f : Nat → Int) (m : Bool) (t : Value) : Array Value := (nL u k f m t).toArray
theorem nA_list (u : Int) (k : Value) (f : Nat → Int) (m : Bool) (t : Value) : (nA u k f m t).toList = nL u k f m t := rfl
theorem nL_len (u : Int) (k : Value) (f : Nat → Int) (m : Bool) (t : Value) : (nL u k f m t).length = 64 := by simp [nL, sCells_size]
theorem nA_size (u : Int) (k : Value) (f : Nat → Int) (m : Bool) (t : Value) : (nA u k f m t).size = 64 := by simp [nA, nL_len]
section
variable {u : Int} {k : Value} {f : Nat → Int} {m : Bool} {t : Value}
theorem nL_up : (nL u k f m t)[0]? = some (.int .i64 u) := rfl
theorem nL_kids : (nL u k f m t)[1]? = some k := rfl
theorem nL_sty (j : Nat) (hj : j < 60) : (nL u k f m t)[2 + j]? = some (sCell j (f j)) := by
  rw [nL, Nat.add_comm, List.getElem?_cons_succ, List.getElem?_cons_succ, List.getElem?_append_left (by simp [sCells_size, hj]), Array.getElem?_toList, sCells_get f hj]
theorem nL_meas : (nL u k f m t)[62]? = some (.bool m) := by
  rw [nL, List.getElem?_cons_succ, List.getElem?_cons_succ, List.getElem?_append_right (by simp [sCells_size])]; simp [sCells_size]
theorem nL_tab : (nL u k f m t)[63]? = some t := by
  rw [nL, List.getElem?_cons_succ, List.getElem?_cons_succ, List.getElem?_append_right (by simp [sCells_size])]; simp [sCells_size]
theorem nL_one (hk : k.oneCell' = true) (ht : t.oneCell' = true) : ∀ v ∈ nL u k f m t, v.oneCell' = true := by
  intro v hv
  have hs := sCells_one f
  rw [Array.all_eq_true_iff_forall_mem] at hs
  simp only [nL, List.mem_cons, List.mem_append, Array.mem_toList_iff, List.not_mem_nil, or_false] at hv
  rcases hv with rfl | rfl | hv | rfl | rfl
  · rfl
  · exact hk
  · exact hs v hv
  · rfl
  · exact ht
theorem nA_one (hk : k.oneCell' = true) (ht : t.oneCell' = true) : (nA u k f m t).all (·.oneCell') = true := all_oneCell_toArray (nL_one hk ht)
end
theorem nL_ext {l : List Value} {u : Int} {k : Value} {f : Nat → Int} {m : Bool} {t : Value} (hl : l.length = 64) (h0 : l[0]? = some (.int .i64 u)) (h1 : l[1]? = some k) (h2 : ∀ j, j < 60 → l[2 + j]? = some (sCell j (f j))) (h3 : l[62]? = some (.bool m)) (h4 : l[63]? = some t) : l = nL u k f m t := by
  apply List.ext_getElem?
  intro i
  by_cases i0 : i = 0
  · subst i0; rw [h0, nL_up]
  by_cases i1 : i = 1
  · subst i1; rw [h1, nL_kids]
  by_cases i62 : i = 62
  · subst i62; rw [h3, nL_meas]
  by_cases i63 : i = 63
  · subst i63; rw [h4, nL_tab]
  by_cases i64 : 64 ≤ i
  · rw [List.getElem?_eq_none (by omega), List.getElem?_eq_none (by rw [nL_len]; omega)]
  · obtain ⟨j, rfl⟩ : ∃ j, i = 2 + j := ⟨i - 2, by omega⟩
    rw [h2 j (by omega), nL_sty j (by omega)]

/-! Cells turned in a block. -/
def putA (cs : Array Value) : Nat → List Value → Array Value
  | _, [] => cs
  | o, v :: vs => putA (cs.setIfInBounds o v) (o + 1) vs
theorem putA_size : ∀ (vs : List Value) (cs : Array Value) (o : Nat), (putA cs o vs).size = cs.size
  | [], _, _ => rfl
  | v :: vs, cs, o => by rw [putA, putA_size vs]; simp
theorem putA_at : ∀ (vs : List Value) (cs : Array Value) (o i : Nat), o + vs.length ≤ cs.size → (putA cs o vs)[i]? = if o ≤ i ∧ i < o + vs.length then vs[i - o]? else cs[i]?
  | [], cs, o, i, _ => by rw [putA, if_neg (by simp only [List.length_nil]; omega)]
  | v :: vs, cs, o, i, h => by
    simp only [List.length_cons] at h
    rw [putA, putA_at vs _ _ _ (by simp; omega)]
    by_cases h1 : o + 1 ≤ i ∧ i < o + 1 + vs.length
    · rw [if_pos h1, if_pos (by simp only [List.length_cons]; omega), show i - o = (i - (o + 1)) + 1 by omega, List.getElem?_cons_succ]
    · rw [if_neg h1, Array.getElem?_setIfInBounds]
      by_cases e : o = i
      · subst e
        rw [if_pos rfl, if_pos (by omega), if_pos (by simp only [List.length_cons]; omega)]
        simp
      · rw [if_neg e, if_neg (by simp only [List.length_cons]; omega)]
theorem hp_puts {g : Nat} {t : TypeId} : ∀ (vs : List Value) (o : Nat) (cs : Array Value) (w : World), w.heap[g]? = some (.cells cs t) → (w.setCells g o vs).heap[g]? = some (.cells (putA cs o vs) t)
  | [], _, _, _, h => h
  | v :: vs, o, cs, w, h => hp_puts vs (o + 1) _ _ (Go.Joins.block_setCell h _)
section
variable {u : Int} {k : Value} {f : Nat → Int} {m : Bool} {t : Value}
theorem arr_eq {a b : Array Value} (h : a.toList = b.toList) : a = b := Array.toList_inj.1 h
theorem nA_put0 (z : Int) : (nA u k f m t).setIfInBounds 0 (.int .i64 z) = nA z k f m t := by simp [nA, nL]
theorem nA_put1 (v : Value) : (nA u k f m t).setIfInBounds 1 v = nA u v f m t := by simp [nA, nL]
theorem nA_put62 (b : Bool) : (nA u k f m t).setIfInBounds 62 (.bool b) = nA u k f b t := by
  apply arr_eq
  rw [Array.toList_setIfInBounds, nA_list, nA_list]
  refine nL_ext (by rw [List.length_set, nL_len]) ?_ ?_ (fun j hj => ?_) ?_ ?_
  · rw [List.getElem?_set_ne (by decide), nL_up]
  · rw [List.getElem?_set_ne (by decide), nL_kids]
  · rw [List.getElem?_set_ne (by omega), nL_sty j hj]
  · rw [List.getElem?_set_self (by rw [nL_len]; decide)]
  · rw [List.getElem?_set_ne (by decide), nL_tab]
theorem nA_put63 (v : Value) : (nA u k f m t).setIfInBounds 63 v = nA u k f m v := by
  apply arr_eq
  rw [Array.toList_setIfInBounds, nA_list, nA_list]
  refine nL_ext (by rw [List.length_set, nL_len]) ?_ ?_ (fun j hj => ?_) ?_ ?_
  · rw [List.getElem?_set_ne (by decide), nL_up]
  · rw [List.getElem?_set_ne (by decide), nL_kids]
  · rw [List.getElem?_set_ne (by omega), nL_sty j hj]
  · rw [List.getElem?_set_ne (by decide), nL_meas]
  · rw [List.getElem?_set_self (by rw [nL_len]; decide)]
theorem nA_putS (g : Nat → Int) : putA (nA u k f m t) 2 (sCells g).toList = nA u k g m t := by
  have hl : ∀ i, (putA (nA u k f m t) 2 (sCells g).toList).toList[i]? = if 2 ≤ i ∧ i < 62 then (sCells g)[i - 2]? else (nL u k f m t)[i]? := fun i => by
    rw [Array.getElem?_toList, putA_at _ _ _ _ (by simp [sCells_size, nA_size])]
    simp [sCells_size, nA]
  apply arr_eq
  rw [nA_list]
  refine nL_ext (by rw [Array.length_toList, putA_size, nA_size]) ?_ ?_ (fun j hj => ?_) ?_ ?_
  · rw [hl, if_neg (by decide), nL_up]
  · rw [hl, if_neg (by decide), nL_kids]
  · rw [hl, if_pos (by omega), show 2 + j - 2 = j by omega, sCells_get g hj]
  · rw [hl, if_neg (by decide), nL_meas]
  · rw [hl, if_neg (by decide), nL_tab]
end

/-! Ranges. -/
theorem rg_below {w w' : World} {b o : Nat} {cs : List Value} (h : w.rangeAt b o cs) (hb : Below w.heap.size w w') : w'.rangeAt b o cs := fun j v hv => by
  have h1 := h j v hv
  exact (hb.cell (p := ⟨b, o + j, none⟩) (World.block_lt_of_cell? w _ h1)).trans h1
theorem range_block {w : World} {g : Nat} {cs : Array Value} {t : TypeId} {fr : Nat × Nat} (h : w.heap[g]? = some (.cells cs t fr)) : w.rangeAt g 0 cs.toList := fun j v hv => by
  rw [Nat.zero_add]
  exact (Go.Joins.cell_of_block h j).trans (by simpa using hv)
theorem range_styN {w : World} {b o : Nat} {u : Int} {k : Value} {f : Nat → Int} {m : Bool} {t : Value} (h : w.rangeAt b o (nL u k f m t)) : w.rangeAt b (o + 2) (sCells f).toList := fun j v hv => by
  have hj : j < 60 := by have := (List.getElem?_eq_some_iff.1 hv).1; simpa [sCells_size] using this
  rw [Nat.add_assoc]
  refine h (2 + j) v ?_
  rw [nL_sty j hj, ← sCells_get f hj]
  simpa using hv
theorem there_block {w : World} {g : Nat} {cs : Array Value} {t : TypeId} (h : w.heap[g]? = some (.cells cs t)) (o n : Nat) (hn : o + n ≤ cs.size) : w.there g o n := fun j hj =>
  ⟨by rw [Go.Joins.cell_of_block h (o + j), Array.getElem?_eq_getElem (by omega)]; rfl, Go.Joins.unfrozen_of_block h _⟩

/-! The whole of a style or of a node, read or written in one step, wherever it lies. -/
theorem nd_under : Try.prog.underlying 61 = some (.struct (Try.prog.fieldsOf 61)) := by kernel_rfl
theorem nd_size (u : Int) (k : Value) (f : Nat → Int) (m : Bool) (t : Value) : (Try.prog.info? 61).map (·.size) = some (nL u k f m t).length := by rw [nL_len]; kernel_rfl
theorem nd_sizeA (u : Int) (k : Value) (f : Nat → Int) (m : Bool) (t : Value) : (Try.prog.info? 61).map (·.size) = some (nA u k f m t).size := by rw [nA_size]; kernel_rfl
theorem sty_sizeL (f : Nat → Int) : (Try.prog.info? 41).map (·.size) = some (sCells f).toList.length := by simp only [Array.length_toList]; exact sty_size f
theorem lnd_under : Try.prog.underlying 161 = some (.struct (Try.prog.fieldsOf 161)) := by kernel_rfl
theorem lnd_size (u : Int) (k : Value) (f : Nat → Int) (m : Bool) (t : Value) : (Try.prog.info? 161).map (·.size) = some (nL u k f m t).length := by rw [nL_len]; kernel_rfl
theorem lsty_sizeL (f : Nat → Int) : (Try.prog.info? 74).map (·.size) = some (sCells f).toList.length := by simp only [Array.length_toList]; exact lsty_size f
section
variable {ops : Array Oper} {rest : List Oper} {op : Oper} {a : Act} {w : World} {Q : Exit → Act → World → Prop} {g o : Nat} {u : Int} {k : Value} {f : Nat → Int} {m : Bool} {t : Value}
theorem list_load_styAt (hgd : op.guard = none) (x : Operand) (ho : op.op = .load 41 x) (hx : a.eval x = .pointer (some ⟨g, o, none⟩)) (hg : w.rangeAt g o (sCells f).toList)
    (h : wpList Try.prog ops Q rest (a.put op.dst (.agg (sCells f))) w) : wpList Try.prog ops Q (op :: rest) a w :=
  wpList_load_mid hgd _ x ho g o hx _ _ hg sty_under rfl (sty_sizeL f) h
theorem list_load_lstyAt (hgd : op.guard = none) (x : Operand) (ho : op.op = .load 74 x) (hx : a.eval x = .pointer (some ⟨g, o, none⟩)) (hg : w.rangeAt g o (sCells f).toList)
    (h : wpList Try.prog ops Q rest (a.put op.dst (.agg (sCells f))) w) : wpList Try.prog ops Q (op :: rest) a w :=
  wpList_load_mid hgd _ x ho g o hx _ _ hg lsty_under rfl (lsty_sizeL f) h
theorem list_load_nd (hgd : op.guard = none) (x : Operand) (ho : op.op = .load 61 x) (hx : a.eval x = .pointer (some ⟨g, o, none⟩)) (hg : w.rangeAt g o (nL u k f m t))
    (h : wpList Try.prog ops Q rest (a.put op.dst (.agg (nA u k f m t))) w) : wpList Try.prog ops Q (op :: rest) a w :=
  wpList_load_mid hgd _ x ho g o hx _ _ hg nd_under rfl (nd_size ..) h
theorem list_load_lnd (hgd : op.guard = none) (x : Operand) (ho : op.op = .load 161 x) (hx : a.eval x = .pointer (some ⟨g, o, none⟩)) (hg : w.rangeAt g o (nL u k f m t))
    (h : wpList Try.prog ops Q rest (a.put op.dst (.agg (nA u k f m t))) w) : wpList Try.prog ops Q (op :: rest) a w :=
  wpList_load_mid hgd _ x ho g o hx _ _ hg lnd_under rfl (lnd_size ..) h
theorem list_store_styAt (hgd : op.guard = none) (x y : Operand) (ho : op.op = .store 41 x y) (hx : a.eval x = .pointer (some ⟨g, o, none⟩)) (hy : a.eval y = .agg (sCells f)) (ht : w.there g o 60)
    (h : wpList Try.prog ops Q rest (a.put op.dst undef) (w.setCells g o (sCells f).toList)) : wpList Try.prog ops Q (op :: rest) a w :=
  wpList_store_mid hgd _ x y ho g o _ hx hy (by rw [sCells_size]; exact ht) (sty_size f) (sCells_one f) h
theorem list_store_nd (hgd : op.guard = none) (x y : Operand) (ho : op.op = .store 61 x y) (hx : a.eval x = .pointer (some ⟨g, o, none⟩)) (hy : a.eval y = .agg (nA u k f m t)) (ht : w.there g o 64) (hk : k.oneCell' = true) (htt : t.oneCell' = true)
    (h : wpList Try.prog ops Q rest (a.put op.dst undef) (w.setCells g o (nL u k f m t))) : wpList Try.prog ops Q (op :: rest) a w :=
  wpList_store_mid hgd _ x y ho g o _ hx hy (by rw [nA_size]; exact ht) (nd_sizeA ..) (nA_one hk htt) h
end
/-- Nothing but zeros. -/
def nZ : Array Value := nA 0 (.slice none 0 0) (fun _ => 0) false (.slice none 0 0)
theorem run_alloc_nd {a : Act} {w : World} {o : Oper} (ho : o.op = .alloc 61) : (execOp a.eval o).run Try.prog w = .ok (.value (.pointer (some ⟨w.heap.size, 0, none⟩))) (w.alloc (.cells nZ 61)) := by
  cases o
  simp only at ho
  subst ho
  unfold nZ nA nL
  rw [← zero_sty]
  go_simp
theorem list_alloc_nd {ops : Array Oper} {rest : List Oper} {op : Oper} {a : Act} {w : World} {Q : Exit → Act → World → Prop} (hgd : op.guard = none) (ho : op.op = .alloc 61) (h : wpList Try.prog ops Q rest (a.put op.dst (.pointer (some ⟨w.heap.size, 0, none⟩))) (w.alloc (.cells nZ 61))) : wpList Try.prog ops Q (op :: rest) a w := by
  refine wpList_plain hgd fun K hK => ?_
  unfold Oper.wp
  rw [run_alloc_nd ho, Oper.upon_value]
  exact hK _ _ h
/-- The answer that lies in a cell of its own. -/
theorem results_nd {fn : Func} {p : Tmp} (h : fn.results = #[.cell p 61]) {tmps : Array Value} {w : World} {g : Nat} {ty : TypeId} {u : Int} {k : Value} {f : Nat → Int} {m : Bool} {t : Value} (hp : tmps.getD p undef = .pointer (some ⟨g, 0, none⟩)) (hg : w.heap[g]? = some (.cells (nA u k f m t) ty)) :
    (results fn tmps).run Try.prog w = .ok (.agg (nA u k f m t)) w := results_cell_row h tmps w g ty _ _ _ hp hg nd_under rfl (nd_sizeA ..)
end Go.Proofs.Ytjlgcnhjifdgfaa

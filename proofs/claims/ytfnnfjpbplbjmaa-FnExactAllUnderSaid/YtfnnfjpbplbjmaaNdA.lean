/-
  Nodes in memory: a node's 64 cells over its parts; slices of nodes that lie somewhere, and rows of nodes of one's own (whose children and rules lie in rows of their own). Conditions: those of the lemma.
  What lies in memory of a tree: a slice of nodes with their children and rules (to be read), kept over calls that leave old memory alone. Conditions: none.
  Rows of nodes of one's own: each node's children and rules lie in rows of their own, none of them shared. Conditions: none.
  An argument of type Tree opened: its nodes. Conditions: none.
  The laws' helper szTree: how much the tree holds, if it is not too much. Conditions: at most 1048576 are left.
  The laws' helper toTree: a copy of the tree, of its own whole. Conditions: no list of more than 1048576.
  The laws' helper eqTree on equals: true. Conditions: the lengths' bounds.
-/
import Derived.Test.YtfnnfjpbplbjmaaStyW
import Derived.Test.YtfnnfjpbplbjmaaIntS
import Derived.Test.YtfnnfjpbplbjmaaRls
import Derived.Laws.OwnMore
import Derived.OwnWalk
import Derived.Deep.QuietTactic
import Derived.BigQuiet
import Derived.Test.YtfnnfjpbplbjmaaRlT
import Derived.Test.YtfnnfjpbplbjmaaToS
import Derived.Test.YtfnnfjpbplbjmaaRlE
import Derived.Test.YtfnnfjpbplbjmaaEqS
namespace Go.Proofs.Ytfnnfjpbplbjmaa
open Go.ChangeShapes Go.WideShapes Go.ChangeAt Go.RowKit
set_option linter.unusedVariables false

/-- A node without its addresses. -/
structure PN where
  up : Int
  kids : List Int
  sty : Nat → Int
  meas : Bool
  rl : Nat
  rules : List Int
instance : Inhabited PN := ⟨⟨0, [], fun _ => 0, false, 0, []⟩⟩
def I64 (z : Int) : Prop := -9223372036854775808 ≤ z ∧ z ≤ 9223372036854775807
def PN.ok (n : PN) : Prop := I64 n.up ∧ AllI n.kids ∧ InR n.sty ∧ AllI n.rules ∧ n.rules.length = n.rl * 3
/-- The cells of a node. -/
def nL (u : Int) (k : Value) (f : Nat → Int) (m : Bool) (t : Value) : List Value := .int .i64 u :: k :: ((sCells f).toList ++ [.bool m, t])
def nA (u : Int) (k : Value) (f : Nat → Int) (m : Bool) (t : Value) : Array Value := (nL u k f m t).toArray
theorem nA_list (u : Int) (k : Value) (f : Nat → Int) (m : Bool) (t : Value) : (nA u k f m t).toList = nL u k f m t := rfl
theorem nL_len (u : Int) (k : Value) (f : Nat → Int) (m : Bool) (t : Value) : (nL u k f m t).length = 64 := by simp [nL, sCells_size]
theorem nA_size (u : Int) (k : Value) (f : Nat → Int) (m : Bool) (t : Value) : (nA u k f m t).size = 64 := by simp [nA, nL_len]
section
variable {u : Int} {k : Value} {f : Nat → Int} {m : Bool} {t : Value}
theorem nL_up : (nL u k f m t)[0]? = some (.int .i64 u) := rfl
theorem nL_kids : (nL u k f m t)[1]? = some k := rfl
theorem nL_sty (j : Nat) (hj : j < 60) : (nL u k f m t)[2 + j]? = some (sCell j (f j)) := by
  rw [nL, Nat.add_comm, List.getElem?_cons_succ, List.getElem?_cons_succ, List.getElem?_append_left (by simp [sCells_size, hj]), Array.getElem?_toList, sCells_get f hj]
theorem nL_meas : (nL u k f m t)[62]? = some (.bool m) := by
  rw [nL, List.getElem?_cons_succ, List.getElem?_cons_succ, List.getElem?_append_right (by simp [sCells_size])]; simp [sCells_size]
theorem nL_tab : (nL u k f m t)[63]? = some t := by
  rw [nL, List.getElem?_cons_succ, List.getElem?_cons_succ, List.getElem?_append_right (by simp [sCells_size])]; simp [sCells_size]
theorem nL_one (hk : k.oneCell' = true) (ht : t.oneCell' = true) : ∀ v ∈ nL u k f m t, v.oneCell' = true := by
  intro v hv
  have hs := sCells_one f
  rw [Array.all_eq_true_iff_forall_mem] at hs
  simp only [nL, List.mem_cons, List.mem_append, Array.mem_toList_iff, List.not_mem_nil, or_false] at hv
  rcases hv with rfl | rfl | hv | rfl | rfl
  · rfl
  · exact hk
  · exact hs v hv
  · rfl
  · exact ht
theorem nA_one (hk : k.oneCell' = true) (ht : t.oneCell' = true) : (nA u k f m t).all (·.oneCell') = true := all_oneCell_toArray (nL_one hk ht)
end
theorem nL_ext {l : List Value} {u : Int} {k : Value} {f : Nat → Int} {m : Bool} {t : Value} (hl : l.length = 64) (h0 : l[0]? = some (.int .i64 u)) (h1 : l[1]? = some k) (h2 : ∀ j, j < 60 → l[2 + j]? = some (sCell j (f j))) (h3 : l[62]? = some (.bool m)) (h4 : l[63]? = some t) : l = nL u k f m t := by
  apply List.ext_getElem?
  intro i
  by_cases i0 : i = 0
  · subst i0; rw [h0, nL_up]
  by_cases i1 : i = 1
  · subst i1; rw [h1, nL_kids]
  by_cases i62 : i = 62
  · subst i62; rw [h3, nL_meas]
  by_cases i63 : i = 63
  · subst i63; rw [h4, nL_tab]
  by_cases i64 : 64 ≤ i
  · rw [List.getElem?_eq_none (by omega), List.getElem?_eq_none (by rw [nL_len]; omega)]
  · obtain ⟨j, rfl⟩ : ∃ j, i = 2 + j := ⟨i - 2, by omega⟩
    rw [h2 j (by omega), nL_sty j (by omega)]

/-! Cells turned in a block. -/
def putA (cs : Array Value) : Nat → List Value → Array Value
  | _, [] => cs
  | o, v :: vs => putA (cs.setIfInBounds o v) (o + 1) vs
theorem putA_size : ∀ (vs : List Value) (cs : Array Value) (o : Nat), (putA cs o vs).size = cs.size
  | [], _, _ => rfl
  | v :: vs, cs, o => by rw [putA, putA_size vs]; simp
theorem putA_at : ∀ (vs : List Value) (cs : Array Value) (o i : Nat), o + vs.length ≤ cs.size → (putA cs o vs)[i]? = if o ≤ i ∧ i < o + vs.length then vs[i - o]? else cs[i]?
  | [], cs, o, i, _ => by rw [putA, if_neg (by simp only [List.length_nil]; omega)]
  | v :: vs, cs, o, i, h => by
    simp only [List.length_cons] at h
    rw [putA, putA_at vs _ _ _ (by simp; omega)]
    by_cases h1 : o + 1 ≤ i ∧ i < o + 1 + vs.length
    · rw [if_pos h1, if_pos (by simp only [List.length_cons]; omega), show i - o = (i - (o + 1)) + 1 by omega, List.getElem?_cons_succ]
    · rw [if_neg h1, Array.getElem?_setIfInBounds]
      by_cases e : o = i
      · subst e
        rw [if_pos rfl, if_pos (by omega), if_pos (by simp only [List.length_cons]; omega)]
        simp
      · rw [if_neg e, if_neg (by simp only [List.length_cons]; omega)]
theorem hp_puts {g : Nat} {t : TypeId} : ∀ (vs : List Value) (o : Nat) (cs : Array Value) (w : World), w.heap[g]? = some (.cells cs t) → (w.setCells g o vs).heap[g]? = some (.cells (putA cs o vs) t)
  | [], _, _, _, h => h
  | v :: vs, o, cs, w, h => hp_puts vs (o + 1) _ _ (Go.Joins.block_setCell h _)
section
variable {u : Int} {k : Value} {f : Nat → Int} {m : Bool} {t : Value}
theorem arr_eq {a b : Array Value} (h : a.toList = b.toList) : a = b := Array.toList_inj.1 h
theorem nA_put0 (z : Int) : (nA u k f m t).setIfInBounds 0 (.int .i64 z) = nA z k f m t := by simp [nA, nL]
theorem nA_put1 (v : Value) : (nA u k f m t).setIfInBounds 1 v = nA u v f m t := by simp [nA, nL]
theorem nA_put62 (b : Bool) : (nA u k f m t).setIfInBounds 62 (.bool b) = nA u k f b t := by
  apply arr_eq
  rw [Array.toList_setIfInBounds, nA_list, nA_list]
  refine nL_ext (by rw [List.length_set, nL_len]) ?_ ?_ (fun j hj => ?_) ?_ ?_
  · rw [List.getElem?_set_ne (by decide), nL_up]
  · rw [List.getElem?_set_ne (by decide), nL_kids]
  · rw [List.getElem?_set_ne (by omega), nL_sty j hj]
  · rw [List.getElem?_set_self (by rw [nL_len]; decide)]
  · rw [List.getElem?_set_ne (by decide), nL_tab]
theorem nA_put63 (v : Value) : (nA u k f m t).setIfInBounds 63 v = nA u k f m v := by
  apply arr_eq
  rw [Array.toList_setIfInBounds, nA_list, nA_list]
  refine nL_ext (by rw [List.length_set, nL_len]) ?_ ?_ (fun j hj => ?_) ?_ ?_
  · rw [List.getElem?_set_ne (by decide), nL_up]
  · rw [List.getElem?_set_ne (by decide), nL_kids]
  · rw [List.getElem?_set_ne (by omega), nL_sty j hj]
  · rw [List.getElem?_set_ne (by decide), nL_meas]
  · rw [List.getElem?_set_self (by rw [nL_len]; decide)]
theorem nA_putS (g : Nat → Int) : putA (nA u k f m t) 2 (sCells g).toList = nA u k g m t := by
  have hl : ∀ i, (putA (nA u k f m t) 2 (sCells g).toList).toList[i]? = if 2 ≤ i ∧ i < 62 then (sCells g)[i - 2]? else (nL u k f m t)[i]? := fun i => by
    rw [Array.getElem?_toList, putA_at _ _ _ _ (by simp [sCells_size, nA_size])]
    simp [sCells_size, nA]
  apply arr_eq
  rw [nA_list]
  refine nL_ext (by rw [Array.length_toList, putA_size, nA_size]) ?_ ?_ (fun j hj => ?_) ?_ ?_
  · rw [hl, if_neg (by decide), nL_up]
  · rw [hl, if_neg (by decide), nL_kids]
  · rw [hl, if_pos (by omega), show 2 + j - 2 = j by omega, sCells_get g hj]
  · rw [hl, if_neg (by decide), nL_meas]
  · rw [hl, if_neg (by decide), nL_tab]
end

/-! Ranges. -/
theorem rg_below {w w' : World} {b o : Nat} {cs : List Value} (h : w.rangeAt b o cs) (hb : Below w.heap.size w w') : w'.rangeAt b o cs := fun j v hv => by
  have h1 := h j v hv
  exact (hb.cell (p := ⟨b, o + j, none⟩) (World.block_lt_of_cell? w _ h1)).trans h1
theorem range_block {w : World} {g : Nat} {cs : Array Value} {t : TypeId} {fr : Nat × Nat} (h : w.heap[g]? = some (.cells cs t fr)) : w.rangeAt g 0 cs.toList := fun j v hv => by
  rw [Nat.zero_add]
  exact (Go.Joins.cell_of_block h j).trans (by simpa using hv)
theorem range_styN {w : World} {b o : Nat} {u : Int} {k : Value} {f : Nat → Int} {m : Bool} {t : Value} (h : w.rangeAt b o (nL u k f m t)) : w.rangeAt b (o + 2) (sCells f).toList := fun j v hv => by
  have hj : j < 60 := by have := (List.getElem?_eq_some_iff.1 hv).1; simpa [sCells_size] using this
  rw [Nat.add_assoc]
  refine h (2 + j) v ?_
  rw [nL_sty j hj, ← sCells_get f hj]
  simpa using hv
theorem there_block {w : World} {g : Nat} {cs : Array Value} {t : TypeId} (h : w.heap[g]? = some (.cells cs t)) (o n : Nat) (hn : o + n ≤ cs.size) : w.there g o n := fun j hj =>
  ⟨by rw [Go.Joins.cell_of_block h (o + j), Array.getElem?_eq_getElem (by omega)]; rfl, Go.Joins.unfrozen_of_block h _⟩

/-! The whole of a style or of a node, read or written in one step, wherever it lies. -/
theorem nd_under : Try.prog.underlying 61 = some (.struct (Try.prog.fieldsOf 61)) := by kernel_rfl
theorem nd_size (u : Int) (k : Value) (f : Nat → Int) (m : Bool) (t : Value) : (Try.prog.info? 61).map (·.size) = some (nL u k f m t).length := by rw [nL_len]; kernel_rfl
theorem nd_sizeA (u : Int) (k : Value) (f : Nat → Int) (m : Bool) (t : Value) : (Try.prog.info? 61).map (·.size) = some (nA u k f m t).size := by rw [nA_size]; kernel_rfl
theorem sty_sizeL (f : Nat → Int) : (Try.prog.info? 41).map (·.size) = some (sCells f).toList.length := by simp only [Array.length_toList]; exact sty_size f
theorem lnd_under : Try.prog.underlying 159 = some (.struct (Try.prog.fieldsOf 159)) := by kernel_rfl
theorem lnd_size (u : Int) (k : Value) (f : Nat → Int) (m : Bool) (t : Value) : (Try.prog.info? 159).map (·.size) = some (nL u k f m t).length := by rw [nL_len]; kernel_rfl
theorem lsty_sizeL (f : Nat → Int) : (Try.prog.info? 154).map (·.size) = some (sCells f).toList.length := by simp only [Array.length_toList]; exact lsty_size f
section
variable {ops : Array Oper} {rest : List Oper} {op : Oper} {a : Act} {w : World} {Q : Exit → Act → World → Prop} {g o : Nat} {u : Int} {k : Value} {f : Nat → Int} {m : Bool} {t : Value}
theorem list_load_styAt (hgd : op.guard = none) (x : Operand) (ho : op.op = .load 41 x) (hx : a.eval x = .pointer (some ⟨g, o, none⟩)) (hg : w.rangeAt g o (sCells f).toList)
    (h : wpList Try.prog ops Q rest (a.put op.dst (.agg (sCells f))) w) : wpList Try.prog ops Q (op :: rest) a w :=
  wpList_load_mid hgd _ x ho g o hx _ _ hg sty_under rfl (sty_sizeL f) h
theorem list_load_lstyAt (hgd : op.guard = none) (x : Operand) (ho : op.op = .load 154 x) (hx : a.eval x = .pointer (some ⟨g, o, none⟩)) (hg : w.rangeAt g o (sCells f).toList)
    (h : wpList Try.prog ops Q rest (a.put op.dst (.agg (sCells f))) w) : wpList Try.prog ops Q (op :: rest) a w :=
  wpList_load_mid hgd _ x ho g o hx _ _ hg lsty_under rfl (lsty_sizeL f) h
theorem list_load_nd (hgd : op.guard = none) (x : Operand) (ho : op.op = .load 61 x) (hx : a.eval x = .pointer (some ⟨g, o, none⟩)) (hg : w.rangeAt g o (nL u k f m t))
    (h : wpList Try.prog ops Q rest (a.put op.dst (.agg (nA u k f m t))) w) : wpList Try.prog ops Q (op :: rest) a w :=
  wpList_load_mid hgd _ x ho g o hx _ _ hg nd_under rfl (nd_size ..) h
theorem list_load_lnd (hgd : op.guard = none) (x : Operand) (ho : op.op = .load 159 x) (hx : a.eval x = .pointer (some ⟨g, o, none⟩)) (hg : w.rangeAt g o (nL u k f m t))
    (h : wpList Try.prog ops Q rest (a.put op.dst (.agg (nA u k f m t))) w) : wpList Try.prog ops Q (op :: rest) a w :=
  wpList_load_mid hgd _ x ho g o hx _ _ hg lnd_under rfl (lnd_size ..) h
theorem list_store_styAt (hgd : op.guard = none) (x y : Operand) (ho : op.op = .store 41 x y) (hx : a.eval x = .pointer (some ⟨g, o, none⟩)) (hy : a.eval y = .agg (sCells f)) (ht : w.there g o 60)
    (h : wpList Try.prog ops Q rest (a.put op.dst undef) (w.setCells g o (sCells f).toList)) : wpList Try.prog ops Q (op :: rest) a w :=
  wpList_store_mid hgd _ x y ho g o _ hx hy (by rw [sCells_size]; exact ht) (sty_size f) (sCells_one f) h
theorem list_store_nd (hgd : op.guard = none) (x y : Operand) (ho : op.op = .store 61 x y) (hx : a.eval x = .pointer (some ⟨g, o, none⟩)) (hy : a.eval y = .agg (nA u k f m t)) (ht : w.there g o 64) (hk : k.oneCell' = true) (htt : t.oneCell' = true)
    (h : wpList Try.prog ops Q rest (a.put op.dst undef) (w.setCells g o (nL u k f m t))) : wpList Try.prog ops Q (op :: rest) a w :=
  wpList_store_mid hgd _ x y ho g o _ hx hy (by rw [nA_size]; exact ht) (nd_sizeA ..) (nA_one hk htt) h
end
/-- Nothing but zeros. -/
def nZ : Array Value := nA 0 (.slice none 0 0) (fun _ => 0) false (.slice none 0 0)
theorem run_alloc_nd {a : Act} {w : World} {o : Oper} (ho : o.op = .alloc 61) : (execOp a.eval o).run Try.prog w = .ok (.value (.pointer (some ⟨w.heap.size, 0, none⟩))) (w.alloc (.cells nZ 61)) := by
  cases o
  simp only at ho
  subst ho
  unfold nZ nA nL
  rw [← zero_sty]
  go_simp
theorem list_alloc_nd {ops : Array Oper} {rest : List Oper} {op : Oper} {a : Act} {w : World} {Q : Exit → Act → World → Prop} (hgd : op.guard = none) (ho : op.op = .alloc 61) (h : wpList Try.prog ops Q rest (a.put op.dst (.pointer (some ⟨w.heap.size, 0, none⟩))) (w.alloc (.cells nZ 61))) : wpList Try.prog ops Q (op :: rest) a w := by
  refine wpList_plain hgd fun K hK => ?_
  unfold Oper.wp
  rw [run_alloc_nd ho, Oper.upon_value]
  exact hK _ _ h
/-- The answer that lies in a cell of its own. -/
theorem results_nd {fn : Func} {p : Tmp} (h : fn.results = #[.cell p 61]) {tmps : Array Value} {w : World} {g : Nat} {ty : TypeId} {u : Int} {k : Value} {f : Nat → Int} {m : Bool} {t : Value} (hp : tmps.getD p undef = .pointer (some ⟨g, 0, none⟩)) (hg : w.heap[g]? = some (.cells (nA u k f m t) ty)) :
    (results fn tmps).run Try.prog w = .ok (.agg (nA u k f m t)) w := results_cell_row h tmps w g ty _ _ _ hp hg nd_under rfl (nd_sizeA ..)
set_option linter.unusedVariables false

def KAt (w : World) (v : Value) (zs : List Int) : Prop := ∃ a c, v = .slice a zs.length c ∧ Ints w a zs.length zs
def TAt (w : World) (v : Value) (rl : Nat) (zs : List Int) : Prop := ∃ a c, v = .slice a rl c ∧ Rls w a rl zs
def NodeAt (w : World) (b o : Nat) (n : PN) : Prop := ∃ k t, w.rangeAt b o (nL n.up k n.sty n.meas t) ∧ KAt w k n.kids ∧ TAt w t n.rl n.rules
/-- The nodes ns lie at a. -/
def Nds (w : World) (a : Option Addr) (ns : List PN) : Prop :=
  (∀ n ∈ ns, n.ok) ∧ (ns = [] ∨ ∃ b off, a = some ⟨b, off, none⟩ ∧ b < w.heap.size ∧ ∀ i n, ns[i]? = some n → NodeAt w b (off + i * 64) n)
theorem KAt.below {w w' : World} {v : Value} {zs : List Int} (h : KAt w v zs) (hb : Below w.heap.size w w') : KAt w' v zs := by
  obtain ⟨a, c, e, h⟩ := h; exact ⟨a, c, e, h.below hb⟩
theorem TAt.below {w w' : World} {v : Value} {rl : Nat} {zs : List Int} (h : TAt w v rl zs) (hb : Below w.heap.size w w') : TAt w' v rl zs := by
  obtain ⟨a, c, e, h⟩ := h; exact ⟨a, c, e, h.below hb⟩
theorem NodeAt.below {w w' : World} {b o : Nat} {n : PN} (h : NodeAt w b o n) (hb : Below w.heap.size w w') : NodeAt w' b o n := by
  obtain ⟨k, t, h1, h2, h3⟩ := h; exact ⟨k, t, rg_below h1 hb, h2.below hb, h3.below hb⟩
theorem Nds.below {w w' : World} {a : Option Addr} {ns : List PN} (h : Nds w a ns) (hb : Below w.heap.size w w') : Nds w' a ns := by
  refine ⟨h.1, ?_⟩
  rcases h.2 with h0 | ⟨b, off, ha, hlt, hc⟩
  · exact Or.inl h0
  · exact Or.inr ⟨b, off, ha, Nat.lt_of_lt_of_le hlt hb.size, fun i n hi => (hc i n hi).below hb⟩
theorem Nds.look {w : World} {a : Option Addr} {ns : List PN} (h : Nds w a ns) {i : Nat} (hi : i < ns.length) : ∃ b off, a = some ⟨b, off, none⟩ ∧ b < w.heap.size ∧ NodeAt w b (off + i * 64) ns[i] := by
  rcases h.2 with h0 | ⟨b, off, ha, hlt, hc⟩
  · subst h0; exact absurd hi (Nat.not_lt_zero _)
  · exact ⟨b, off, ha, hlt, hc i _ (List.getElem?_eq_getElem hi)⟩
theorem KAt.one {w : World} {v : Value} {zs : List Int} (h : KAt w v zs) : v.oneCell' = true := by obtain ⟨a, c, rfl, _⟩ := h; rfl
theorem TAt.one {w : World} {v : Value} {rl : Nat} {zs : List Int} (h : TAt w v rl zs) : v.oneCell' = true := by obtain ⟨a, c, rfl, _⟩ := h; rfl
/-- What may be asked of a length. -/
def PN.fit (n : PN) : Prop := n.kids.length ≤ 9223372036854775807 ∧ n.rl ≤ 9223372036854775807
/-- How much a tree holds. -/
def szK (n : PN) : Nat := n.kids.length + n.rl
def szL (ns : List PN) : Nat := (ns.map szK).sum
def szS (ns : List PN) : Nat := ns.length + szL ns
theorem szL_take {ns : List PN} {i : Nat} (h : i < ns.length) : szL (ns.take (i + 1)) = szL (ns.take i) + szK ns[i] := by
  unfold szL
  rw [List.take_succ_eq_append_getElem h, List.map_append, List.sum_append]
  simp
theorem szL_take_le (ns : List PN) (i : Nat) : szL (ns.take i) ≤ szL ns := by
  have h : szL ns = szL (ns.take i) + szL (ns.drop i) := by
    unfold szL
    rw [← List.sum_append, ← List.map_append, List.take_append_drop]
  omega
theorem szK_le {ns : List PN} {i : Nat} (h : i < ns.length) : szK ns[i] ≤ szL ns := by
  have h1 := szL_take h
  have h2 := szL_take_le ns (i + 1)
  omega
set_option linter.unusedVariables false

/-- A node with where its children and its rules lie. -/
structure ND where
  n : PN
  kv : Value
  tv : Value
instance : Inhabited ND := ⟨⟨default, .slice none 0 0, .slice none 0 0⟩⟩
def ND.cells (m : ND) : List Value := nL m.n.up m.kv m.n.sty m.n.meas m.tv
def cellsN (ms : List ND) : List Value := ms.flatMap ND.cells
theorem ND.cells_len (m : ND) : m.cells.length = 64 := nL_len ..
theorem cellsN_len : ∀ ms : List ND, (cellsN ms).length = ms.length * 64
  | [] => rfl
  | m :: ms => by
    have h := cellsN_len ms
    unfold cellsN at h ⊢
    rw [List.flatMap_cons, List.length_append, h, ND.cells_len, List.length_cons]; omega
theorem cellsN_at : ∀ (ms : List ND) (i j : Nat), j < 64 → (cellsN ms)[i * 64 + j]? = ms[i]?.bind (fun m => m.cells[j]?)
  | [], i, j, _ => by simp [cellsN]
  | m :: ms, i, j, hj => by
    have h := cellsN_at ms
    unfold cellsN at h ⊢
    rw [List.flatMap_cons]
    cases i with
    | zero => rw [List.getElem?_append_left (by rw [ND.cells_len]; omega)]; simp
    | succ i =>
      rw [List.getElem?_append_right (by rw [ND.cells_len]; omega), ND.cells_len, show (i + 1) * 64 + j - 64 = i * 64 + j by omega, h i j hj, List.getElem?_cons_succ]
theorem cellsN_push (ms : List ND) (m : ND) : cellsN (ms ++ [m]) = cellsN ms ++ m.cells := by simp [cellsN]
/-- Values put into a list one after the other. -/
def setL (xs : List Value) : Nat → List Value → List Value
  | _, [] => xs
  | o, v :: vs => setL (xs.set o v) (o + 1) vs
theorem setL_len : ∀ (vs xs : List Value) (o : Nat), (setL xs o vs).length = xs.length
  | [], _, _ => rfl
  | v :: vs, xs, o => by rw [setL, setL_len vs]; simp
theorem setL_at : ∀ (vs xs : List Value) (o i : Nat), o + vs.length ≤ xs.length → (setL xs o vs)[i]? = if o ≤ i ∧ i < o + vs.length then vs[i - o]? else xs[i]?
  | [], xs, o, i, _ => by rw [setL, if_neg (by simp only [List.length_nil]; omega)]
  | v :: vs, xs, o, i, h => by
    simp only [List.length_cons] at h
    rw [setL, setL_at vs _ _ _ (by simp; omega)]
    by_cases h1 : o + 1 ≤ i ∧ i < o + 1 + vs.length
    · rw [if_pos h1, if_pos (by simp only [List.length_cons]; omega), show i - o = (i - (o + 1)) + 1 by omega, List.getElem?_cons_succ]
    · rw [if_neg h1]
      by_cases e : o = i
      · subst e
        rw [List.getElem?_set_self (by omega), if_pos (by simp only [List.length_cons]; omega)]
        simp
      · rw [List.getElem?_set_ne e, if_neg (by simp only [List.length_cons]; omega)]
theorem cellsN_set (ms : List ND) {i : Nat} (hi : i < ms.length) (m : ND) : setL (cellsN ms) (i * 64) m.cells = cellsN (ms.set i m) := by
  apply List.ext_getElem?
  intro q
  rw [setL_at _ _ _ _ (by rw [ND.cells_len, cellsN_len]; omega), ND.cells_len]
  have hq : q / 64 * 64 + q % 64 = q := by omega
  have h64 : q % 64 < 64 := Nat.mod_lt _ (by decide)
  have e1 := cellsN_at (ms.set i m) (q / 64) (q % 64) h64
  have e2 := cellsN_at ms (q / 64) (q % 64) h64
  rw [hq] at e1 e2
  rw [e1, e2]
  by_cases h : i * 64 ≤ q ∧ q < i * 64 + 64
  · have e : q / 64 = i := by omega
    rw [if_pos h, e, List.getElem?_set_self hi, show q - i * 64 = q % 64 by omega]
    rfl
  · rw [if_neg h, List.getElem?_set_ne (by omega)]
theorem ownsRow_setCells {g cap n lo size : Nat} {e : TypeId} : ∀ (vs xs : List Value) (o : Nat) (w : World), w.ownsRow lo e size (.slice (some ⟨g, 0, none⟩) n cap) n xs → (w.setCells g o vs).ownsRow lo e size (.slice (some ⟨g, 0, none⟩) n cap) n (setL xs o vs)
  | [], _, _, _, h => h
  | v :: vs, xs, o, w, h => ownsRow_setCells vs (xs.set o v) (o + 1) _ (h.stored o v).1

def KRow (lo : Nat) (v : Value) (zs : List Int) (w : World) : Prop := ∃ a c, v = .slice a zs.length c ∧ (zs = [] ∨ RowI lo v zs w)
def TRow (lo : Nat) (v : Value) (rl : Nat) (zs : List Int) (w : World) : Prop := ∃ a c, v = .slice a rl c ∧ (rl = 0 ∨ RowR lo v rl zs w)
def blk (v : Value) (n : Nat) : Option Nat := if n = 0 then none else v.ownBlock
def ND.comp (m : ND) (s : Bool) : Option Nat := if s then blk m.kv m.n.kids.length else blk m.tv m.n.rl
/-- What a node needs beside its cells. -/
def ND.own (lo : Nat) (m : ND) (w : World) : Prop := m.n.ok ∧ KRow lo m.kv m.n.kids w ∧ TRow lo m.tv m.n.rl m.n.rules w
/-- A row of nodes of one's own. -/
def OwnN (lo : Nat) (v : Value) (ms : List ND) (w : World) : Prop :=
  w.ownsRow lo 61 64 v ms.length (cellsN ms) ∧
  (∀ m ∈ ms, m.own lo w ∧ ∀ s b, m.comp s = some b → v.ownBlock ≠ some b) ∧
  (∀ (i j : Nat) (mi mj : ND) (s t : Bool) (b : Nat), ms[i]? = some mi → ms[j]? = some mj → mi.comp s = some b → mj.comp t = some b → i = j ∧ s = t)

/-- The blocks from lo on are as they were. -/
def From (lo : Nat) (w w' : World) : Prop := w.heap.size ≤ w'.heap.size ∧ ∀ k, lo ≤ k → k < w.heap.size → w'.heap[k]? = w.heap[k]?
theorem From.of_below {lo : Nat} {w w' : World} (h : Below w.heap.size w w') : From lo w w' := ⟨h.size, fun k _ hk => h.block k hk⟩
theorem ownsRow_from {lo n size : Nat} {e : TypeId} {v : Value} {xs : List Value} {w w' : World} (h : w.ownsRow lo e size v n xs) (hf : From lo w w') : w'.ownsRow lo e size v n xs := by
  refine ⟨h.1, ?_⟩
  rcases h.2 with hn | ⟨g, cap, cur, rfl, hb, hg, rest⟩
  · exact .inl hn
  · exact .inr ⟨g, cap, cur, rfl, hb, (hf.2 g hb (Array.getElem?_eq_some_iff.1 hg).1).trans hg, rest⟩
theorem ownsRow_lower {lo lo' n size : Nat} {e : TypeId} {v : Value} {xs : List Value} {w : World} (h : w.ownsRow lo e size v n xs) (hl : lo' ≤ lo) : w.ownsRow lo' e size v n xs := by
  refine ⟨h.1, ?_⟩
  rcases h.2 with hn | ⟨g, cap, cur, rfl, hb, rest⟩
  · exact .inl hn
  · exact .inr ⟨g, cap, cur, rfl, Nat.le_trans hl hb, rest⟩
theorem KRow.kept {lo : Nat} {v : Value} {zs : List Int} {w w' : World} (h : KRow lo v zs w) (hf : From lo w w') : KRow lo v zs w' := by
  obtain ⟨a, c, e, h⟩ := h
  exact ⟨a, c, e, h.imp id fun h => ownsRow_from h hf⟩
theorem TRow.kept {lo rl : Nat} {v : Value} {zs : List Int} {w w' : World} (h : TRow lo v rl zs w) (hf : From lo w w') : TRow lo v rl zs w' := by
  obtain ⟨a, c, e, h⟩ := h
  exact ⟨a, c, e, h.imp id fun h => ownsRow_from h hf⟩
theorem ND.own.kept {lo : Nat} {m : ND} {w w' : World} (h : m.own lo w) (hf : From lo w w') : m.own lo w' := ⟨h.1, h.2.1.kept hf, h.2.2.kept hf⟩
theorem OwnN.kept {lo : Nat} {v : Value} {ms : List ND} {w w' : World} (h : OwnN lo v ms w) (hf : From lo w w') : OwnN lo v ms w' :=
  ⟨ownsRow_from h.1 hf, fun m hm => ⟨(h.2.1 m hm).1.kept hf, (h.2.1 m hm).2⟩, h.2.2⟩
theorem OwnN.below {lo : Nat} {v : Value} {ms : List ND} {w w' : World} (h : OwnN lo v ms w) (hb : Below w.heap.size w w') : OwnN lo v ms w' := h.kept (From.of_below hb)
theorem KRow.lower {lo lo' : Nat} {v : Value} {zs : List Int} {w : World} (h : KRow lo v zs w) (hl : lo' ≤ lo) : KRow lo' v zs w := by
  obtain ⟨a, c, e, h⟩ := h
  exact ⟨a, c, e, h.imp id fun h => ownsRow_lower h hl⟩
theorem TRow.lower {lo lo' rl : Nat} {v : Value} {zs : List Int} {w : World} (h : TRow lo v rl zs w) (hl : lo' ≤ lo) : TRow lo' v rl zs w := by
  obtain ⟨a, c, e, h⟩ := h
  exact ⟨a, c, e, h.imp id fun h => ownsRow_lower h hl⟩
theorem ND.own.lower {lo lo' : Nat} {m : ND} {w : World} (h : m.own lo w) (hl : lo' ≤ lo) : m.own lo' w := ⟨h.1, h.2.1.lower hl, h.2.2.lower hl⟩
theorem OwnN.lower {lo lo' : Nat} {v : Value} {ms : List ND} {w : World} (h : OwnN lo v ms w) (hl : lo' ≤ lo) : OwnN lo' v ms w :=
  ⟨ownsRow_lower h.1 hl, fun m hm => ⟨(h.2.1 m hm).1.lower hl, (h.2.1 m hm).2⟩, h.2.2⟩
theorem ND.own.lt {lo : Nat} {m : ND} {w : World} (h : m.own lo w) (s : Bool) (b : Nat) (hb : m.comp s = some b) : lo ≤ b ∧ b < w.heap.size := by
  obtain ⟨_, ⟨a, c, e, hk⟩, ⟨a', c', e', ht⟩⟩ := h
  cases s with
  | true =>
    unfold ND.comp blk at hb
    simp only [if_true] at hb
    split at hb
    · cases hb
    · rename_i h0
      rcases hk with h1 | h1
      · rw [h1] at h0; exact absurd rfl h0
      · exact World.ownsRow.lt h1 b hb
  | false =>
    unfold ND.comp blk at hb
    simp only [Bool.false_eq_true, if_false] at hb
    split at hb
    · cases hb
    · rename_i h0
      rcases ht with h1 | h1
      · exact absurd h1 h0
      · exact World.ownsRow.lt h1 b hb
theorem From.refl (lo : Nat) (w : World) : From lo w w := ⟨Nat.le_refl _, fun _ _ _ => rfl⟩
theorem From.trans {lo : Nat} {a b c : World} (h : From lo a b) (k : From lo b c) : From lo a c := ⟨Nat.le_trans h.1 k.1, fun q h1 h2 => (k.2 q h1 (Nat.lt_of_lt_of_le h2 h.1)).trans (h.2 q h1 h2)⟩
theorem From.mono {lo lo' : Nat} {a b : World} (h : From lo a b) (hl : lo ≤ lo') : From lo' a b := ⟨h.1, fun q h1 h2 => h.2 q (Nat.le_trans hl h1) h2⟩
theorem from_set {lo g : Nat} {w : World} (hg : g < lo) (j : Nat) (v : Value) : From lo w (w.setCell ⟨g, j, none⟩ v) := ⟨by simp, fun k h1 _ => Below.heap_setCell w ⟨g, j, none⟩ v k (fun e => by simp at e; omega)⟩
theorem from_cells {lo g : Nat} (hg : g < lo) : ∀ (vs : List Value) (o : Nat) (w : World), From lo w (w.setCells g o vs)
  | [], _, w => From.refl lo w
  | v :: vs, o, w => (from_set hg o v).trans (from_cells hg vs (o + 1) _)
theorem cells_size (g : Nat) : ∀ (vs : List Value) (o : Nat) (w : World), (w.setCells g o vs).heap.size = w.heap.size
  | [], _, _ => rfl
  | v :: vs, o, w => (cells_size g vs (o + 1) _).trans (by simp)
theorem putA_all (cs : Array Value) (vs : List Value) (h : vs.length = cs.size) : putA cs 0 vs = vs.toArray := by
  apply Array.ext_getElem?
  intro i
  rw [putA_at _ _ _ _ (by omega)]
  by_cases hi : i < vs.length
  · rw [if_pos (by omega)]; simp
  · rw [if_neg (by omega), Array.getElem?_eq_none (by omega), Array.getElem?_eq_none (by simpa using by omega)]
/-- To be read. -/
theorem KRow.kat {lo : Nat} {v : Value} {zs : List Int} {w : World} (h : KRow lo v zs w) (hr : AllI zs) : KAt w v zs := by
  obtain ⟨a, c, e, h⟩ := h
  rcases h with h0 | h
  · subst h0; exact ⟨a, c, e, rfl, hr, Or.inl rfl⟩
  · rcases h.2 with ⟨h1, h2⟩ | ⟨g, cap, cur, h1, _⟩
    · exact ⟨a, c, e, rfl, hr, Or.inl h2⟩
    · subst h1
      exact ⟨_, cap, rfl, RowI.ints h rfl hr⟩
theorem TRow.tat {lo rl : Nat} {v : Value} {zs : List Int} {w : World} (h : TRow lo v rl zs w) (hr : AllI zs) (hl : zs.length = rl * 3) : TAt w v rl zs := by
  obtain ⟨a, c, e, h⟩ := h
  rcases h with h0 | h
  · exact ⟨a, c, e, hl, hr, Or.inl h0⟩
  · obtain ⟨a', c', e', h'⟩ := RowR.slice h hr
    exact ⟨a', c', e', h'⟩
theorem OwnN.nds {lo : Nat} {v : Value} {ms : List ND} {w : World} (h : OwnN lo v ms w) : ∃ a cap, v = .slice a ms.length cap ∧ Nds w a (ms.map ND.n) := by
  have hok : ∀ n ∈ ms.map ND.n, n.ok := fun n hn => by
    obtain ⟨m, hm, rfl⟩ := List.mem_map.1 hn
    exact (h.2.1 m hm).1.1
  have hs := h.1.1
  rcases h.1.2 with ⟨h1, h2⟩ | ⟨g, cap, cur, h1, hlo, hg, hnc, hcm, hcs, htake⟩
  · refine ⟨none, 0, by rw [h1, h2], hok, Or.inl ?_⟩
    rw [List.length_eq_zero_iff.1 h2]; rfl
  · refine ⟨some ⟨g, 0, none⟩, cap, h1, hok, Or.inr ⟨g, 0, rfl, (Array.getElem?_eq_some_iff.1 hg).1, fun i n hi => ?_⟩⟩
    rw [List.getElem?_map] at hi
    cases hm : ms[i]? with
    | none => rw [hm] at hi; cases hi
    | some m =>
      rw [hm] at hi
      simp at hi
      subst hi
      have hlt := (List.getElem?_eq_some_iff.1 hm).1
      have hmem := List.mem_of_getElem? hm
      obtain ⟨⟨⟨_, hki, _, hri, hrl⟩, hk, ht⟩, _⟩ := h.2.1 m hmem
      refine ⟨m.kv, m.tv, fun j u hu => ?_, hk.kat hki, ht.tat hri hrl⟩
      have hj : j < 64 := by have := (List.getElem?_eq_some_iff.1 hu).1; rwa [nL_len] at this
      have hown := h.1
      rw [h1] at hown
      rw [Nat.zero_add, World.ownsRow.cellAt hown (i * 64 + j) (by omega), cellsN_at ms i j hj, hm]
      exact hu
theorem OwnN.ndsAt {lo g cap : Nat} {ms : List ND} {ns : List PN} {w : World} (h : OwnN lo (.slice (some ⟨g, 0, none⟩) ns.length cap) ms w) (hm : ms.map ND.n = ns) : Nds w (some ⟨g, 0, none⟩) ns := by
  obtain ⟨a, c, e, hn⟩ := h.nds
  simp only [Value.slice.injEq] at e
  rw [hm, ← e.1] at hn
  exact hn
/-- One node stored. -/
theorem OwnN.store {lo g cap i : Nat} {ms : List ND} {m : ND} {w : World} (h : OwnN lo (.slice (some ⟨g, 0, none⟩) ms.length cap) ms w) (hi : i < ms.length) (hm : m.own lo w)
    (hg : ∀ s b, m.comp s = some b → b ≠ g) (hap : ∀ s b, m.comp s = some b → ∀ j mj t, j ≠ i → ms[j]? = some mj → mj.comp t ≠ some b) (hin : ∀ b, m.comp true = some b → m.comp false ≠ some b) :
    OwnN lo (.slice (some ⟨g, 0, none⟩) ms.length cap) (ms.set i m) (w.setCells g (i * 64) m.cells) := by
  have hlen : (ms.set i m).length = ms.length := List.length_set
  have hother : ∀ k, k ≠ g → (w.setCells g (i * 64) m.cells).heap[k]? = w.heap[k]? := fun k hk => by
    have : ∀ (vs : List Value) (o : Nat) (w : World), (w.setCells g o vs).heap[k]? = w.heap[k]? := by
      intro vs
      induction vs with
      | nil => intro o w; rfl
      | cons v vs ih => intro o w; exact (ih _ _).trans (Below.heap_setCell w ⟨g, o, none⟩ v k hk)
    exact this _ _ _
  have rowK : ∀ {e : TypeId} {size n : Nat} {v : Value} {xs : List Value}, w.ownsRow lo e size v n xs → (∀ b, v.ownBlock = some b → b ≠ g) → (w.setCells g (i * 64) m.cells).ownsRow lo e size v n xs := by
    intro e size n v xs hr hne
    refine ⟨hr.1, ?_⟩
    rcases hr.2 with hn | ⟨g', cap', cur, rfl, hb, hg', rest⟩
    · exact .inl hn
    · exact .inr ⟨g', cap', cur, rfl, hb, (hother g' (hne g' rfl)).trans hg', rest⟩
  have ownK : ∀ q : ND, q.own lo w → (∀ s b, q.comp s = some b → b ≠ g) → q.own lo (w.setCells g (i * 64) m.cells) := by
    intro q ⟨h1, ⟨a, c, e, hk⟩, ⟨a', c', e', ht⟩⟩ hne
    refine ⟨h1, ⟨a, c, e, ?_⟩, ⟨a', c', e', ?_⟩⟩
    · by_cases h0 : q.n.kids = []
      · exact Or.inl h0
      · exact Or.inr (rowK (hk.resolve_left h0) fun b hb => hne true b (by
          unfold ND.comp blk
          rw [if_pos rfl, if_neg (by simpa using h0)]; exact hb))
    · by_cases h0 : q.n.rl = 0
      · exact Or.inl h0
      · exact Or.inr (rowK (ht.resolve_left h0) fun b hb => hne false b (by
          unfold ND.comp blk
          rw [if_neg (by decide), if_neg h0]; exact hb))
  refine ⟨?_, fun q hq => ?_, fun a b ma mb s t x ha hb hs ht => ?_⟩
  · rw [hlen, ← cellsN_set ms hi m]
    exact ownsRow_setCells _ _ _ _ h.1
  · rcases List.mem_or_eq_of_mem_set hq with hq | rfl
    · refine ⟨ownK q (h.2.1 q hq).1 fun s b hb e => (h.2.1 q hq).2 s b hb (by rw [e]; rfl), (h.2.1 q hq).2⟩
    · exact ⟨ownK _ hm hg, fun s b hb e => hg s b hb (by simpa [Value.ownBlock] using e.symm)⟩
  · by_cases ea : a = i
    · by_cases eb : b = i
      · subst ea
        rw [eb] at hb
        rw [List.getElem?_set_self hi] at ha hb
        cases ha
        cases hb
        refine ⟨eb.symm, ?_⟩
        cases s <;> cases t
        · rfl
        · exact absurd hs (hin x ht)
        · exact absurd ht (hin x hs)
        · rfl
      · rw [ea, List.getElem?_set_self hi] at ha
        cases ha
        rw [List.getElem?_set_ne (fun e => eb e.symm)] at hb
        exact absurd ht (hap s x hs b mb t eb hb)
    · by_cases eb : b = i
      · rw [eb, List.getElem?_set_self hi] at hb
        cases hb
        rw [List.getElem?_set_ne (fun e => ea e.symm)] at ha
        exact absurd hs (hap t x ht a ma s ea ha)
      · rw [List.getElem?_set_ne (fun e => ea e.symm)] at ha
        rw [List.getElem?_set_ne (fun e => eb e.symm)] at hb
        exact h.2.2 a b ma mb s t x ha hb hs ht
theorem OwnN.there {lo g cap i : Nat} {ms : List ND} {w : World} (h : OwnN lo (.slice (some ⟨g, 0, none⟩) ms.length cap) ms w) (hi : i < ms.length) : w.there g (i * 64) 64 := fun j hj => by
  refine ⟨?_, World.ownsRow.frozenAt h.1 _⟩
  rw [World.ownsRow.cellAt h.1 (i * 64 + j) (by omega), cellsN_at ms i j hj, List.getElem?_eq_getElem hi, Option.bind_some, List.getElem?_eq_getElem (by rw [ND.cells_len]; exact hj)]
  rfl
/-- Nodes of nothing but zeros. -/
def ndZ : ND := ⟨⟨0, [], fun _ => 0, false, 0, []⟩, .slice none 0 0, .slice none 0 0⟩
theorem ndZ_comp (s : Bool) : ndZ.comp s = none := by cases s <;> rfl
theorem ndZ_own (lo : Nat) (w : World) : ndZ.own lo w :=
  ⟨⟨⟨by decide, by decide⟩, fun z hz => by simp [ndZ] at hz, fun i => by show _ ≤ (0 : Int) ∧ (0 : Int) ≤ _; omega, fun z hz => by simp [ndZ] at hz, rfl⟩, ⟨none, 0, rfl, Or.inl rfl⟩, ⟨none, 0, rfl, Or.inl rfl⟩⟩
theorem ownN_zero {lo : Nat} {v : Value} {n : Nat} {w : World} (h : w.ownsRow lo 61 64 v n (cellsN (List.replicate n ndZ))) : OwnN lo v (List.replicate n ndZ) w := by
  refine ⟨by rw [List.length_replicate]; exact h, fun m hm => ?_, fun i j mi mj s t b hi hj hs ht => ?_⟩
  · obtain rfl := List.eq_of_mem_replicate hm
    exact ⟨ndZ_own lo w, fun s b hb => by rw [ndZ_comp] at hb; cases hb⟩
  · obtain rfl := List.eq_of_mem_replicate (List.mem_of_getElem? hi)
    rw [ndZ_comp] at hs; cases hs
theorem made_nd (n : Nat) : (madeCells nZ (n * 64)).toList = cellsN (List.replicate n ndZ) := by
  apply List.ext_getElem?
  intro q
  have hq : q / 64 * 64 + q % 64 = q := by omega
  have h64 : q % 64 < 64 := Nat.mod_lt _ (by decide)
  have e1 := cellsN_at (List.replicate n ndZ) (q / 64) (q % 64) h64
  rw [hq] at e1
  rw [e1]
  have hz : nZ.size = 64 := nA_size ..
  by_cases h : q < n * 64
  · rw [List.getElem?_replicate, if_pos (by omega), Option.bind_some]
    have : nZ[q % 64]? = some (nZ[q % 64]'(by omega)) := Array.getElem?_eq_getElem _
    simp only [madeCells, hz]
    simp [h]
    show some nZ[q % 64]! = nZ.toList[q % 64]?
    rw [Array.getElem?_toList, getElem!_pos nZ (q % 64) (by omega)]
    exact this.symm
  · rw [List.getElem?_eq_none (by simp [madeCells]; omega), List.getElem?_replicate, if_neg (by omega)]
    rfl
theorem info_node : (Try.prog.info? 61).map (fun i => (i.zero, i.size, i.bytes)) = some (some (.agg nZ), 64, 536) := by kernel_rfl
set_option linter.unusedVariables false
set_option maxRecDepth 8000

def Leaf (b : Bool) (v : Value) : Prop := if b = true then ∃ z, v = .bool z else ∃ z, v = .int .i64 z ∧ I64 z
section
variable {H : Type} {enc : TypeId × Value → H} {W : World} {base : Nat} {sp : Nat → Bool} {held : Bool}
/-- Each cell of the type is an int or a Bool, as ks says. -/
def GoodT (enc : TypeId × Value → H) (W : World) (base : Nat) (sp : Nat → Bool) (held : Bool) (t : TypeId) (ks : List Bool) : Prop :=
  ∀ (fuel : Nat) (cs : List Value) (x : DataW H × List MemPlace), DataW.trod enc Try.prog W base sp held fuel t cs = some x → ∀ (j : Nat) (k : Bool), ks[j]? = some k → ∃ v, cs[j]? = some v ∧ Leaf k v
theorem good_int : GoodT enc W base sp held 3 [false] := fun fuel cs x h j k hk => by
  obtain ⟨z, rfl, _, hw⟩ := DataW.trod_int Try.underlying3 h
  match j, hk with
  | 0, hk => simp at hk; subst hk; exact ⟨_, rfl, z, rfl, bounds_i64 hw⟩
theorem good_bool : GoodT enc W base sp held 4 [true] := fun fuel cs x h j k hk => by
  obtain ⟨z, rfl, _⟩ := DataW.trod_bool Try.underlying4 h
  match j, hk with
  | 0, hk => simp at hk; subst hk; exact ⟨_, rfl, z, rfl⟩
theorem good_struct {t : TypeId} {fs : Array Field} {ks : List Bool} (ht : Try.prog.underlying t = some (.struct fs)) (kt : TypeId → List Bool) (hk : ∀ u, GoodT enc W base sp held u (kt u))
    (hloc : ((List.range ks.length).all fun j => (List.range fs.size).any fun i => match fs[i]? with
      | some f => decide (f.offset ≤ j) && decide (j - f.offset < Try.prog.cellsOf f.type) && ((kt f.type)[j - f.offset]? == ks[j]?)
      | none => false) = true) : GoodT enc W base sp held t ks := fun fuel cs x h j k hj => by
  obtain ⟨xs, n, _, _, _, hxl, hfd⟩ := DataW.trod_struct ht h
  have hjl : j < ks.length := (List.getElem?_eq_some_iff.1 hj).1
  have h1 := List.all_eq_true.1 hloc j (List.mem_range.2 hjl)
  obtain ⟨i, hi, h2⟩ := List.any_eq_true.1 h1
  cases hf : fs[i]? with
  | none => rw [hf] at h2; simp at h2
  | some f =>
    rw [hf] at h2
    simp only [Bool.and_eq_true, decide_eq_true_eq, beq_iff_eq] at h2
    obtain ⟨⟨h3, h4⟩, h5⟩ := h2
    have g0 := hfd i f hf
    have hsz : i < xs.length := by rw [hxl]; exact (Array.getElem?_eq_some_iff.1 hf).1
    rw [List.getElem?_eq_getElem hsz] at g0
    obtain ⟨v, hv, hl⟩ := hk f.type n _ _ g0 (j - f.offset) k (by rw [h5, hj])
    refine ⟨v, ?_, hl⟩
    rw [List.getElem?_take, if_pos h4, List.getElem?_drop, show f.offset + (j - f.offset) = j by omega] at hv
    exact hv
def kt0 (t : TypeId) : List Bool := if t = 3 then [false] else if t = 4 then [true] else []
theorem good0 (t : TypeId) : GoodT enc W base sp held t (kt0 t) := by
  unfold kt0
  split
  · subst_vars; exact good_int
  · split
    · subst_vars; exact good_bool
    · exact fun fuel cs x h j k hk => by simp at hk
def kt1 (t : TypeId) : List Bool := if t = 149 then [false, false] else if t = 152 then [false, false, false, false] else kt0 t
theorem good1 (t : TypeId) : GoodT enc W base sp held t (kt1 t) := by
  unfold kt1
  split
  · subst_vars; exact good_struct (fs := Try.prog.fieldsOf 149) (by kernel_rfl) kt0 good0 (by kernel_rfl)
  · split
    · subst_vars; exact good_struct (fs := Try.prog.fieldsOf 152) (by kernel_rfl) kt0 good0 (by kernel_rfl)
    · exact good0 t
def kt2 (t : TypeId) : List Bool := if t = 151 then List.replicate 12 false else kt1 t
theorem good2 (t : TypeId) : GoodT enc W base sp held t (kt2 t) := by
  unfold kt2
  split
  · subst_vars; exact good_struct (fs := Try.prog.fieldsOf 151) (by kernel_rfl) kt1 good1 (by kernel_rfl)
  · exact good1 t
def styKs : List Bool := (List.range 60).map fun i => i == 6 || i == 7
theorem good_sty : GoodT enc W base sp held 154 styKs := good_struct (fs := Try.prog.fieldsOf 154) (by kernel_rfl) kt2 good2 (by kernel_rfl)
theorem sty_of {fuel : Nat} {cs : List Value} {x : DataW H × List MemPlace} (h : DataW.trod enc Try.prog W base sp held fuel 154 cs = some x) :
    ∃ f : Nat → Int, InR f ∧ ∀ j, j < 60 → cs[j]? = some (sCell j (f j)) := by
  have key : ∀ j, j < 60 → ∃ z : Int, cs[j]? = some (sCell j z) ∧ I64 z := fun j hj => by
    obtain ⟨v, hv, hl⟩ := good_sty fuel cs x h j (j == 6 || j == 7) (by simp [styKs, hj])
    by_cases e : j = 6 ∨ j = 7
    · have hb : (j == 6 || j == 7) = true := by simpa using e
      rw [hb] at hl
      obtain ⟨z, rfl⟩ : ∃ z, v = .bool z := hl
      refine ⟨if z then 1 else 0, ?_, ?_⟩
      · rw [hv, sCell, if_pos e]; cases z <;> rfl
      · cases z <;> (unfold I64; simp)
    · have hb : (j == 6 || j == 7) = false := by simpa using e
      rw [hb] at hl
      obtain ⟨z, rfl, hz⟩ : ∃ z, v = .int .i64 z ∧ I64 z := hl
      exact ⟨z, by rw [hv, sCell, if_neg e], hz⟩
  obtain ⟨f, hf⟩ := Go.Deep.choose_lt key
  refine ⟨fun i => if i < 60 then f i else 0, fun i => ?_, fun j hj => by simp only [hj, if_true]; exact (hf j hj).1⟩
  by_cases hi : i < 60
  · simp only [hi, if_true]; exact (hf i hi).2
  · simp only [hi, if_false]; omega
theorem kids_of {fuel : Nat} {cs : List Value} {x : DataW H × List MemPlace} (h : DataW.trod enc Try.prog W base sp held fuel 59 cs = some x) :
    ∃ k zs, cs = [k] ∧ KAt W k zs ∧ AllI zs ∧ zs.length ≤ 9223372036854775807 := by
  rcases Go.ChangeShapes.open_ints Try.underlying59 Try.underlying3 (by kernel_rfl) h with ⟨rfl, _⟩ | ⟨a, len, cap, zs, rfl, _⟩
  · exact ⟨_, [], rfl, ⟨none, 0, rfl, rfl, (fun z hz => by cases hz), Or.inl rfl⟩, (fun z hz => by cases hz), by simp⟩
  · obtain ⟨zs', hz, hl⟩ := ints_of (a := some a) (len := len) (cap := cap) (d := x.1) (p := x.2) ⟨fuel, h⟩
    have e : zs'.length = len := hz.1
    exact ⟨_, zs', rfl, ⟨some a, cap, by rw [e], by rw [e]; exact hz⟩, hz.2.1, by omega⟩
theorem rule_flds (i : Nat) (hi : i < 3) : ∃ f, (Try.prog.fieldsOf 194)[i]? = some f ∧ f.offset = i ∧ f.type = 3 := by
  match i, hi with
  | 0, _ => exact ⟨_, rfl, rfl, rfl⟩
  | 1, _ => exact ⟨_, rfl, rfl, rfl⟩
  | 2, _ => exact ⟨_, rfl, rfl, rfl⟩
theorem rules_of {fuel : Nat} {cs : List Value} {x : DataW H × List MemPlace} (hl1 : cs.length = 1) (h : DataW.trod enc Try.prog W base sp held fuel 157 cs = some x) :
    ∃ t rl zs, cs = [t] ∧ TAt W t rl zs ∧ AllI zs ∧ zs.length = rl * 3 ∧ rl ≤ 9223372036854775807 := by
  obtain ⟨xs, n, _, _, _, hxl, hfd⟩ := DataW.trod_struct Try.underlying157 h
  have g0 := hfd 0 _ rfl
  have h0x : 0 < xs.length := by rw [hxl]; decide
  rw [List.getElem?_eq_getElem h0x] at g0
  have g0' : DataW.trod enc Try.prog W base sp held n 155 ((cs.drop 0).take (Try.prog.cellsOf 155)) = some xs[0] := g0
  rw [show Try.prog.cellsOf 155 = 1 by kernel_rfl] at g0'
  obtain ⟨a, len, cap, zs, hcs, hz, hl⟩ := rls_of (fs := Try.prog.fieldsOf 194) Try.underlying155 (by kernel_rfl) (by kernel_rfl) rule_flds g0'
  refine ⟨.slice a len cap, len, zs, ?_, ⟨a, cap, rfl, hz⟩, hz.2.1, hz.1, hl⟩
  match cs, hl1 with
  | [y], _ => simpa using hcs
/-- A node whose cells lie somewhere. -/
theorem node_of {fuel : Nat} {cs : List Value} {x : DataW H × List MemPlace} (hl : cs.length = 64) (h : DataW.trod enc Try.prog W base sp held fuel 159 cs = some x) :
    ∃ (n : PN) (k t : Value), cs = nL n.up k n.sty n.meas t ∧ KAt W k n.kids ∧ TAt W t n.rl n.rules ∧ n.ok ∧ n.fit := by
  obtain ⟨xs, m, _, _, _, hxl, hfd⟩ := DataW.trod_struct Try.underlying159 h
  have sub : ∀ (o c : Nat) (vs : List Value), (cs.drop o).take c = vs → ∀ j v, vs[j]? = some v → cs[o + j]? = some v := fun o c vs e j v hv => by
    subst e
    rw [List.getElem?_take] at hv
    split at hv
    · rwa [List.getElem?_drop] at hv
    · cases hv
  have at0 : ∀ i (hi : i < xs.length), xs[i]? = some xs[i] := fun i hi => List.getElem?_eq_getElem hi
  have hxl5 : xs.length = 5 := by rw [hxl]; rfl
  have g0 := hfd 0 _ rfl
  have g1 := hfd 1 _ rfl
  have g2 := hfd 2 _ rfl
  have g3 := hfd 3 _ rfl
  have g4 := hfd 4 _ rfl
  rw [at0 0 (by omega)] at g0
  rw [at0 1 (by omega)] at g1
  rw [at0 2 (by omega)] at g2
  rw [at0 3 (by omega)] at g3
  rw [at0 4 (by omega)] at g4
  have g0' : DataW.trod enc Try.prog W base sp held m 3 ((cs.drop 0).take (Try.prog.cellsOf 3)) = some xs[0] := g0
  have g1' : DataW.trod enc Try.prog W base sp held m 59 ((cs.drop 1).take (Try.prog.cellsOf 59)) = some xs[1] := g1
  have g2' : DataW.trod enc Try.prog W base sp held m 154 ((cs.drop 2).take (Try.prog.cellsOf 154)) = some xs[2] := g2
  have g3' : DataW.trod enc Try.prog W base sp held m 4 ((cs.drop 62).take (Try.prog.cellsOf 4)) = some xs[3] := g3
  have g4' : DataW.trod enc Try.prog W base sp held m 157 ((cs.drop 63).take (Try.prog.cellsOf 157)) = some xs[4] := g4
  clear g0 g1 g2 g3 g4 hfd
  obtain ⟨u, e0, _, hu⟩ := DataW.trod_int Try.underlying3 g0'
  obtain ⟨k, ks, e1, hk, hki, hkl⟩ := kids_of g1'
  obtain ⟨f, hf, e2⟩ := sty_of g2'
  obtain ⟨mb, e3, _⟩ := DataW.trod_bool Try.underlying4 g3'
  rw [show Try.prog.cellsOf 157 = 1 by kernel_rfl] at g4'
  obtain ⟨t, rl, rs, e4, ht, hri, hrl, hr63⟩ := rules_of (by rw [List.length_take, List.length_drop, hl]; rfl) g4'
  refine ⟨⟨u, ks, f, mb, rl, rs⟩, k, t, nL_ext hl ?_ ?_ (fun j hj => ?_) ?_ ?_, hk, ht, ⟨bounds_i64 hu, hki, hf, hri, hrl⟩, hkl, hr63⟩
  · exact sub 0 _ _ e0 0 _ rfl
  · exact sub 1 _ _ e1 0 _ rfl
  · exact sub 2 _ _ rfl j _ (e2 j hj)
  · exact sub 62 _ _ e3 0 _ rfl
  · exact sub 63 _ _ e4 0 _ rfl
/-- An argument of type Tree. -/
theorem tree_of {base' : Nat} {r : Reach} {v : Value} {d : DataW H} {p : List MemPlace}
    (hv : Value.okWide Try.prog W r base' 68 v) (h : DataW.Trod enc Try.prog W base sp held 68 v d p) : ∃ a cap ns, v = .agg #[.slice a ns.length cap] ∧ Nds W a ns ∧ ns.length ≤ 9223372036854775807 ∧ ∀ n ∈ ns, n.fit := by
  obtain ⟨fuel, hf⟩ := h
  unfold Value.okWide at hv
  rw [Try.underlying68] at hv
  obtain ⟨cs, rfl, hsz, _⟩ := hv
  have hf' : DataW.trod enc Try.prog W base sp held fuel 68 cs.toList = some (d, p) := hf
  obtain ⟨xs, n, _, _, _, hxl, hfd⟩ := DataW.trod_struct Try.underlying68 hf'
  have hn : Try.prog.cellsOf 68 = 1 := by kernel_rfl
  rw [hn] at hsz
  have g0 := hfd 0 _ rfl
  have h0x : 0 < xs.length := by rw [hxl]; decide
  rw [List.getElem?_eq_getElem h0x] at g0
  have g0' : DataW.trod enc Try.prog W base sp held n 66 ((cs.toList.drop 0).take (Try.prog.cellsOf 66)) = some xs[0] := g0
  rw [show Try.prog.cellsOf 66 = 1 by kernel_rfl] at g0'
  have hcl : ∃ y, cs.toList = [y] := by
    match hq : cs.toList, (show cs.toList.length = 1 by simpa using hsz) with
    | [y], _ => exact ⟨y, rfl⟩
  obtain ⟨y, hy⟩ := hcl
  have hcs : cs = #[y] := by rw [← Array.toArray_toList (xs := cs), hy]
  subst hcs
  rcases Go.Deep.open_slice Try.underlying66 g0' with ⟨e, _⟩ | ⟨a, len, cap, m, q, D, Pl, e, hb, hl, hm, hmm, _, hx⟩
  · simp at e
    subst e
    exact ⟨none, 0, [], rfl, ⟨fun n hn => by simp at hn, Or.inl rfl⟩, by simp, fun n hn => by simp at hn⟩
  · simp at e
    subst e
    unfold maxLen at hm
    have hlm : len ≤ m := by rw [hmm]; split <;> omega
    have key : ∀ j, j < m → ∃ n : PN, (∃ k t, (∀ i v, (nL n.up k n.sty n.meas t)[i]? = some v → W.cell? ((a.add (j * 64)).add i) = some v) ∧ KAt W k n.kids ∧ TAt W t n.rl n.rules) ∧ n.ok ∧ n.fit := by
      intro j hj
      obtain ⟨cs', h1, h2⟩ := hx j hj
      have h64 : Try.prog.cellsOf 159 = 64 := by kernel_rfl
      rw [h64] at h1
      obtain ⟨_, hlen, hcell⟩ := World.cells?_some h1
      obtain ⟨n, k, t, e, hk, ht, hok, hfit⟩ := node_of hlen h2
      refine ⟨n, ⟨k, t, fun i v hv => ?_, hk, ht⟩, hok, hfit⟩
      rw [← e] at hv
      have := (List.getElem?_eq_some_iff.1 hv).1
      rw [hcell i (by omega), hv]
    obtain ⟨f, hff⟩ := Go.Deep.choose_lt key
    have hl' : ((List.range len).map f).length = len := by simp
    refine ⟨some a, cap, (List.range len).map f, by rw [hl'], ⟨fun n hn => ?_, ?_⟩, by rw [hl']; omega, fun n hn => ?_⟩
    · obtain ⟨j, hj, rfl⟩ := List.mem_map.1 hn
      exact (hff j (by have := List.mem_range.1 hj; omega)).2.1
    · by_cases h0 : len = 0
      · subst h0; exact Or.inl rfl
      · obtain ⟨b, off, spot⟩ := a
        obtain ⟨k, t, hc, _⟩ := (hff 0 (by omega)).1
        have hc0 := hc 0 _ nL_up
        have hspot : spot = none := by simpa [Addr.add] using World.cell?_spot hc0
        subst hspot
        refine Or.inr ⟨b, off, rfl, ?_, fun i n hi => ?_⟩
        · have := World.block_lt_of_cell? W _ hc0
          simpa [Addr.add] using this
        · have hil : i < len := by have := (List.getElem?_eq_some_iff.1 hi).1; rwa [hl'] at this
          rw [List.getElem?_map, List.getElem?_range hil] at hi
          simp at hi
          subst hi
          obtain ⟨k, t, hc, hk, ht⟩ := (hff i (by omega)).1
          refine ⟨k, t, fun j v hv => ?_, hk, ht⟩
          rw [← hc j v hv]
          rw [Addr.add_mid, Addr.add_mid, Nat.add_assoc]
    · obtain ⟨j, hj, rfl⟩ := List.mem_map.1 hn
      exact (hff j (by have := List.mem_range.1 hj; omega)).2.2
end
set_option linter.unusedVariables false
set_option maxRecDepth 8000
set_option linter.unusedSimpArgs false

/-- What is left. -/
def lfV (left : Int) (n : Nat) : Int := if (n : Int) ≤ left then left - n else -1
theorem sz_of {n : Nat} {left : Int} (h : (n : Int) ≤ left) : lfV left n = left - n := by rw [lfV, if_pos h]
theorem sz_no {n : Nat} {left : Int} (h : left < (n : Int)) : lfV left n = -1 := by rw [lfV, if_neg (by omega)]
theorem szi_any (a : Option Addr) (len cap : Nat) (left : Int) (w : World) (h0 : 0 ≤ left) (h1 : left ≤ 1048576) (hl : len ≤ 9223372036854775807) :
    Calls Try.prog 151 #[.slice a len cap, .int .i64 left] w fun e w' => e = .returned (.int .i64 (lfV left len)) ∧ Below w.heap.size w w' := by
  by_cases h : (len : Int) ≤ left
  · rw [sz_of h]
    go_enter Try.func151, Try.ntmps151
    go_wp2
    go_ret
    exact ⟨rfl, Below.refl _ _⟩
  · rw [sz_no (by omega)]
    go_enter Try.func151, Try.ntmps151
    go_wp2
    go_ret
    exact ⟨rfl, Below.refl _ _⟩
theorem szu_any (a : Option Addr) (len cap : Nat) (left : Int) (w : World) (h0 : 0 ≤ left) (h1 : left ≤ 1048576) (hl : len ≤ 9223372036854775807) :
    Calls Try.prog 163 #[.slice a len cap, .int .i64 left] w fun e w' => e = .returned (.int .i64 (lfV left len)) ∧ Below w.heap.size w w' := by
  by_cases h : (len : Int) ≤ left
  · rw [sz_of h]
    go_enter Try.func163, Try.ntmps163
    go_wp2
    go_ret
    exact ⟨rfl, Below.refl _ _⟩
  · rw [sz_no (by omega)]
    go_enter Try.func163, Try.ntmps163
    go_wp2
    go_ret
    exact ⟨rfl, Below.refl _ _⟩
theorem szta_any (a : Option Addr) (len cap : Nat) (left : Int) (w : World) (h0 : 0 ≤ left) (h1 : left ≤ 1048576) (hl : len ≤ 9223372036854775807) :
    Calls Try.prog 152 #[.agg #[.slice a len cap], .int .i64 left] w fun e w' => e = .returned (.int .i64 (lfV left len)) ∧ Below w.heap.size w w' := by
  go_enter Try.func152, Try.ntmps152
  go_wp2_with (fail)
  refine (szu_any a len cap left _ h0 h1 hl).mono ?_
  rintro e w1 ⟨rfl, b1⟩
  have B := (Go.Joins.below_alloc1 w (.cells #[.slice a len cap] 157)).trans (b1.mono (Go.Joins.below_alloc1 w _).size)
  by_cases h : (len : Int) ≤ left
  · rw [sz_of h]
    go_wp2
    go_ret
    exact ⟨by rw [sz_of h]; rfl, B⟩
  · rw [sz_no (by omega)]
    go_wp2
    go_ret
    exact ⟨by rw [sz_no (by omega)]; rfl, B⟩
set_option maxHeartbeats 1000000 in
theorem szn_any (u : Int) (ka : Option Addr) (kl kc : Nat) (f : Nat → Int) (m : Bool) (ta : Option Addr) (tl tc : Nat) (left : Int) (w : World) (h0 : 0 ≤ left) (h1 : left ≤ 1048576) (hk : kl ≤ 9223372036854775807) (ht : tl ≤ 9223372036854775807) :
    Calls Try.prog 134 #[.agg (nA u (.slice ka kl kc) f m (.slice ta tl tc)), .int .i64 left] w fun e w' => e = .returned (.int .i64 (lfV left (kl + tl))) ∧ Below w.heap.size w w' := by
  have H0 := hp_new w (.cells (nA u (.slice ka kl kc) f m (.slice ta tl tc)) 159)
  have BB := Go.Joins.below_alloc1 w (.cells (nA u (.slice ka kl kc) f m (.slice ta tl tc)) 159)
  obtain ⟨v, ev⟩ : ∃ v, v = w.alloc (.cells (nA u (.slice ka kl kc) f m (.slice ta tl tc)) 159) := ⟨_, rfl⟩
  rw [← ev] at H0 BB
  have EV := Lib.hid ev
  have c1 : v.cell? ⟨w.heap.size, 1, none⟩ = some (.slice ka kl kc) := (Go.Joins.cell_of_block H0 1).trans (by rw [nA, List.getElem?_toArray]; exact nL_kids)
  have HH := Lib.hid H0
  clear ev H0
  go_enter Try.func134, Try.ntmps134
  go_wp2_with (rw [← EV.out])
  refine (szi_any ka kl kc left _ h0 h1 hk).mono ?_
  rintro e w1 ⟨rfl, b1⟩
  have H1 := hp_below HH.out b1
  have c63 : w1.cell? ⟨w.heap.size, 63, none⟩ = some (.slice ta tl tc) := (Go.Joins.cell_of_block H1 63).trans (by rw [nA, List.getElem?_toArray]; exact nL_tab)
  have BB := BB.trans (b1.mono BB.size)
  clear c1 HH H1
  by_cases h : (kl : Int) ≤ left
  · rw [sz_of h]
    go_wp2_with (fail)
    refine (szta_any ta tl tc (left - kl) _ (by omega) (by omega) ht).mono ?_
    rintro e w2 ⟨rfl, b2⟩
    have BB := BB.trans (b2.mono BB.size)
    by_cases h2 : (tl : Int) ≤ left - kl
    · rw [sz_of h2]
      have h3 : 0 ≤ left - (kl : Int) - tl := by omega
      go_wp2
      go_ret
      exact ⟨by rw [sz_of (by omega), show left - ((kl + tl : Nat) : Int) = left - kl - tl by omega]; rfl, BB⟩
    · rw [sz_no (by omega)]
      go_wp2
      go_ret
      exact ⟨by rw [sz_no (by omega)]; rfl, BB⟩
  · rw [sz_no (by omega)]
    go_wp2
    go_ret
    exact ⟨by rw [sz_no (by omega)]; rfl, BB⟩
def SzRel (ns : List PN) (left : Int) (w : World) (l i : Value) (wr : World) : Prop :=
  ∃ (k : Nat) (ll : Int), k ≤ ns.length ∧ i = .int .i64 k ∧ 0 ≤ ll ∧ l = .int .i64 ll ∧ ll = left - ((ns.length + szL (ns.take k) : Nat) : Int) ∧ Below w.heap.size w wr
set_option maxHeartbeats 1000000 in
theorem szs_any (a : Option Addr) (cap : Nat) (ns : List PN) (left : Int) (w : World) (hz : Nds w a ns) (h0 : 0 ≤ left) (h1 : left ≤ 1048576) (hl : ns.length ≤ 9223372036854775807) (hf : ∀ n ∈ ns, n.fit) :
    Calls Try.prog 97 #[.slice a ns.length cap, .int .i64 left] w fun e w' => e = .returned (.int .i64 (lfV left (szS ns))) ∧ Below w.heap.size w w' := by
  by_cases h : (ns.length : Int) ≤ left
  · have HZ := Lib.hid hz
    have HF := Lib.hid hf
    have hl0 : (0 : Int) ≤ left - ns.length := by omega
    clear hz hf
    go_enter Try.func97, Try.ntmps97
    go_wp2
    go_loopw [1, 5] (SzRel ns left w) (fun _ i _ => ns.length - (intOf i).toNat)
    case atStart => exact ⟨0, left - ns.length, Nat.zero_le _, rfl, hl0, rfl, by simp [szL], Below.refl _ _⟩
    case round =>
      obtain ⟨k, ll, hk, rfl, hle, rfl, hll, hb⟩ := hrel
      have hll1 : ll ≤ 1048576 := by omega
      have HL := Lib.hid hll
      clear hll
      by_cases hlt : k < ns.length
      · obtain ⟨b, off, rfl, hbl, ⟨kv, tv, hrg, ⟨ka, kc, rfl, _⟩, ⟨ta, tc, rfl, _⟩⟩⟩ := (HZ.out.below hb).look hlt
        have HR := Lib.hid hrg
        have hfit := HF.out ns[k] (List.getElem_mem hlt)
        have hs := szL_take hlt
        have hlo : (0 : Int) ≤ (k : Int) := Int.natCast_nonneg _
        have hhi : (k : Int) < (ns.length : Int) := by omega
        clear hrg
        obtain ⟨hf1, hf2⟩ := hfit
        unfold szK at hs
        have hsl : szL (ns.take k) ≤ szL ns := szL_take_le ns k
        have hss : szL (ns.take (k + 1)) ≤ szL ns := szL_take_le ns (k + 1)
        have hS : szS ns = ns.length + szL ns := rfl
        generalize ns[k] = n at *
        have HSS := Lib.hid hs
        clear hs hsl hss hS
        go_wp2_with (first
          | ((with_reducible apply list_load_lnd); exact rfl; exact rfl; exact rfl; (with_reducible exact HR.out); simp only [World.size_alloc, Act.put, List.setIfInBounds_toArray, List.set_cons_succ, List.set_cons_zero])
          | fail)
        refine (szn_any n.up ka n.kids.length kc n.sty n.meas ta n.rl tc ll _ hle hll1 hf1 hf2).mono ?_
        rintro e w1 ⟨rfl, b1⟩
        have B := hb.trans (b1.mono hb.size)
        by_cases hq : ((n.kids.length + n.rl : Nat) : Int) ≤ ll
        · rw [sz_of hq]
          have hq2 : (0 : Int) ≤ ll - ((n.kids.length + n.rl : Nat) : Int) := by omega
          have hq3 : ll - ((n.kids.length + n.rl : Nat) : Int) = left - ((ns.length + szL (ns.take (k + 1)) : Nat) : Int) := by have := HL.out; have := HSS.out; omega
          have HQ := Lib.hid hq3
          clear hq3
          generalize ll - ((n.kids.length + n.rl : Nat) : Int) = q at *
          go_wp2
          go_roundw
          case rel => exact ⟨k + 1, q, by omega, by go_num, hq2, rfl, HQ.out, B⟩
          case measure => simp [intOf]; omega
        · rw [sz_no (by omega)]
          go_wp2
          go_ret
          exact ⟨by rw [sz_no (by have := HL.out; have := HSS.out; have := szL_take_le ns (k + 1); unfold szS; omega)]; rfl, B⟩
      · obtain rfl : k = ns.length := by omega
        have e : lfV left (szS ns) = ll := by
          have h1 := HL.out
          rw [List.take_length] at h1
          rw [sz_of (by unfold szS; omega)]
          unfold szS; omega
        have E := Lib.hid e
        clear e
        go_wp2
        go_ret
        exact ⟨by rw [E.out]; rfl, hb⟩
  · have e := sz_no (left := left) (n := szS ns) (by unfold szS; omega)
    have hneg : left - (ns.length : Int) < 0 := by omega
    clear hz hf
    go_enter Try.func97, Try.ntmps97
    go_wp2
    go_ret
    exact ⟨rfl, Below.refl _ _⟩
theorem sztr_any (a : Option Addr) (cap : Nat) (ns : List PN) (left : Int) (w : World) (hz : Nds w a ns) (h0 : 0 ≤ left) (h1 : left ≤ 1048576) (hl : ns.length ≤ 9223372036854775807) (hf : ∀ n ∈ ns, n.fit) :
    Calls Try.prog 48 #[.agg #[.slice a ns.length cap], .int .i64 left] w fun e w' => e = .returned (.int .i64 (lfV left (szS ns))) ∧ Below w.heap.size w w' := by
  have HZ := Lib.hid (hz.below (Go.Joins.below_alloc1 w (.cells #[.slice a ns.length cap] 68)))
  have HF := Lib.hid hf
  clear hz hf
  go_enter Try.func48, Try.ntmps48
  go_wp2_with (fail)
  refine (szs_any a cap ns left _ HZ.out h0 h1 hl HF.out).mono ?_
  rintro e w1 ⟨rfl, b1⟩
  have B := (Go.Joins.below_alloc1 w (.cells #[.slice a ns.length cap] 68)).trans (b1.mono (Go.Joins.below_alloc1 w _).size)
  by_cases h : (szS ns : Int) ≤ left
  · rw [sz_of h]
    go_wp2
    go_ret
    exact ⟨by rw [sz_of h]; rfl, B⟩
  · rw [sz_no (by omega)]
    go_wp2
    go_ret
    exact ⟨by rw [sz_no (by omega)]; rfl, B⟩
set_option linter.unusedVariables false
set_option linter.unusedSimpArgs false
set_option maxRecDepth 8000

theorem KRow.of_row {lo g n cap : Nat} {zs : List Int} {w : World} (h : RowI lo (.slice (some ⟨g, 0, none⟩) n cap) zs w) (hn : zs.length = n) : KRow lo (.slice (some ⟨g, 0, none⟩) n cap) zs w :=
  ⟨_, cap, by rw [hn], Or.inr h⟩
theorem TRow.of_row {lo g n cap : Nat} {zs : List Int} {w : World} (h : RowR lo (.slice (some ⟨g, 0, none⟩) n cap) n zs w) : TRow lo (.slice (some ⟨g, 0, none⟩) n cap) n zs w :=
  ⟨_, cap, rfl, Or.inr h⟩
/-- A node of the call's own comes back. -/
def ToNPost (n : PN) (w : World) (e : Ending) (w' : World) : Prop :=
  ∃ m : ND, m.n = n ∧ e = .returned (.agg (nA n.up m.kv n.sty n.meas m.tv)) ∧ m.own w.heap.size w' ∧ (∀ b, m.comp true = some b → m.comp false ≠ some b) ∧ Below w.heap.size w w'
theorem ND.own.one {lo : Nat} {m : ND} {w : World} (h : m.own lo w) : m.kv.oneCell' = true ∧ m.tv.oneCell' = true := by
  obtain ⟨_, ⟨a, c, e, _⟩, ⟨a', c', e', _⟩⟩ := h
  rw [e, e']; exact ⟨rfl, rfl⟩
theorem blk_slice (g n c k : Nat) (b : Nat) (h : blk (.slice (some ⟨g, 0, none⟩) n c) k = some b) : b = g := by
  unfold blk at h
  split at h
  · cases h
  · simpa [Value.ownBlock] using h.symm
set_option maxHeartbeats 2000000 in
theorem tond_any (n : PN) (ka : Option Addr) (kc : Nat) (ta : Option Addr) (tc : Nat) (w : World) (hok : n.ok) (hk : Ints w ka n.kids.length n.kids) (ht : Rls w ta n.rl n.rules) (hk1 : n.kids.length ≤ 1048576) (ht1 : n.rl ≤ 1048576) :
    Calls Try.prog 135 #[.agg (nA n.up (.slice ka n.kids.length kc) n.sty n.meas (.slice ta n.rl tc))] w (ToNPost n w) := by
  obtain ⟨u, ks, f, m, rl, rs⟩ := n
  simp only at hk ht hk1 ht1 ⊢
  obtain ⟨u0, eu0⟩ : ∃ u0, u0 = w.alloc (.cells (nA u (.slice ka ks.length kc) f m (.slice ta rl tc)) 159) := ⟨_, rfl⟩
  obtain ⟨u1, eu1⟩ : ∃ u1, u1 = u0.alloc (.cells nZ 61) := ⟨_, rfl⟩
  obtain ⟨u2, eu2⟩ : ∃ u2, u2 = u1.alloc (.cells nZ 61) := ⟨_, rfl⟩
  have s0 : u0.heap.size = w.heap.size + 1 := by rw [eu0]; simp
  have s1 : u1.heap.size = w.heap.size + 1 + 1 := by rw [eu1]; simp [s0]
  have s2 : u2.heap.size = w.heap.size + 1 + 1 + 1 := by rw [eu2]; simp [s1]
  have H0 : u2.heap[w.heap.size]? = some (.cells (nA u (.slice ka ks.length kc) f m (.slice ta rl tc)) 159) := by rw [eu2, eu1, eu0]; exact hp_on (hp_on (hp_new w _) _) _
  have H1 : u2.heap[w.heap.size + 1]? = some (.cells nZ 61) := by rw [eu2, eu1, ← s0]; exact hp_on (hp_new u0 _) _
  have H2 : u2.heap[w.heap.size + 1 + 1]? = some (.cells nZ 61) := by rw [eu2, ← s1]; exact hp_new u1 _
  have BB : Below w.heap.size w u2 := by rw [eu2, eu1, eu0]; exact Go.Joins.below_alloc3 ..
  have c0 : u2.cell? ⟨w.heap.size, 0, none⟩ = some (.int .i64 u) := (Go.Joins.cell_of_block H0 0).trans rfl
  have z0 : u2.cell? ⟨w.heap.size + 1 + 1, 0, none⟩ = some (.int .i64 0) := (Go.Joins.cell_of_block H2 0).trans rfl
  have f0 := Go.Joins.unfrozen_of_block H2 0
  -- the first store
  have A0 := Lib.hid (hp_set H0 (g' := w.heap.size + 1 + 1) (by omega) 0 (.int .i64 u))
  have A1 := Lib.hid (hp_set H1 (g' := w.heap.size + 1 + 1) (by omega) 0 (.int .i64 u))
  have A2' : (u2.setCell ⟨w.heap.size + 1 + 1, 0, none⟩ (.int .i64 u)).heap[w.heap.size + 1 + 1]? = some (.cells (nA u (.slice none 0 0) (fun _ => 0) false (.slice none 0 0)) 61) := by
    have h := Go.Joins.block_setCell (i := 0) H2 (.int .i64 u)
    rw [show nZ.setIfInBounds 0 (.int .i64 u) = nA u (.slice none 0 0) (fun _ => 0) false (.slice none 0 0) from nA_put0 u] at h
    exact h
  have A2 := Lib.hid A2'
  have AB := Lib.hid (bl_set BB (g := w.heap.size + 1 + 1) 0 (by omega) (.int .i64 u))
  have c1 : u2.cell? ⟨w.heap.size, 1, none⟩ = some (.slice ka ks.length kc) := (Go.Joins.cell_of_block H0 1).trans rfl
  obtain ⟨u3, eu3⟩ : ∃ u3, u3 = u2.setCell ⟨w.heap.size + 1 + 1, 0, none⟩ (.int .i64 u) := ⟨_, rfl⟩
  have hk3 : Ints u3 ka ks.length ks := by
    have hb : Below w.heap.size w u3 := by rw [eu3]; exact AB.out
    exact hk.below hb
  have ht3 : Rls u3 ta rl rs := by
    have hb : Below w.heap.size w u3 := by rw [eu3]; exact AB.out
    exact ht.below hb
  have s3 : u3.heap.size = w.heap.size + 1 + 1 + 1 := by rw [eu3]; simp [s2]
  have HK3 := Lib.hid hk3
  have HT3 := Lib.hid ht3
  have c13 : u3.cell? ⟨w.heap.size, 1, none⟩ = some (.slice ka ks.length kc) := by rw [eu3]; exact (Go.Joins.cell_of_block A0.out 1).trans rfl
  have A0 := A0.out
  have A1 := A1.out
  have A2 := A2.out
  have AB := AB.out
  rw [← eu3] at A0 A1 A2 AB
  replace A0 := Lib.hid A0
  replace A1 := Lib.hid A1
  replace A2 := Lib.hid A2
  replace AB := Lib.hid AB
  have EU0 := Lib.hid eu0
  have EU1 := Lib.hid eu1
  have EU2 := Lib.hid eu2
  have EU3 := Lib.hid eu3
  have S3 := Lib.hid s3
  clear eu0 eu1 eu2 eu3 H0 H1 H2 BB hk A2' c1 hk3 ht3
  go_enter Try.func135, Try.ntmps135
  go_wp2_with (first
    | ((with_reducible apply list_alloc_nd); exact rfl; exact rfl; simp only [World.size_alloc, Act.put, List.setIfInBounds_toArray, List.set_cons_succ, List.set_cons_zero])
    | (rw [← EU0.out])
    | (rw [← EU1.out])
    | (rw [← EU2.out])
    | (rw [← EU3.out])
    | fail)
  -- the children
  refine (toI_any ka ks.length kc ks u3 HK3.out hk1).mono ?_
  rintro e w1 ⟨rfl, r1, b1⟩
  have sw1 : w.heap.size + 1 + 1 + 1 ≤ w1.heap.size := by rw [← S3.out]; exact b1.size
  have H0 := hp_below A0.out b1
  have H1 := hp_below A1.out b1
  have H2 := hp_below A2.out b1
  have BB := AB.out.trans (b1.mono (by rw [S3.out]; omega))
  have ht1' := HT3.out.below b1
  rw [S3.out] at r1
  obtain ⟨gk, egk⟩ : ∃ gk, gk = w.heap.size + 1 + 1 + 1 := ⟨_, rfl⟩
  have hkb : ∀ b, blk (.slice (some ⟨gk, 0, none⟩) ks.length ks.length) ks.length = some b → b < w1.heap.size := fun b hb => by
    rw [blk_slice _ _ _ _ _ hb, egk]
    exact (World.ownsRow.lt r1 _ rfl).2
  have hk1 : (Value.slice (some ⟨gk, 0, none⟩) ks.length ks.length).oneCell' = true := rfl
  have rk : KRow (w.heap.size + 1 + 1 + 1) (.slice (some ⟨gk, 0, none⟩) ks.length ks.length) ks w1 := by rw [egk]; exact KRow.of_row r1 rfl
  rw [S3.out, ← egk]
  clear egk
  have z1 : w1.cell? ⟨w.heap.size + 1 + 1, 1, none⟩ = some (.slice none 0 0) := (Go.Joins.cell_of_block H2 1).trans rfl
  have f1 := Go.Joins.unfrozen_of_block H2 1
  obtain ⟨u4, eu4⟩ : ∃ u4, u4 = w1.setCell ⟨w.heap.size + 1 + 1, 1, none⟩ (.slice (some ⟨gk, 0, none⟩) ks.length ks.length) := ⟨_, rfl⟩
  have F4 : From (w.heap.size + 1 + 1 + 1) w1 u4 := by rw [eu4]; exact from_set (by omega) _ _
  have s4 : u4.heap.size = w1.heap.size := by rw [eu4]; simp
  replace H0 := hp_set (g' := w.heap.size + 1 + 1) H0 (by omega) 1 (.slice (some ⟨gk, 0, none⟩) ks.length ks.length)
  replace H1 := hp_set (g' := w.heap.size + 1 + 1) H1 (by omega) 1 (.slice (some ⟨gk, 0, none⟩) ks.length ks.length)
  rw [← eu4] at H0 H1
  have H2 : u4.heap[w.heap.size + 1 + 1]? = some (.cells (nA u (.slice (some ⟨gk, 0, none⟩) ks.length ks.length) (fun _ => 0) false (.slice none 0 0)) 61) := by
    rw [eu4, ← nA_put1]; exact Go.Joins.block_setCell (i := 1) H2 (.slice (some ⟨gk, 0, none⟩) ks.length ks.length)
  have BB : Below w.heap.size w u4 := by rw [eu4]; exact bl_set BB (g := w.heap.size + 1 + 1) 1 (by omega) (.slice (some ⟨gk, 0, none⟩) ks.length ks.length)
  have ht4 : Rls u4 ta rl rs := ht.below BB
  have rk := rk.kept F4
  have RG := Lib.hid (range_styN (range_block H0))
  have EU4 := Lib.hid eu4
  have K0 := Lib.hid H0
  have K1 := Lib.hid H1
  have K2 := Lib.hid H2
  have KB := Lib.hid BB
  have KT := Lib.hid ht4
  have KK := Lib.hid rk
  clear A0 A1 A2 AB c0 z0 f0 c13 H0 H1 H2 BB ht1' ht4 rk r1 eu4 HT3 HK3 F4
  dsimp only
  go_wp2_with (first
    | (rw [← EU4.out])
    | ((with_reducible apply list_load_lstyAt); exact rfl; exact rfl; exact rfl; (with_reducible exact RG.out); simp only [Act.put, List.setIfInBounds_toArray, List.set_cons_succ, List.set_cons_zero])
    | fail)
  -- the style
  refine (toSty f u4).mono ?_
  rintro e w2 ⟨rfl, b2⟩
  have sw2 : w.heap.size + 1 + 1 + 1 ≤ w2.heap.size := by have := b2.size; omega
  have s4' := b2.size
  have H0 := hp_below K0.out b2
  have H1 := hp_below K1.out b2
  have H2 := hp_below K2.out b2
  have BB := KB.out.trans (b2.mono (by omega))
  have rk := KK.out.kept (From.of_below b2)
  have T2 : w2.there (w.heap.size + 1 + 1) 2 60 := there_block H2 2 60 (by rw [nA_size]; decide)
  obtain ⟨u5, eu5⟩ : ∃ u5, u5 = w2.setCells (w.heap.size + 1 + 1) 2 (sCells f).toList := ⟨_, rfl⟩
  have F5 : From (w.heap.size + 1 + 1 + 1) w2 u5 := by rw [eu5]; exact from_cells (by omega) _ _ _
  have s5 : u5.heap.size = w2.heap.size := by rw [eu5]; exact cells_size _ _ _ _
  replace H0 := hp_cells (g' := w.heap.size + 1 + 1) (by omega) (sCells f).toList 2 w2 H0
  replace H1 := hp_cells (g' := w.heap.size + 1 + 1) (by omega) (sCells f).toList 2 w2 H1
  replace H2 := hp_puts (sCells f).toList 2 _ w2 H2
  rw [nA_putS] at H2
  replace BB := below_cells (g := w.heap.size + 1 + 1) (by omega) (sCells f).toList 2 w2 BB
  rw [← eu5] at H0 H1 H2 BB
  replace rk := rk.kept F5
  have c62 : u5.cell? ⟨w.heap.size, 62, none⟩ = some (.bool m) := (Go.Joins.cell_of_block H0 62).trans (by rw [nA, List.getElem?_toArray]; exact nL_meas)
  have z62 : u5.cell? ⟨w.heap.size + 1 + 1, 62, none⟩ = some (.bool false) := (Go.Joins.cell_of_block H2 62).trans (by rw [nA, List.getElem?_toArray]; exact nL_meas)
  have f62 := Go.Joins.unfrozen_of_block H2 62
  obtain ⟨u6, eu6⟩ : ∃ u6, u6 = u5.setCell ⟨w.heap.size + 1 + 1, 62, none⟩ (.bool m) := ⟨_, rfl⟩
  have F6 : From (w.heap.size + 1 + 1 + 1) u5 u6 := by rw [eu6]; exact from_set (by omega) _ _
  have s6 : u6.heap.size = w2.heap.size := by rw [eu6, ← s5]; simp
  replace H0 := hp_set (g' := w.heap.size + 1 + 1) H0 (by omega) 62 (.bool m)
  replace H1 := hp_set (g' := w.heap.size + 1 + 1) H1 (by omega) 62 (.bool m)
  replace H2 := Go.Joins.block_setCell (i := 62) H2 (.bool m)
  rw [nA_put62] at H2
  replace BB := bl_set BB (g := w.heap.size + 1 + 1) 62 (by omega) (.bool m)
  rw [← eu6] at H0 H1 H2 BB
  replace rk := rk.kept F6
  have c63 : u6.cell? ⟨w.heap.size, 63, none⟩ = some (.slice ta rl tc) := (Go.Joins.cell_of_block H0 63).trans (by rw [nA, List.getElem?_toArray]; exact nL_tab)
  have ht6 := ht.below BB
  have T5 := Lib.hid T2
  have EU5 := Lib.hid eu5
  have EU6 := Lib.hid eu6
  have L0 := Lib.hid H0
  have L1 := Lib.hid H1
  have L2 := Lib.hid H2
  have LB := Lib.hid BB
  have LT := Lib.hid ht6
  have LK := Lib.hid rk
  clear K0 K1 K2 KB KT KK RG H0 H1 H2 BB rk ht6 eu5 eu6 T2 F5 F6 b1 b2 z1 f1 EU0 EU1 EU2 EU3 EU4 ht
  dsimp only
  go_wp2_with (first
    | ((with_reducible apply list_store_styAt); exact rfl; exact rfl; exact rfl; exact rfl; (with_reducible exact T5.out); simp only [Act.put, List.setIfInBounds_toArray, List.set_cons_succ, List.set_cons_zero])
    | (rw [← EU5.out])
    | (rw [← EU6.out])
    | fail)
  -- the table
  refine (toT_any ta rl tc rs u6 LT.out ht1).mono ?_
  rintro e w3 ⟨gt, rfl, r3, b3⟩
  have sw3 := b3.size
  have H0 := hp_below L0.out b3
  have H1 := hp_below L1.out b3
  have H2 := hp_below L2.out b3
  have BB := LB.out.trans (b3.mono (by omega))
  have rk := LK.out.kept (From.of_below b3)
  have hgt := World.ownsRow.lt r3 gt rfl
  have ht1' : (Value.slice (some ⟨gt, 0, none⟩) rl rl).oneCell' = true := rfl
  have htb : ∀ b, blk (.slice (some ⟨gt, 0, none⟩) rl rl) rl = some b → b = gt := fun b hb => blk_slice _ _ _ _ _ hb
  have rt : TRow (w.heap.size + 1 + 1 + 1) (.slice (some ⟨gt, 0, none⟩) rl rl) rl rs w3 := (TRow.of_row r3).lower (by omega)
  have z63 : w3.cell? ⟨w.heap.size + 1 + 1, 63, none⟩ = some (.slice none 0 0) := (Go.Joins.cell_of_block H2 63).trans (by rw [nA, List.getElem?_toArray]; exact nL_tab)
  have f63 := Go.Joins.unfrozen_of_block H2 63
  obtain ⟨u7, eu7⟩ : ∃ u7, u7 = w3.setCell ⟨w.heap.size + 1 + 1, 63, none⟩ (.slice (some ⟨gt, 0, none⟩) rl rl) := ⟨_, rfl⟩
  have F7 : From (w.heap.size + 1 + 1 + 1) w3 u7 := by rw [eu7]; exact from_set (by omega) _ _
  replace H1 := hp_set (g' := w.heap.size + 1 + 1) H1 (by omega) 63 (.slice (some ⟨gt, 0, none⟩) rl rl)
  replace H2 := Go.Joins.block_setCell (i := 63) H2 (.slice (some ⟨gt, 0, none⟩) rl rl)
  rw [nA_put63] at H2
  replace BB := bl_set BB (g := w.heap.size + 1 + 1) 63 (by omega) (.slice (some ⟨gt, 0, none⟩) rl rl)
  rw [← eu7] at H1 H2 BB
  have RG1 : u7.rangeAt (w.heap.size + 1 + 1) 0 (nL u (.slice (some ⟨gk, 0, none⟩) ks.length ks.length) f m (.slice (some ⟨gt, 0, none⟩) rl rl)) := range_block H2
  have RG := Lib.hid RG1
  clear RG1
  have T1 := Lib.hid (there_block H1 0 64 (by show 0 + 64 ≤ nZ.size; rw [nZ, nA_size]; decide))
  obtain ⟨u8, eu8⟩ : ∃ u8, u8 = u7.setCells (w.heap.size + 1) 0 (nL u (.slice (some ⟨gk, 0, none⟩) ks.length ks.length) f m (.slice (some ⟨gt, 0, none⟩) rl rl)) := ⟨_, rfl⟩
  have F8 : From (w.heap.size + 1 + 1 + 1) u7 u8 := by rw [eu8]; exact from_cells (by omega) _ _ _
  replace H1 := hp_puts (nL u (.slice (some ⟨gk, 0, none⟩) ks.length ks.length) f m (.slice (some ⟨gt, 0, none⟩) rl rl)) 0 _ u7 H1
  rw [putA_all _ _ (by rw [nL_len]; exact (nA_size ..).symm)] at H1
  replace BB := below_cells (g := w.heap.size + 1) (by omega) (nL u (.slice (some ⟨gk, 0, none⟩) ks.length ks.length) f m (.slice (some ⟨gt, 0, none⟩) rl rl)) 0 u7 BB
  rw [← eu8] at H1 BB
  have H1 : u8.heap[w.heap.size + 1]? = some (.cells (nA u (.slice (some ⟨gk, 0, none⟩) ks.length ks.length) f m (.slice (some ⟨gt, 0, none⟩) rl rl)) 61) := H1
  have rk8 := Lib.hid (((rk.kept F7).kept F8).lower (show w.heap.size ≤ _ by omega))
  have rt8 := Lib.hid (((rt.kept F7).kept F8).lower (show w.heap.size ≤ _ by omega))
  have EU7 := Lib.hid eu7
  have EU8 := Lib.hid eu8
  have G1 := Lib.hid H1
  have GB := Lib.hid BB
  have HTB := Lib.hid htb
  have HKB := Lib.hid hkb
  have HOK := Lib.hid hok
  clear L0 L1 L2 LB LT LK H0 H1 H2 BB rk rt r3 eu7 eu8 F7 F8 b3 c62 z62 f62 c63 EU5 EU6 T5 htb hkb hok
  dsimp only
  go_wp2_with (first
    | (rw [← EU7.out])
    | ((with_reducible apply list_load_nd); exact rfl; exact rfl; exact rfl; (with_reducible exact RG.out); simp only [Act.put, List.setIfInBounds_toArray, List.set_cons_succ, List.set_cons_zero])
    | ((with_reducible apply list_store_nd); exact rfl; exact rfl; exact rfl; exact rfl; (with_reducible exact T1.out); (with_reducible exact hk1); (with_reducible exact ht1'); simp only [Act.put, List.setIfInBounds_toArray, List.set_cons_succ, List.set_cons_zero])
    | (rw [← EU8.out])
    | fail)
  refine bodyPost_ret (results_nd rfl rfl G1.out) rfl ⟨(⟨⟨u, ks, f, m, rl, rs⟩, (.slice (some ⟨gk, 0, none⟩) ks.length ks.length), (.slice (some ⟨gt, 0, none⟩) rl rl)⟩ : ND), rfl, rfl, ⟨HOK.out, rk8.out, rt8.out⟩, fun b hb hb' => ?_, GB.out⟩
  have h1 := HKB.out b hb
  have h2 := HTB.out b hb'
  omega
def TNRel (ns : List PN) (w : World) (i : Value) (wr : World) : Prop :=
  ∃ (k : Nat) (ms : List ND), k ≤ ns.length ∧ i = .int .i64 k ∧ ms.length = ns.length ∧ (∀ j, j < k → (ms[j]?).map ND.n = ns[j]?) ∧ (∀ j, k ≤ j → j < ns.length → ms[j]? = some ndZ) ∧
    OwnN w.heap.size (.slice (some ⟨w.heap.size, 0, none⟩) ms.length ns.length) ms wr ∧ Below w.heap.size w wr
/-- A row of nodes of the call's own comes back. -/
def TNPost (ns : List PN) (w : World) (e : Ending) (w' : World) : Prop :=
  ∃ ms : List ND, ms.map ND.n = ns ∧ e = .returned (.slice (some ⟨w.heap.size, 0, none⟩) ns.length ns.length) ∧ OwnN w.heap.size (.slice (some ⟨w.heap.size, 0, none⟩) ns.length ns.length) ms w' ∧ Below w.heap.size w w'
set_option maxHeartbeats 2000000 in
theorem tons_any (a : Option Addr) (cap : Nat) (ns : List PN) (w : World) (hz : Nds w a ns) (hl : szS ns ≤ 1048576) :
    Calls Try.prog 98 #[.slice a ns.length cap] w (TNPost ns w) := by
  obtain ⟨i0, hi, hz0, hz1, hz2⟩ := info_parts info_node
  have hnl : ns.length ≤ 1048576 := by unfold szS at hl; omega
  have HL := Lib.hid hl
  clear hl
  go_enter Try.func98, Try.ntmps98
  go_wp2_with (first
    | (at_make; refine wpList_make_full _ rfl _ _ 24 rfl w.heap.size 61 i0 (.agg nZ) 64 Try.underlying24 hi hz0 hz1 .i64 .i64 _ _ ns.length rfl rfl rfl rfl (by rw [hz2]; omega) (by unfold maxLen; omega) (Nat.le_refl _) ?_; intro w0 hown0 hgrow0))
  have hr0 : OwnN w.heap.size (.slice (some ⟨w.heap.size, 0, none⟩) (List.replicate ns.length ndZ).length ns.length) (List.replicate ns.length ndZ) w0 := by
    rw [show (Value.agg nZ).cells = nZ from rfl, made_nd] at hown0
    rw [List.length_replicate]
    exact ownN_zero hown0
  have hb0 : Below w.heap.size w w0 := (Below.refl _ _).grown hgrow0 (Nat.le_refl _) (fun g hg => by cases hg)
  have HR0 := Lib.hid hr0
  clear hown0 hgrow0 hr0
  go_wp2
  go_loopw [4] (TNRel ns w) (fun i _ => ns.length - (intOf i).toNat)
  case atStart => exact ⟨0, List.replicate ns.length ndZ, Nat.zero_le _, rfl, List.length_replicate, fun j hj => absurd hj (Nat.not_lt_zero _), fun j _ hj => by rw [List.getElem?_replicate, if_pos hj], HR0.out, hb0⟩
  case round =>
    obtain ⟨k, ms, hk, rfl, hml, hd, hr, ho, hb⟩ := hrel
    have HO := Lib.hid ho
    have HD := Lib.hid hd
    have HR := Lib.hid hr
    have HML := Lib.hid hml
    clear ho hd hr hml HR0
    by_cases hlt : k < ns.length
    · have hnd := (hz.below hb).look hlt
      have hok := hz.1 ns[k] (List.getElem_mem hlt)
      have hsz := szK_le hlt
      obtain ⟨b, off, rfl, hbl, ⟨kv, tv, hrg, ⟨ka, kc, rfl, hki⟩, ⟨ta, tc, rfl, hti⟩⟩⟩ := hnd
      have hlo : (0 : Int) ≤ (k : Int) := Int.natCast_nonneg _
      have hhi : (k : Int) < (ns.length : Int) := by omega
      have hkl : ns[k].kids.length ≤ 1048576 := by have := HL.out; unfold szS at this; unfold szK at hsz; omega
      have htl : ns[k].rl ≤ 1048576 := by have := HL.out; unfold szS at this; unfold szK at hsz; omega
      have hnk : ns[k]? = some ns[k] := List.getElem?_eq_getElem hlt
      have HZ := Lib.hid hz
      have HNK := Lib.hid hnk
      have RG := Lib.hid hrg
      clear hz hrg hnk hsz
      generalize ns[k] = n at *
      go_wp2_with (first
        | ((with_reducible apply list_load_lnd); exact rfl; exact rfl; exact rfl; (with_reducible exact RG.out); simp only [Act.put, List.setIfInBounds_toArray, List.set_cons_succ, List.set_cons_zero])
        | fail)
      refine (tond_any n ka kc ta tc wr hok hki hti hkl htl).mono ?_
      rintro e w1 ⟨m, hmn, rfl, hmo, hap, b1⟩
      have hb1 := hb.trans (b1.mono hb.size)
      have ho1 := HO.out.below b1
      have hkm : k < ms.length := by rw [HML.out]; exact hlt
      have T1 := Lib.hid (ho1.there hkm)
      obtain ⟨o1, o2⟩ := hmo.one
      have hmo2 := hmo.lower (lo' := w.heap.size) hb.size
      have hst := ho1.store (m := m) hkm hmo2 (fun s x hx => by have := hmo.lt s x hx; have := (World.ownsRow.lt HO.out.1 w.heap.size rfl).2; omega)
        (fun s x hx j mj t hj hmj hc => by
          have h1 := hmo.lt s x hx
          have h2 := (HO.out.2.1 mj (List.mem_of_getElem? hmj)).1.lt t x hc
          omega) hap
      have B1 := below_cells (g := w.heap.size) (Nat.le_refl _) m.cells (k * 64) w1 hb1
      obtain ⟨u2, eu2⟩ : ∃ u2, u2 = w1.setCells w.heap.size (k * 64) m.cells := ⟨_, rfl⟩
      rw [← eu2] at hst B1
      have eu2' : w1.setCells w.heap.size (k * 64) (nL n.up m.kv n.sty n.meas m.tv) = u2 := by rw [eu2, ← hmn]; rfl
      have HS := Lib.hid hst
      have HB1 := Lib.hid B1
      have EU2 := Lib.hid eu2'
      have O1 := Lib.hid o1
      have O2 := Lib.hid o2
      have HMN := Lib.hid hmn
      clear hst B1 eu2 eu2' ho1 hmo hmo2 hap b1 hb1 o1 o2 hki hti hmn
      dsimp only
      go_wp2_with (first
        | ((with_reducible apply list_store_nd); exact rfl; exact rfl; exact rfl; exact rfl; (with_reducible exact T1.out); (with_reducible exact O1.out); (with_reducible exact O2.out); simp only [Act.put, List.setIfInBounds_toArray, List.set_cons_succ, List.set_cons_zero])
        | (rw [EU2.out])
        | fail)
      go_roundw
      case rel =>
        refine ⟨k + 1, ms.set k m, by omega, by go_num, by rw [List.length_set]; exact HML.out, fun j hj => ?_, fun j h1 h2 => ?_, ?_, HB1.out⟩
        · by_cases e : j = k
          · subst e
            rw [List.getElem?_set_self hkm, HNK.out]; simp [HMN.out]
          · rw [List.getElem?_set_ne (fun h => e h.symm)]; exact HD.out j (by omega)
        · rw [List.getElem?_set_ne (by omega)]; exact HR.out j (by omega) h2
        · rw [List.length_set]; exact HS.out
      case measure => simp [intOf]; omega
    · obtain rfl : k = ns.length := by omega
      have hmap : ms.map ND.n = ns := by
        apply List.ext_getElem?
        intro j
        rw [List.getElem?_map]
        by_cases hj : j < ns.length
        · exact HD.out j hj
        · rw [List.getElem?_eq_none (by rw [HML.out]; omega), List.getElem?_eq_none (by omega)]; rfl
      have ho := HO.out
      rw [HML.out] at ho
      clear hz
      go_wp2
      go_ret
      exact ⟨ms, hmap, rfl, ho, hb⟩
/-- A tree of the call's own comes back. -/
def ToTrPost (ns : List PN) (w : World) (e : Ending) (w' : World) : Prop :=
  ∃ (g : Nat) (ms : List ND), ms.map ND.n = ns ∧ e = .returned (.agg #[.slice (some ⟨g, 0, none⟩) ns.length ns.length]) ∧ OwnN w.heap.size (.slice (some ⟨g, 0, none⟩) ns.length ns.length) ms w' ∧ Below w.heap.size w w'
set_option maxHeartbeats 1000000 in
theorem totr_any (a : Option Addr) (cap : Nat) (ns : List PN) (w : World) (hz : Nds w a ns) (hl : szS ns ≤ 1048576) :
    Calls Try.prog 49 #[.agg #[.slice a ns.length cap]] w (ToTrPost ns w) := by
  have bb := below_three w (.cells #[.slice a ns.length cap] 68) (.cells #[.slice none 0 0] 26) (.cells #[.slice none 0 0] 26)
  have h1 := hp_on (hp_new (w.alloc (.cells #[.slice a ns.length cap] 68)) (.cells #[.slice none 0 0] 26)) (.cells #[.slice none 0 0] 26)
  have h2 := hp_new ((w.alloc (.cells #[.slice a ns.length cap] 68)).alloc (.cells #[.slice none 0 0] 26)) (.cells #[.slice none 0 0] 26)
  have hsz : (((w.alloc (.cells #[.slice a ns.length cap] 68)).alloc (.cells #[.slice none 0 0] 26)).alloc (.cells #[.slice none 0 0] 26)).heap.size = w.heap.size + 3 := by simp
  simp only [World.size_alloc] at h1 h2
  have HZ := Lib.hid (hz.below bb)
  clear hz
  go_enter Try.func49, Try.ntmps49
  go_wp2_with (fail)
  generalize (((w.alloc (.cells #[.slice a ns.length cap] 68)).alloc (.cells #[.slice none 0 0] 26)).alloc (.cells #[.slice none 0 0] 26)) = u at *
  refine (tons_any a cap ns u HZ.out hl).mono ?_
  rintro e w1 ⟨ms, hms, rfl, r1, b1⟩
  rw [hsz] at r1
  have g1 := hp_below h1 b1
  have g2 := hp_below h2 b1
  have z1 := Go.Joins.cell_of_block g1 0
  have F1 := Go.Joins.unfrozen_of_block g1 0
  have z2 := Go.Joins.cell_of_block g2 0
  have F2 := Go.Joins.unfrozen_of_block g2 0
  simp at z1 z2
  have B1 := bb.trans (b1.mono bb.size)
  have R1 := (r1.kept (from_set (g := w.heap.size + 1 + 1) (by omega) 0 (.slice (some ⟨w.heap.size + 3, 0, none⟩) ns.length ns.length))).kept (from_set (g := w.heap.size + 1) (by omega) 0 (.slice (some ⟨w.heap.size + 3, 0, none⟩) ns.length ns.length))
  have B2 := bl_set (bl_set B1 (g := w.heap.size + 1 + 1) 0 (by omega) (.slice (some ⟨w.heap.size + 3, 0, none⟩) ns.length ns.length)) (g := w.heap.size + 1) 0 (by omega) (.slice (some ⟨w.heap.size + 3, 0, none⟩) ns.length ns.length)
  have R2 := Lib.hid R1
  clear R1 r1 g1 g2 h1 h2 b1 bb B1 HZ
  rw [hsz]
  dsimp only
  go_wp2
  refine bodyPost_ret (v := .agg #[.slice (some ⟨w.heap.size + 3, 0, none⟩) ns.length ns.length]) (by simp [results, Try.results49, go_sem, z1]) rfl ⟨w.heap.size + 3, ms, hms, rfl, OwnN.lower R2.out (by omega), B2⟩
set_option linter.unusedVariables false
set_option linter.unusedSimpArgs false
set_option maxRecDepth 8000

section
variable {K : Act → Prop} {a : Act} {o : Oper} {w : World} {x : Operand} {g off : Nat}
theorem quiet_load_nd {C : World → Prop} {u : Int} {k : Value} {f : Nat → Int} {m : Bool} {t : Value} (ho : o.op = .load 61 x) (hx : a.eval x = .pointer (some ⟨g, off, none⟩)) (hC : ∀ w, C w → w.rangeAt g off (nL u k f m t)) (h : K (a.put o.dst (.agg (nA u k f m t)))) : o.quiet Try.prog a C K :=
  ⟨.agg (nA u k f m t), fun w hw => by
    unfold Oper.quietAt execOp
    simp only [ho, hx, Instr.loadAt, Instr.sureAddr, Sem.run_bind, Sem.run_pure, Result.andThen_ok, run_loadVar_mid w g off _ _ _ (hC w hw) nd_under rfl (nd_size ..)]
    exact ⟨rfl, rfl⟩, h⟩
theorem quiet_nd {u : Int} {k : Value} {f : Nat → Int} {m : Bool} {t : Value} (ho : o.op = .load 61 x) (hx : a.eval x = .pointer (some ⟨g, off, none⟩)) (hg : w.rangeAt g off (nL u k f m t)) (h : K (a.put o.dst (.agg (nA u k f m t)))) :
    o.quiet Try.prog a (fun w' => ∃ p : Regrown, w' = Sort.grow (redrawn w p.d) p.os) K :=
  quiet_load_nd ho hx (fun w' ⟨p, e⟩ => e ▸ rg_below hg (below_regrown w p.d p.os)) h
end
set_option maxHeartbeats 2000000 in
theorem eqnd_any (n : PN) (ka ka' : Option Addr) (kc kc' : Nat) (ta ta' : Option Addr) (tc tc' : Nat) (w : World) (hk : Ints w ka n.kids.length n.kids) (ht : Rls w ta n.rl n.rules) (hk' : Ints w ka' n.kids.length n.kids) (ht' : Rls w ta' n.rl n.rules) (hk1 : n.kids.length ≤ 4611686018427387904) (ht1 : n.rl ≤ 4611686018427387904) :
    Calls Try.prog 136 #[.agg (nA n.up (.slice ka n.kids.length kc) n.sty n.meas (.slice ta n.rl tc)), .agg (nA n.up (.slice ka' n.kids.length kc') n.sty n.meas (.slice ta' n.rl tc'))] w fun e w' => e = .returned (.bool true) ∧ Below w.heap.size w w' := by
  obtain ⟨u, ks, f, m, rl, rs⟩ := n
  simp only at hk ht hk' ht' hk1 ht1 ⊢
  obtain ⟨u0, eu0⟩ : ∃ u0, u0 = w.alloc (.cells (nA u (.slice ka ks.length kc) f m (.slice ta rl tc)) 61) := ⟨_, rfl⟩
  obtain ⟨u1, eu1⟩ : ∃ u1, u1 = u0.alloc (.cells (nA u (.slice ka' ks.length kc') f m (.slice ta' rl tc')) 61) := ⟨_, rfl⟩
  have s0 : u0.heap.size = w.heap.size + 1 := by rw [eu0]; simp
  have H0 : u1.heap[w.heap.size]? = some (.cells (nA u (.slice ka ks.length kc) f m (.slice ta rl tc)) 61) := by rw [eu1, eu0]; exact hp_on (hp_new w _) _
  have H1 : u1.heap[w.heap.size + 1]? = some (.cells (nA u (.slice ka' ks.length kc') f m (.slice ta' rl tc')) 61) := by rw [eu1, ← s0]; exact hp_new u0 _
  have BB : Below w.heap.size w u1 := by rw [eu1, eu0]; exact Go.Joins.below_alloc2 ..
  have c0 : u1.cell? ⟨w.heap.size, 0, none⟩ = some (.int .i64 u) := (Go.Joins.cell_of_block H0 0).trans rfl
  have d0 : u1.cell? ⟨w.heap.size + 1, 0, none⟩ = some (.int .i64 u) := (Go.Joins.cell_of_block H1 0).trans rfl
  have c1 : u1.cell? ⟨w.heap.size, 1, none⟩ = some (.slice ka ks.length kc) := (Go.Joins.cell_of_block H0 1).trans rfl
  have d1 : u1.cell? ⟨w.heap.size + 1, 1, none⟩ = some (.slice ka' ks.length kc') := (Go.Joins.cell_of_block H1 1).trans rfl
  have HK := Lib.hid (hk.below BB)
  have HK' := Lib.hid (hk'.below BB)
  have A0 := Lib.hid H0
  have A1 := Lib.hid H1
  have AB := Lib.hid BB
  have EU0 := Lib.hid eu0
  have EU1 := Lib.hid eu1
  have HT := Lib.hid ht
  have HT' := Lib.hid ht'
  clear eu0 eu1 H0 H1 BB hk hk' ht ht'
  go_enter Try.func136, Try.ntmps136
  go_wp2_with (first
    | (rw [← EU0.out])
    | (rw [← EU1.out])
    | fail)
  refine (eqI_any ka ka' ks.length kc kc' ks _ HK.out HK'.out hk1).mono ?_
  rintro e w1 ⟨rfl, b1⟩
  have H0 := hp_below A0.out b1
  have H1 := hp_below A1.out b1
  have BB := AB.out.trans (b1.mono (by have := AB.out.size; omega))
  have G0 := Lib.hid (range_styN (range_block H0))
  have G1 := Lib.hid (range_styN (range_block H1))
  have A0 := Lib.hid H0
  have A1 := Lib.hid H1
  have AB := Lib.hid BB
  clear c0 c1 d0 d1 H0 H1 BB b1 HK HK'
  dsimp only
  go_wp2_with (first
    | ((with_reducible apply list_load_styAt); exact rfl; exact rfl; exact rfl; (with_reducible exact G0.out); simp only [Act.put, List.setIfInBounds_toArray, List.set_cons_succ, List.set_cons_zero])
    | ((with_reducible apply list_load_styAt); exact rfl; exact rfl; exact rfl; (with_reducible exact G1.out); simp only [Act.put, List.setIfInBounds_toArray, List.set_cons_succ, List.set_cons_zero])
    | fail)
  refine (eqSty f _).mono ?_
  rintro e w2 ⟨rfl, b2⟩
  have H0 := hp_below A0.out b2
  have H1 := hp_below A1.out b2
  have BB := AB.out.trans (b2.mono (by have := AB.out.size; omega))
  have c62 : w2.cell? ⟨w.heap.size, 62, none⟩ = some (.bool m) := (Go.Joins.cell_of_block H0 62).trans (by rw [nA, List.getElem?_toArray]; exact nL_meas)
  have d62 : w2.cell? ⟨w.heap.size + 1, 62, none⟩ = some (.bool m) := (Go.Joins.cell_of_block H1 62).trans (by rw [nA, List.getElem?_toArray]; exact nL_meas)
  have c63 : w2.cell? ⟨w.heap.size, 63, none⟩ = some (.slice ta rl tc) := (Go.Joins.cell_of_block H0 63).trans (by rw [nA, List.getElem?_toArray]; exact nL_tab)
  have d63 : w2.cell? ⟨w.heap.size + 1, 63, none⟩ = some (.slice ta' rl tc') := (Go.Joins.cell_of_block H1 63).trans (by rw [nA, List.getElem?_toArray]; exact nL_tab)
  have KT := Lib.hid (HT.out.below BB)
  have KT' := Lib.hid (HT'.out.below BB)
  have AB := Lib.hid BB
  clear H0 H1 BB b2 G0 G1 A0 A1 HT HT'
  dsimp only
  go_wp2_with (fail)
  refine (eqT_any ta ta' rl tc tc' rs _ KT.out KT'.out ht1).mono ?_
  rintro e w3 ⟨rfl, b3⟩
  have BB := AB.out.trans (b3.mono (by have := AB.out.size; omega))
  clear c62 d62 c63 d63 KT KT' AB b3
  dsimp only
  go_wp2
  go_ret
  exact ⟨rfl, BB⟩
set_option maxHeartbeats 2000000 in
theorem eqns_any (a a' : Option Addr) (cap cap' : Nat) (ns : List PN) (w : World) (hz : Nds w a ns) (hz' : Nds w a' ns) (hl : szS ns ≤ 4611686018427387904) :
    Calls Try.prog 99 #[.slice a ns.length cap, .slice a' ns.length cap'] w fun e w' => e = .returned (.bool true) ∧ Below w.heap.size w w' := by
  have hl0 : ns.length ≤ 4611686018427387904 := by unfold szS at hl; omega
  go_enter Try.func99, Try.ntmps99
  go_wp2
  go_loopw [5] (fun i wr => ∃ k : Nat, k ≤ ns.length ∧ i = .int .i64 k ∧ Below w.heap.size w wr) (fun i _ => ns.length - (intOf i).toNat)
  case atStart => exact ⟨0, Nat.zero_le _, rfl, Below.refl _ _⟩
  case round =>
    obtain ⟨k, hk, rfl, hb⟩ := hrel
    by_cases hlt : k < ns.length
    · have hsz := szK_le hlt
      have hkl : ns[k].kids.length ≤ 4611686018427387904 := by unfold szS at hl; unfold szK at hsz; omega
      have htl : ns[k].rl ≤ 4611686018427387904 := by unfold szS at hl; unfold szK at hsz; omega
      obtain ⟨b, off, rfl, hbl, ⟨kv, tv, hrg, ⟨ka, kc, rfl, hki⟩, ⟨ta, tc, rfl, hti⟩⟩⟩ := (hz.below hb).look hlt
      obtain ⟨b', off', rfl, hbl', ⟨kv', tv', hrg', ⟨ka', kc', rfl, hki'⟩, ⟨ta', tc', rfl, hti'⟩⟩⟩ := (hz'.below hb).look hlt
      have hlo : (0 : Int) ≤ (k : Int) := Int.natCast_nonneg _
      have hhi : (k : Int) < (ns.length : Int) := by omega
      have HKI := Lib.hid (fun (w' : World) (hw : Below wr.heap.size wr w') => hki.below hw)
      have HKI' := Lib.hid (fun (w' : World) (hw : Below wr.heap.size wr w') => hki'.below hw)
      have HTI := Lib.hid (fun (w' : World) (hw : Below wr.heap.size wr w') => hti.below hw)
      have HTI' := Lib.hid (fun (w' : World) (hw : Below wr.heap.size wr w') => hti'.below hw)
      clear hz hz' hsz hki hki' hti hti' hl
      generalize ns[k] = n at *
      go_wp2
      refine wp_region_quiet_below (by kernel_rfl) (by kernel_rfl) ?_
      (try simp only [List.append_eq, List.cons_append, List.nil_append])
      repeat (first
        | (go_big_quiet_want; (with_reducible apply quiet_nd); exact rfl; exact rfl; (with_reducible exact hrg); simp only [Act.put, List.setIfInBounds_toArray, List.set_cons_succ, List.set_cons_zero]; go_big_quiet_on)
        | (go_big_quiet_want; (with_reducible apply quiet_nd); exact rfl; exact rfl; (with_reducible exact hrg'); simp only [Act.put, List.setIfInBounds_toArray, List.set_cons_succ, List.set_cons_zero]; go_big_quiet_on)
        | go_big_quiet_step (first
          | (go_at_call 136; exact Calls.regrown_of (eqnd_any n ka ka' kc kc' ta ta' tc tc' _ (HKI.out _ (below_regrown wr _ _)) (HTI.out _ (below_regrown wr _ _)) (HKI'.out _ (below_regrown wr _ _)) (HTI'.out _ (below_regrown wr _ _)) hkl htl))
          | fail))
      refine wpQuiet_nil ?_
      intro _ hw'
      obtain ⟨⟨dq, osq⟩, hw''⟩ := hw'
      subst hw''
      clear hrg hrg' HKI HKI' HTI HTI'
      go_wp2
      go_roundw
      case rel => exact ⟨k + 1, by omega, by go_num, hb.trans ((below_regrown wr dq osq).mono hb.size)⟩
      case measure => simp [intOf]; omega
    · clear hz hz' hl
      go_wp2
      go_ret
      exact ⟨rfl, hb⟩
theorem eqtr_any (a a' : Option Addr) (cap cap' : Nat) (ns : List PN) (w : World) (hz : Nds w a ns) (hz' : Nds w a' ns) (hl : szS ns ≤ 4611686018427387904) :
    Calls Try.prog 51 #[.agg #[.slice a ns.length cap], .agg #[.slice a' ns.length cap']] w fun e w' => e = .returned (.bool true) ∧ Below w.heap.size w w' := by
  have bb := Go.Joins.below_alloc2 w (.cells #[.slice a ns.length cap] 26) (.cells #[.slice a' ns.length cap'] 26)
  have HZ := Lib.hid (hz.below bb)
  have HZ' := Lib.hid (hz'.below bb)
  clear hz hz'
  go_enter Try.func51, Try.ntmps51
  go_wp2_with (fail)
  refine (eqns_any a a' cap cap' ns _ HZ.out HZ'.out hl).mono ?_
  rintro e w1 ⟨rfl, b1⟩
  go_wp2
  go_ret
  exact ⟨rfl, bb.trans (b1.mono bb.size)⟩
end Go.Proofs.Ytfnnfjpbplbjmaa

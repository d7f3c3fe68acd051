import Derived.Laws.OwnMore
import Derived.OwnWalk
import Derived.Deep.QuietTactic
import Derived.BigQuiet
import Derived.Test.YtckpjldenkjddaaZtAA
import Derived.Test.YtckpjldenkjddaaZtAJ
import Derived.Test.YtckpjldenkjddaaZtAK
import Derived.Test.YtckpjldenkjddaaZtAL
import Derived.Test.YtckpjldenkjddaaZtAM
section
namespace Go.Proofs.Ytckpjldenkjddaa
open Go.ChangeShapes Go.WideShapes Go.ChangeAt Go.RowKit
set_option linter.unusedVariables false

/-- A node without its addresses. -/
structure PN where
  up : Int
  kids : List Int
  sty : Nat → Int
  meas : Bool
  rl : Nat
  rules : List Int
instance : Inhabited PN := ⟨⟨0, [], fun _ => 0, false, 0, []⟩⟩
def PN.ok (n : PN) : Prop := I64 n.up ∧ AllI n.kids ∧ InR n.sty ∧ AllI n.rules ∧ n.rules.length = n.rl * 3
/-- The cells of a node. -/
def nL (u : Int) (k : Value) (f : Nat → Int) (m : Bool) (t : Value) : List Value := .int .i64 u :: k :: ((sCells f).toList ++ [.bool m, t])
def nA (u : Int) (k : Value) (f : Nat → Int) (m : Bool) (t : Value) : Array Value := (nL u k f m t).toArray
theorem nA_list (u : Int) (k : Value) (f : Nat → Int) (m : Bool) (t : Value) : (nA u k f m t).toList = nL u k f m t := rfl
theorem nL_len (u : Int) (k : Value) (f : Nat → Int) (m : Bool) (t : Value) : (nL u k f m t).length = 64 := by simp [nL, sCells_size]
theorem nA_size (u : Int) (k : Value) (f : Nat → Int) (m : Bool) (t : Value) : (nA u k f m t).size = 64 := by simp [nA, nL_len]
section
variable {u : Int} {k : Value} {f : Nat → Int} {m : Bool} {t : Value}
theorem nL_up : (nL u k f m t)[0]? = some (.int .i64 u) := rfl
theorem nL_kids : (nL u k f m t)[1]? = some k := rfl
theorem nL_sty (j : Nat) (hj : j < 60) : (nL u k f m t)[2 + j]? = some (sCell j (f j)) := by
  rw [nL, Nat.add_comm, List.getElem?_cons_succ, List.getElem?_cons_succ, List.getElem?_append_left (by simp [sCells_size, hj]), Array.getElem?_toList, sCells_get f hj]
theorem nL_meas : (nL u k f m t)[62]? = some (.bool m) := by
  rw [nL, List.getElem?_cons_succ, List.getElem?_cons_succ, List.getElem?_append_right (by simp [sCells_size])]; simp [sCells_size]
theorem nL_tab : (nL u k f m t)[63]? = some t := by
  rw [nL, List.getElem?_cons_succ, List.getElem?_cons_succ, List.getElem?_append_right (by simp [sCells_size])]; simp [sCells_size]
theorem nL_one (hk : k.oneCell' = true) (ht : t.oneCell' = true) : ∀ v ∈ nL u k f m t, v.oneCell' = true := by
  intro v hv
  have hs := sCells_one f
  rw [Array.all_eq_true_iff_forall_mem] at hs
  simp only [nL, List.mem_cons, List.mem_append, Array.mem_toList_iff, List.not_mem_nil, or_false] at hv
  rcases hv with rfl | rfl | hv | rfl | rfl
  · rfl
  · exact hk
  · exact hs v hv
  · rfl
  · exact ht
theorem nA_one (hk : k.oneCell' = true) (ht : t.oneCell' = true) : (nA u k f m t).all (·.oneCell') = true := all_oneCell_toArray (nL_one hk ht)
end
theorem nL_ext {l : List Value} {u : Int} {k : Value} {f : Nat → Int} {m : Bool} {t : Value} (hl : l.length = 64) (h0 : l[0]? = some (.int .i64 u)) (h1 : l[1]? = some k) (h2 : ∀ j, j < 60 → l[2 + j]? = some (sCell j (f j))) (h3 : l[62]? = some (.bool m)) (h4 : l[63]? = some t) : l = nL u k f m t := by
  apply List.ext_getElem?
  intro i
  by_cases i0 : i = 0
  · subst i0; rw [h0, nL_up]
  by_cases i1 : i = 1
  · subst i1; rw [h1, nL_kids]
  by_cases i62 : i = 62
  · subst i62; rw [h3, nL_meas]
  by_cases i63 : i = 63
  · subst i63; rw [h4, nL_tab]
  by_cases i64 : 64 ≤ i
  · rw [List.getElem?_eq_none (by omega), List.getElem?_eq_none (by rw [nL_len]; omega)]
  · obtain ⟨j, rfl⟩ : ∃ j, i = 2 + j := ⟨i - 2, by omega⟩
    rw [h2 j (by omega), nL_sty j (by omega)]

section
variable {u : Int} {k : Value} {f : Nat → Int} {m : Bool} {t : Value}
theorem nA_put0 (z : Int) : (nA u k f m t).setIfInBounds 0 (.int .i64 z) = nA z k f m t := by simp [nA, nL]
theorem nA_put1 (v : Value) : (nA u k f m t).setIfInBounds 1 v = nA u v f m t := by simp [nA, nL]
theorem nA_put63 (v : Value) : (nA u k f m t).setIfInBounds 63 v = nA u k f m v := by
  apply arr_eq
  rw [Array.toList_setIfInBounds, nA_list, nA_list]
  refine nL_ext (by rw [List.length_set, nL_len]) ?_ ?_ (fun j hj => ?_) ?_ ?_
  · rw [List.getElem?_set_ne (by decide), nL_up]
  · rw [List.getElem?_set_ne (by decide), nL_kids]
  · rw [List.getElem?_set_ne (by omega), nL_sty j hj]
  · rw [List.getElem?_set_ne (by decide), nL_meas]
  · rw [List.getElem?_set_self (by rw [nL_len]; decide)]
end

theorem range_styN {w : World} {b o : Nat} {u : Int} {k : Value} {f : Nat → Int} {m : Bool} {t : Value} (h : w.rangeAt b o (nL u k f m t)) : w.rangeAt b (o + 2) (sCells f).toList := fun j v hv => by
  have hj : j < 60 := by have := (List.getElem?_eq_some_iff.1 hv).1; simpa [sCells_size] using this
  rw [Nat.add_assoc]
  refine h (2 + j) v ?_
  rw [nL_sty j hj, ← sCells_get f hj]
  simpa using hv
theorem nd_under : Try.prog.underlying 61 = some (.struct (Try.prog.fieldsOf 61)) := by kernel_rfl
theorem nd_size (u : Int) (k : Value) (f : Nat → Int) (m : Bool) (t : Value) : (Try.prog.info? 61).map (·.size) = some (nL u k f m t).length := by rw [nL_len]; kernel_rfl
theorem nd_sizeA (u : Int) (k : Value) (f : Nat → Int) (m : Bool) (t : Value) : (Try.prog.info? 61).map (·.size) = some (nA u k f m t).size := by rw [nA_size]; kernel_rfl
theorem sty_sizeL (f : Nat → Int) : (Try.prog.info? 41).map (·.size) = some (sCells f).toList.length := by simp only [Array.length_toList]; exact sty_size f
section
variable {ops : Array Oper} {rest : List Oper} {op : Oper} {a : Act} {w : World} {Q : Exit → Act → World → Prop} {g o : Nat} {u : Int} {k : Value} {f : Nat → Int} {m : Bool} {t : Value}
theorem list_load_styAt (hgd : op.guard = none) (x : Operand) (ho : op.op = .load 41 x) (hx : a.eval x = .pointer (some ⟨g, o, none⟩)) (hg : w.rangeAt g o (sCells f).toList)
    (h : wpList Try.prog ops Q rest (a.put op.dst (.agg (sCells f))) w) : wpList Try.prog ops Q (op :: rest) a w :=
  wpList_load_mid hgd _ x ho g o hx _ _ hg sty_under rfl (sty_sizeL f) h
theorem list_load_nd (hgd : op.guard = none) (x : Operand) (ho : op.op = .load 61 x) (hx : a.eval x = .pointer (some ⟨g, o, none⟩)) (hg : w.rangeAt g o (nL u k f m t))
    (h : wpList Try.prog ops Q rest (a.put op.dst (.agg (nA u k f m t))) w) : wpList Try.prog ops Q (op :: rest) a w :=
  wpList_load_mid hgd _ x ho g o hx _ _ hg nd_under rfl (nd_size ..) h
theorem list_store_nd (hgd : op.guard = none) (x y : Operand) (ho : op.op = .store 61 x y) (hx : a.eval x = .pointer (some ⟨g, o, none⟩)) (hy : a.eval y = .agg (nA u k f m t)) (ht : w.there g o 64) (hk : k.oneCell' = true) (htt : t.oneCell' = true)
    (h : wpList Try.prog ops Q rest (a.put op.dst undef) (w.setCells g o (nL u k f m t))) : wpList Try.prog ops Q (op :: rest) a w :=
  wpList_store_mid hgd _ x y ho g o _ hx hy (by rw [nA_size]; exact ht) (nd_sizeA ..) (nA_one hk htt) h
end
/-- Nothing but zeros. -/
def nZ : Array Value := nA 0 (.slice none 0 0) (fun _ => 0) false (.slice none 0 0)
theorem run_alloc_nd {a : Act} {w : World} {o : Oper} (ho : o.op = .alloc 61) : (execOp a.eval o).run Try.prog w = .ok (.value (.pointer (some ⟨w.heap.size, 0, none⟩))) (w.alloc (.cells nZ 61)) := by
  cases o
  simp only at ho
  subst ho
  unfold nZ nA nL
  rw [← zero_sty]
  go_simp
theorem list_alloc_nd {ops : Array Oper} {rest : List Oper} {op : Oper} {a : Act} {w : World} {Q : Exit → Act → World → Prop} (hgd : op.guard = none) (ho : op.op = .alloc 61) (h : wpList Try.prog ops Q rest (a.put op.dst (.pointer (some ⟨w.heap.size, 0, none⟩))) (w.alloc (.cells nZ 61))) : wpList Try.prog ops Q (op :: rest) a w := by
  refine wpList_plain hgd fun K hK => ?_
  unfold Oper.wp
  rw [run_alloc_nd ho, Oper.upon_value]
  exact hK _ _ h
/-- The answer that lies in a cell of its own. -/
theorem results_nd {fn : Func} {p : Tmp} (h : fn.results = #[.cell p 61]) {tmps : Array Value} {w : World} {g : Nat} {ty : TypeId} {u : Int} {k : Value} {f : Nat → Int} {m : Bool} {t : Value} (hp : tmps.getD p undef = .pointer (some ⟨g, 0, none⟩)) (hg : w.heap[g]? = some (.cells (nA u k f m t) ty)) :
    (results fn tmps).run Try.prog w = .ok (.agg (nA u k f m t)) w := results_cell_row h tmps w g ty _ _ _ hp hg nd_under rfl (nd_sizeA ..)
set_option linter.unusedVariables false

def KAt (w : World) (v : Value) (zs : List Int) : Prop := ∃ a c, v = .slice a zs.length c ∧ Ints w a zs.length zs
def TAt (w : World) (v : Value) (rl : Nat) (zs : List Int) : Prop := ∃ a c, v = .slice a rl c ∧ Rls w a rl zs
def NodeAt (w : World) (b o : Nat) (n : PN) : Prop := ∃ k t, w.rangeAt b o (nL n.up k n.sty n.meas t) ∧ KAt w k n.kids ∧ TAt w t n.rl n.rules
/-- The nodes ns lie at a. -/
def Nds (w : World) (a : Option Addr) (ns : List PN) : Prop :=
  (∀ n ∈ ns, n.ok) ∧ (ns = [] ∨ ∃ b off, a = some ⟨b, off, none⟩ ∧ b < w.heap.size ∧ ∀ i n, ns[i]? = some n → NodeAt w b (off + i * 64) n)
theorem KAt.below {w w' : World} {v : Value} {zs : List Int} (h : KAt w v zs) (hb : Below w.heap.size w w') : KAt w' v zs := by
  obtain ⟨a, c, e, h⟩ := h; exact ⟨a, c, e, h.below hb⟩
theorem TAt.below {w w' : World} {v : Value} {rl : Nat} {zs : List Int} (h : TAt w v rl zs) (hb : Below w.heap.size w w') : TAt w' v rl zs := by
  obtain ⟨a, c, e, h⟩ := h; exact ⟨a, c, e, h.below hb⟩
theorem NodeAt.below {w w' : World} {b o : Nat} {n : PN} (h : NodeAt w b o n) (hb : Below w.heap.size w w') : NodeAt w' b o n := by
  obtain ⟨k, t, h1, h2, h3⟩ := h; exact ⟨k, t, rg_below h1 hb, h2.below hb, h3.below hb⟩
theorem Nds.below {w w' : World} {a : Option Addr} {ns : List PN} (h : Nds w a ns) (hb : Below w.heap.size w w') : Nds w' a ns := by
  refine ⟨h.1, ?_⟩
  rcases h.2 with h0 | ⟨b, off, ha, hlt, hc⟩
  · exact Or.inl h0
  · exact Or.inr ⟨b, off, ha, Nat.lt_of_lt_of_le hlt hb.size, fun i n hi => (hc i n hi).below hb⟩
theorem Nds.look {w : World} {a : Option Addr} {ns : List PN} (h : Nds w a ns) {i : Nat} (hi : i < ns.length) : ∃ b off, a = some ⟨b, off, none⟩ ∧ b < w.heap.size ∧ NodeAt w b (off + i * 64) ns[i] := by
  rcases h.2 with h0 | ⟨b, off, ha, hlt, hc⟩
  · subst h0; exact absurd hi (Nat.not_lt_zero _)
  · exact ⟨b, off, ha, hlt, hc i _ (List.getElem?_eq_getElem hi)⟩
theorem KAt.one {w : World} {v : Value} {zs : List Int} (h : KAt w v zs) : v.oneCell' = true := by obtain ⟨a, c, rfl, _⟩ := h; rfl
theorem TAt.one {w : World} {v : Value} {rl : Nat} {zs : List Int} (h : TAt w v rl zs) : v.oneCell' = true := by obtain ⟨a, c, rfl, _⟩ := h; rfl
/-- How much a tree holds. -/
def szK (n : PN) : Nat := n.kids.length + n.rl
def szL (ns : List PN) : Nat := (ns.map szK).sum
def szS (ns : List PN) : Nat := ns.length + szL ns
theorem szL_take {ns : List PN} {i : Nat} (h : i < ns.length) : szL (ns.take (i + 1)) = szL (ns.take i) + szK ns[i] := by
  unfold szL
  rw [List.take_succ_eq_append_getElem h, List.map_append, List.sum_append]
  simp
theorem szL_take_le (ns : List PN) (i : Nat) : szL (ns.take i) ≤ szL ns := by
  have h : szL ns = szL (ns.take i) + szL (ns.drop i) := by
    unfold szL
    rw [← List.sum_append, ← List.map_append, List.take_append_drop]
  omega
theorem szK_le {ns : List PN} {i : Nat} (h : i < ns.length) : szK ns[i] ≤ szL ns := by
  have h1 := szL_take h
  have h2 := szL_take_le ns (i + 1)
  omega
set_option linter.unusedVariables false

/-- A node with where its children and its rules lie. -/
structure ND where
  n : PN
  kv : Value
  tv : Value
instance : Inhabited ND := ⟨⟨default, .slice none 0 0, .slice none 0 0⟩⟩
def ND.cells (m : ND) : List Value := nL m.n.up m.kv m.n.sty m.n.meas m.tv
def cellsN (ms : List ND) : List Value := ms.flatMap ND.cells
theorem ND.cells_len (m : ND) : m.cells.length = 64 := nL_len ..
theorem cellsN_len : ∀ ms : List ND, (cellsN ms).length = ms.length * 64
  | [] => rfl
  | m :: ms => by
    have h := cellsN_len ms
    unfold cellsN at h ⊢
    rw [List.flatMap_cons, List.length_append, h, ND.cells_len, List.length_cons]; omega
theorem cellsN_at : ∀ (ms : List ND) (i j : Nat), j < 64 → (cellsN ms)[i * 64 + j]? = ms[i]?.bind (fun m => m.cells[j]?)
  | [], i, j, _ => by simp [cellsN]
  | m :: ms, i, j, hj => by
    have h := cellsN_at ms
    unfold cellsN at h ⊢
    rw [List.flatMap_cons]
    cases i with
    | zero => rw [List.getElem?_append_left (by rw [ND.cells_len]; omega)]; simp
    | succ i =>
      rw [List.getElem?_append_right (by rw [ND.cells_len]; omega), ND.cells_len, show (i + 1) * 64 + j - 64 = i * 64 + j by omega, h i j hj, List.getElem?_cons_succ]
theorem cellsN_push (ms : List ND) (m : ND) : cellsN (ms ++ [m]) = cellsN ms ++ m.cells := by simp [cellsN]
theorem cellsN_set (ms : List ND) {i : Nat} (hi : i < ms.length) (m : ND) : setL (cellsN ms) (i * 64) m.cells = cellsN (ms.set i m) := by
  apply List.ext_getElem?
  intro q
  rw [setL_at _ _ _ _ (by rw [ND.cells_len, cellsN_len]; omega), ND.cells_len]
  have hq : q / 64 * 64 + q % 64 = q := by omega
  have h64 : q % 64 < 64 := Nat.mod_lt _ (by decide)
  have e1 := cellsN_at (ms.set i m) (q / 64) (q % 64) h64
  have e2 := cellsN_at ms (q / 64) (q % 64) h64
  rw [hq] at e1 e2
  rw [e1, e2]
  by_cases h : i * 64 ≤ q ∧ q < i * 64 + 64
  · have e : q / 64 = i := by omega
    rw [if_pos h, e, List.getElem?_set_self hi, show q - i * 64 = q % 64 by omega]
    rfl
  · rw [if_neg h, List.getElem?_set_ne (by omega)]
def KRow (lo : Nat) (v : Value) (zs : List Int) (w : World) : Prop := ∃ a c, v = .slice a zs.length c ∧ (zs = [] ∨ RowI lo v zs w)
def TRow (lo : Nat) (v : Value) (rl : Nat) (zs : List Int) (w : World) : Prop := ∃ a c, v = .slice a rl c ∧ (rl = 0 ∨ RowR lo v rl zs w)
def blk (v : Value) (n : Nat) : Option Nat := if n = 0 then none else v.ownBlock
def ND.comp (m : ND) (s : Bool) : Option Nat := if s then blk m.kv m.n.kids.length else blk m.tv m.n.rl
/-- What a node needs beside its cells. -/
def ND.own (lo : Nat) (m : ND) (w : World) : Prop := m.n.ok ∧ KRow lo m.kv m.n.kids w ∧ TRow lo m.tv m.n.rl m.n.rules w
/-- A row of nodes of one's own. -/
def OwnN (lo : Nat) (v : Value) (ms : List ND) (w : World) : Prop :=
  w.ownsRow lo 61 64 v ms.length (cellsN ms) ∧
  (∀ m ∈ ms, m.own lo w ∧ ∀ s b, m.comp s = some b → v.ownBlock ≠ some b) ∧
  (∀ (i j : Nat) (mi mj : ND) (s t : Bool) (b : Nat), ms[i]? = some mi → ms[j]? = some mj → mi.comp s = some b → mj.comp t = some b → i = j ∧ s = t)

theorem KRow.kept {lo : Nat} {v : Value} {zs : List Int} {w w' : World} (h : KRow lo v zs w) (hf : From lo w w') : KRow lo v zs w' := by
  obtain ⟨a, c, e, h⟩ := h
  exact ⟨a, c, e, h.imp id fun h => ownsRow_from h hf⟩
theorem TRow.kept {lo rl : Nat} {v : Value} {zs : List Int} {w w' : World} (h : TRow lo v rl zs w) (hf : From lo w w') : TRow lo v rl zs w' := by
  obtain ⟨a, c, e, h⟩ := h
  exact ⟨a, c, e, h.imp id fun h => ownsRow_from h hf⟩
theorem ND.own.kept {lo : Nat} {m : ND} {w w' : World} (h : m.own lo w) (hf : From lo w w') : m.own lo w' := ⟨h.1, h.2.1.kept hf, h.2.2.kept hf⟩
theorem OwnN.kept {lo : Nat} {v : Value} {ms : List ND} {w w' : World} (h : OwnN lo v ms w) (hf : From lo w w') : OwnN lo v ms w' :=
  ⟨ownsRow_from h.1 hf, fun m hm => ⟨(h.2.1 m hm).1.kept hf, (h.2.1 m hm).2⟩, h.2.2⟩
theorem OwnN.below {lo : Nat} {v : Value} {ms : List ND} {w w' : World} (h : OwnN lo v ms w) (hb : Below w.heap.size w w') : OwnN lo v ms w' := h.kept (From.of_below hb)
theorem KRow.lower {lo lo' : Nat} {v : Value} {zs : List Int} {w : World} (h : KRow lo v zs w) (hl : lo' ≤ lo) : KRow lo' v zs w := by
  obtain ⟨a, c, e, h⟩ := h
  exact ⟨a, c, e, h.imp id fun h => ownsRow_lower h hl⟩
theorem TRow.lower {lo lo' rl : Nat} {v : Value} {zs : List Int} {w : World} (h : TRow lo v rl zs w) (hl : lo' ≤ lo) : TRow lo' v rl zs w := by
  obtain ⟨a, c, e, h⟩ := h
  exact ⟨a, c, e, h.imp id fun h => ownsRow_lower h hl⟩
theorem ND.own.lower {lo lo' : Nat} {m : ND} {w : World} (h : m.own lo w) (hl : lo' ≤ lo) : m.own lo' w := ⟨h.1, h.2.1.lower hl, h.2.2.lower hl⟩
theorem OwnN.lower {lo lo' : Nat} {v : Value} {ms : List ND} {w : World} (h : OwnN lo v ms w) (hl : lo' ≤ lo) : OwnN lo' v ms w :=
  ⟨ownsRow_lower h.1 hl, fun m hm => ⟨(h.2.1 m hm).1.lower hl, (h.2.1 m hm).2⟩, h.2.2⟩
theorem ND.own.lt {lo : Nat} {m : ND} {w : World} (h : m.own lo w) (s : Bool) (b : Nat) (hb : m.comp s = some b) : lo ≤ b ∧ b < w.heap.size := by
  obtain ⟨_, ⟨a, c, e, hk⟩, ⟨a', c', e', ht⟩⟩ := h
  cases s with
  | true =>
    unfold ND.comp blk at hb
    simp only [if_true] at hb
    split at hb
    · cases hb
    · rename_i h0
      rcases hk with h1 | h1
      · rw [h1] at h0; exact absurd rfl h0
      · exact World.ownsRow.lt h1 b hb
  | false =>
    unfold ND.comp blk at hb
    simp only [Bool.false_eq_true, if_false] at hb
    split at hb
    · cases hb
    · rename_i h0
      rcases ht with h1 | h1
      · exact absurd h1 h0
      · exact World.ownsRow.lt h1 b hb
/-- To be read. -/
theorem KRow.kat {lo : Nat} {v : Value} {zs : List Int} {w : World} (h : KRow lo v zs w) (hr : AllI zs) : KAt w v zs := by
  obtain ⟨a, c, e, h⟩ := h
  rcases h with h0 | h
  · subst h0; exact ⟨a, c, e, rfl, hr, Or.inl rfl⟩
  · rcases h.2 with ⟨h1, h2⟩ | ⟨g, cap, cur, h1, _⟩
    · exact ⟨a, c, e, rfl, hr, Or.inl h2⟩
    · subst h1
      exact ⟨_, cap, rfl, RowI.ints h rfl hr⟩
theorem TRow.tat {lo rl : Nat} {v : Value} {zs : List Int} {w : World} (h : TRow lo v rl zs w) (hr : AllI zs) (hl : zs.length = rl * 3) : TAt w v rl zs := by
  obtain ⟨a, c, e, h⟩ := h
  rcases h with h0 | h
  · exact ⟨a, c, e, hl, hr, Or.inl h0⟩
  · obtain ⟨a', c', e', h'⟩ := RowR.slice h hr
    exact ⟨a', c', e', h'⟩
theorem OwnN.nds {lo : Nat} {v : Value} {ms : List ND} {w : World} (h : OwnN lo v ms w) : ∃ a cap, v = .slice a ms.length cap ∧ Nds w a (ms.map ND.n) := by
  have hok : ∀ n ∈ ms.map ND.n, n.ok := fun n hn => by
    obtain ⟨m, hm, rfl⟩ := List.mem_map.1 hn
    exact (h.2.1 m hm).1.1
  have hs := h.1.1
  rcases h.1.2 with ⟨h1, h2⟩ | ⟨g, cap, cur, h1, hlo, hg, hnc, hcm, hcs, htake⟩
  · refine ⟨none, 0, by rw [h1, h2], hok, Or.inl ?_⟩
    rw [List.length_eq_zero_iff.1 h2]; rfl
  · refine ⟨some ⟨g, 0, none⟩, cap, h1, hok, Or.inr ⟨g, 0, rfl, (Array.getElem?_eq_some_iff.1 hg).1, fun i n hi => ?_⟩⟩
    rw [List.getElem?_map] at hi
    cases hm : ms[i]? with
    | none => rw [hm] at hi; cases hi
    | some m =>
      rw [hm] at hi
      simp at hi
      subst hi
      have hlt := (List.getElem?_eq_some_iff.1 hm).1
      have hmem := List.mem_of_getElem? hm
      obtain ⟨⟨⟨_, hki, _, hri, hrl⟩, hk, ht⟩, _⟩ := h.2.1 m hmem
      refine ⟨m.kv, m.tv, fun j u hu => ?_, hk.kat hki, ht.tat hri hrl⟩
      have hj : j < 64 := by have := (List.getElem?_eq_some_iff.1 hu).1; rwa [nL_len] at this
      have hown := h.1
      rw [h1] at hown
      rw [Nat.zero_add, World.ownsRow.cellAt hown (i * 64 + j) (by omega), cellsN_at ms i j hj, hm]
      exact hu
/-- One node stored. -/
theorem OwnN.store {lo g cap i : Nat} {ms : List ND} {m : ND} {w : World} (h : OwnN lo (.slice (some ⟨g, 0, none⟩) ms.length cap) ms w) (hi : i < ms.length) (hm : m.own lo w)
    (hg : ∀ s b, m.comp s = some b → b ≠ g) (hap : ∀ s b, m.comp s = some b → ∀ j mj t, j ≠ i → ms[j]? = some mj → mj.comp t ≠ some b) (hin : ∀ b, m.comp true = some b → m.comp false ≠ some b) :
    OwnN lo (.slice (some ⟨g, 0, none⟩) ms.length cap) (ms.set i m) (w.setCells g (i * 64) m.cells) := by
  have hlen : (ms.set i m).length = ms.length := List.length_set
  have hother : ∀ k, k ≠ g → (w.setCells g (i * 64) m.cells).heap[k]? = w.heap[k]? := fun k hk => by
    have : ∀ (vs : List Value) (o : Nat) (w : World), (w.setCells g o vs).heap[k]? = w.heap[k]? := by
      intro vs
      induction vs with
      | nil => intro o w; rfl
      | cons v vs ih => intro o w; exact (ih _ _).trans (Below.heap_setCell w ⟨g, o, none⟩ v k hk)
    exact this _ _ _
  have rowK : ∀ {e : TypeId} {size n : Nat} {v : Value} {xs : List Value}, w.ownsRow lo e size v n xs → (∀ b, v.ownBlock = some b → b ≠ g) → (w.setCells g (i * 64) m.cells).ownsRow lo e size v n xs := by
    intro e size n v xs hr hne
    refine ⟨hr.1, ?_⟩
    rcases hr.2 with hn | ⟨g', cap', cur, rfl, hb, hg', rest⟩
    · exact .inl hn
    · exact .inr ⟨g', cap', cur, rfl, hb, (hother g' (hne g' rfl)).trans hg', rest⟩
  have ownK : ∀ q : ND, q.own lo w → (∀ s b, q.comp s = some b → b ≠ g) → q.own lo (w.setCells g (i * 64) m.cells) := by
    intro q ⟨h1, ⟨a, c, e, hk⟩, ⟨a', c', e', ht⟩⟩ hne
    refine ⟨h1, ⟨a, c, e, ?_⟩, ⟨a', c', e', ?_⟩⟩
    · by_cases h0 : q.n.kids = []
      · exact Or.inl h0
      · exact Or.inr (rowK (hk.resolve_left h0) fun b hb => hne true b (by
          unfold ND.comp blk
          rw [if_pos rfl, if_neg (by simpa using h0)]; exact hb))
    · by_cases h0 : q.n.rl = 0
      · exact Or.inl h0
      · exact Or.inr (rowK (ht.resolve_left h0) fun b hb => hne false b (by
          unfold ND.comp blk
          rw [if_neg (by decide), if_neg h0]; exact hb))
  refine ⟨?_, fun q hq => ?_, fun a b ma mb s t x ha hb hs ht => ?_⟩
  · rw [hlen, ← cellsN_set ms hi m]
    exact ownsRow_setCells _ _ _ _ h.1
  · rcases List.mem_or_eq_of_mem_set hq with hq | rfl
    · refine ⟨ownK q (h.2.1 q hq).1 fun s b hb e => (h.2.1 q hq).2 s b hb (by rw [e]; rfl), (h.2.1 q hq).2⟩
    · exact ⟨ownK _ hm hg, fun s b hb e => hg s b hb (by simpa [Value.ownBlock] using e.symm)⟩
  · by_cases ea : a = i
    · by_cases eb : b = i
      · subst ea
        rw [eb] at hb
        rw [List.getElem?_set_self hi] at ha hb
        cases ha
        cases hb
        refine ⟨eb.symm, ?_⟩
        cases s <;> cases t
        · rfl
        · exact absurd hs (hin x ht)
        · exact absurd ht (hin x hs)
        · rfl
      · rw [ea, List.getElem?_set_self hi] at ha
        cases ha
        rw [List.getElem?_set_ne (fun e => eb e.symm)] at hb
        exact absurd ht (hap s x hs b mb t eb hb)
    · by_cases eb : b = i
      · rw [eb, List.getElem?_set_self hi] at hb
        cases hb
        rw [List.getElem?_set_ne (fun e => ea e.symm)] at ha
        exact absurd hs (hap t x ht a ma s ea ha)
      · rw [List.getElem?_set_ne (fun e => ea e.symm)] at ha
        rw [List.getElem?_set_ne (fun e => eb e.symm)] at hb
        exact h.2.2 a b ma mb s t x ha hb hs ht
theorem OwnN.there {lo g cap i : Nat} {ms : List ND} {w : World} (h : OwnN lo (.slice (some ⟨g, 0, none⟩) ms.length cap) ms w) (hi : i < ms.length) : w.there g (i * 64) 64 := fun j hj => by
  refine ⟨?_, World.ownsRow.frozenAt h.1 _⟩
  rw [World.ownsRow.cellAt h.1 (i * 64 + j) (by omega), cellsN_at ms i j hj, List.getElem?_eq_getElem hi, Option.bind_some, List.getElem?_eq_getElem (by rw [ND.cells_len]; exact hj)]
  rfl
theorem info_node : (Try.prog.info? 61).map (fun i => (i.zero, i.size, i.bytes)) = some (some (.agg nZ), 64, 536) := by kernel_rfl
set_option linter.unusedVariables false
set_option maxRecDepth 8000

section
variable {H : Type} {enc : TypeId × Value → H} {W : World} {base : Nat} {sp : Nat → Bool} {held : Bool}
end
set_option linter.unusedVariables false
set_option maxRecDepth 8000
set_option linter.unusedSimpArgs false

set_option linter.unusedVariables false
set_option linter.unusedSimpArgs false
set_option maxRecDepth 8000

/-- A node of the call's own comes back. -/
def ToNPost (n : PN) (w : World) (e : Ending) (w' : World) : Prop :=
  ∃ m : ND, m.n = n ∧ e = .returned (.agg (nA n.up m.kv n.sty n.meas m.tv)) ∧ m.own w.heap.size w' ∧ (∀ b, m.comp true = some b → m.comp false ≠ some b) ∧ Below w.heap.size w w'
theorem ND.own.one {lo : Nat} {m : ND} {w : World} (h : m.own lo w) : m.kv.oneCell' = true ∧ m.tv.oneCell' = true := by
  obtain ⟨_, ⟨a, c, e, _⟩, ⟨a', c', e', _⟩⟩ := h
  rw [e, e']; exact ⟨rfl, rfl⟩
set_option linter.unusedVariables false
set_option linter.unusedSimpArgs false
set_option maxRecDepth 8000

section
variable {K : Act → Prop} {a : Act} {o : Oper} {w : World} {x : Operand} {g off : Nat}
theorem quiet_load_nd {C : World → Prop} {u : Int} {k : Value} {f : Nat → Int} {m : Bool} {t : Value} (ho : o.op = .load 61 x) (hx : a.eval x = .pointer (some ⟨g, off, none⟩)) (hC : ∀ w, C w → w.rangeAt g off (nL u k f m t)) (h : K (a.put o.dst (.agg (nA u k f m t)))) : o.quiet Try.prog a C K :=
  ⟨.agg (nA u k f m t), fun w hw => by
    unfold Oper.quietAt execOp
    simp only [ho, hx, Instr.loadAt, Instr.sureAddr, Sem.run_bind, Sem.run_pure, Result.andThen_ok, run_loadVar_mid w g off _ _ _ (hC w hw) nd_under rfl (nd_size ..)]
    exact ⟨rfl, rfl⟩, h⟩
theorem quiet_nd {u : Int} {k : Value} {f : Nat → Int} {m : Bool} {t : Value} (ho : o.op = .load 61 x) (hx : a.eval x = .pointer (some ⟨g, off, none⟩)) (hg : w.rangeAt g off (nL u k f m t)) (h : K (a.put o.dst (.agg (nA u k f m t)))) :
    o.quiet Try.prog a (fun w' => ∃ p : Regrown, w' = Sort.grow (redrawn w p.d) p.os) K :=
  quiet_load_nd ho hx (fun w' ⟨p, e⟩ => e ▸ rg_below hg (below_regrown w p.d p.os)) h
end
end Go.Proofs.Ytckpjldenkjddaa
end

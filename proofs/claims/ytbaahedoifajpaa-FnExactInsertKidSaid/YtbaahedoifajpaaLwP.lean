/-
  What the laws over trees that change share: a region that draws and holds a call whose answer is a tree of the call's own, stored into a new variable; the laws' marks beside what stands apart. Conditions: none.
-/
import Derived.Test.YtbaahedoifajpaaMkT
import Derived.Test.YtbaahedoifajpaaSty2
import Derived.Deep.RegionHeld
namespace Go.Proofs.Ytbaahedoifajpaa
open Go.ChangeShapes Go.WideShapes Go.ChangeAt Go.RowKit
set_option linter.unusedVariables false
set_option linter.unusedSimpArgs false

/-- A region walked by itself: what stands behind it is the same for all its ways. -/
theorem reg_key {α β γ δ : Type} {P : Program} {c : Code} {a : Act} {w : World} {Q : Exit → Act → World → Prop} (F : α → β → γ → δ → World → Prop)
    (h : ∃ A : α → β → γ → δ → Act, Code.wp P c (fun x a' w' => x = .normal ∧ ∃ p q r s, F p q r s w' ∧ a' = A p q r s) a w ∧ ∀ p q r s w', F p q r s w' → Q .normal (A p q r s) w') : Code.wp P c Q a w := by
  obtain ⟨A, h1, h2⟩ := h
  refine Code.wp_mono ?_ h1
  rintro e a w ⟨rfl, p, q, r, s, hf, rfl⟩
  exact h2 p q r s w hf
theorem reg_key5 {α β γ δ ε : Type} {P : Program} {c : Code} {a : Act} {w : World} {Q : Exit → Act → World → Prop} (F : α → β → γ → δ → ε → World → Prop)
    (h : ∃ A : α → β → γ → δ → ε → Act, Code.wp P c (fun x a' w' => x = .normal ∧ ∃ p q r s t, F p q r s t w' ∧ a' = A p q r s t) a w ∧ ∀ p q r s t w', F p q r s t w' → Q .normal (A p q r s t) w') : Code.wp P c Q a w := by
  obtain ⟨A, h1, h2⟩ := h
  refine Code.wp_mono ?_ h1
  rintro e a w ⟨rfl, p, q, r, s, t, hf, rfl⟩
  exact h2 p q r s t w hf
theorem anyH_1 {P : Program} {md : Region.Mode} {ops : Array Oper} {Q : Exit → Act → World → Prop} {S : World → Prop} {fuel : Nat} {listed : Array Bool} {a : Act} {w : World} (i : Nat) {o : Oper} (ho : ops[i]? = some o) (hr : Region.ready md ops listed = [i]) (hw : Region.wanted o (yielded ops a.tmps) = true)
    (h : o.wp P a w (fun a' w' => S w' ∧ wpAnyH P md ops Q S fuel (listed.setIfInBounds i true) a' w') Q) : wpAnyH P md ops Q S (fuel + 1) listed a w :=
  wpAnyH_all hr (by simp) fun j hj => by
    simp only [List.mem_singleton] at hj
    subst hj
    unfold wpOp
    simp only [ho]
    rw [if_pos hw]
    exact Or.inl h
theorem anyH_2 {P : Program} {md : Region.Mode} {ops : Array Oper} {Q : Exit → Act → World → Prop} {S : World → Prop} {fuel : Nat} {listed : Array Bool} {a : Act} {w : World} (i k : Nat) {o u : Oper} (ho : ops[i]? = some o) (hu : ops[k]? = some u) (hr : Region.ready md ops listed = [i, k]) (hw : Region.wanted o (yielded ops a.tmps) = true) (hv : Region.wanted u (yielded ops a.tmps) = true)
    (h : o.wp P a w (fun a' w' => S w' ∧ wpAnyH P md ops Q S fuel (listed.setIfInBounds i true) a' w') Q) (h' : u.wp P a w (fun a' w' => S w' ∧ wpAnyH P md ops Q S fuel (listed.setIfInBounds k true) a' w') Q) : wpAnyH P md ops Q S (fuel + 1) listed a w :=
  wpAnyH_all hr (by simp) fun j hj => by
    simp only [List.mem_cons, List.not_mem_nil, or_false] at hj
    rcases hj with rfl | rfl
    · unfold wpOp
      simp only [ho]
      rw [if_pos hw]
      exact Or.inl h
    · unfold wpOp
      simp only [hu]
      rw [if_pos hv]
      exact Or.inl h'
theorem yields_row {ops : Array Oper} {S : World → Prop} {op : Oper} {a : Act} {g : Nat} {t ty : TypeId} {cs : Array Value} {fs : Array Field} {x : Operand} (ho : op.op = .load ty x) (hw : Region.wanted op (yielded ops a.tmps) = true) (hx : a.eval x = .pointer (some ⟨g, 0, none⟩)) (hu : Try.prog.underlying ty = some (.struct fs)) (hi : (Try.prog.info? ty).map (·.size) = some cs.size)
    (hS : ∀ w, S w → w.heap[g]? = some (.cells cs t)) : YieldsIf Try.prog ops S op (.agg cs) a :=
  .inl ⟨hw, fun w hw' => by
    unfold execOp
    simp only [ho, hx, Instr.loadAt, Instr.sureAddr, Sem.run_bind, Sem.run_pure, Result.andThen_ok, run_loadVar_row w g t ty cs _ _ (hS w hw') hu rfl hi]⟩
theorem lw_tree : Try.prog.underlying 64 = some (.struct (Try.prog.fieldsOf 64)) := by kernel_rfl
theorem lw_tree1 (v : Value) : (Try.prog.info? 64).map (·.size) = some (#[v] : Array Value).size := by kernel_rfl
theorem lw_tab : Try.prog.underlying 141 = some (.struct (Try.prog.fieldsOf 141)) := by kernel_rfl
theorem lw_tab1 (v : Value) : (Try.prog.info? 141).map (·.size) = some (#[v] : Array Value).size := by kernel_rfl
theorem im_tab : Try.prog.underlying 51 = some (.struct (Try.prog.fieldsOf 51)) := by kernel_rfl
theorem im_tab1 (v : Value) : (Try.prog.info? 51).map (·.size) = some (#[v] : Array Value).size := by kernel_rfl
theorem im_tree : Try.prog.underlying 26 = some (.struct (Try.prog.fieldsOf 26)) := by kernel_rfl
theorem im_tree1 (v : Value) : (Try.prog.info? 26).map (·.size) = some (#[v] : Array Value).size := by kernel_rfl
/-- Behind such a region: the answer lies in the new variable at g, and is owned; nothing that stood at c has changed. -/
def GotT (c : World) (R : List PN) (g : Nat) (av : Option Addr) (cv : Nat) (w' : World) : Prop :=
  Below c.heap.size c w' ∧ w'.heap[g]? = some (.cells #[.slice av R.length cv] 26) ∧ c.heap.size ≤ g ∧
    ∃ (ms : List ND) (lo hi : Nat), ms.map ND.n = R ∧ OwnN lo (.slice av R.length cv) ms w' ∧ (∀ b, (Value.slice av R.length cv).ownBlock = some b → b < hi) ∧ (∀ m ∈ ms, ∀ s b, m.comp s = some b → b < hi) ∧ (g < lo ∨ hi ≤ g) ∧ c.heap.size ≤ lo
theorem own_lt {lo : Nat} {v : Value} {ms : List ND} {w : World} (ho : OwnN lo v ms w) : (∀ b, v.ownBlock = some b → b < w.heap.size) ∧ ∀ m ∈ ms, ∀ s b, m.comp s = some b → b < w.heap.size :=
  ⟨fun b hb => (ho.1.lt b hb).2, fun m hm s b hb => ((ho.2.1 m hm).1.lt s b hb).2⟩
theorem set_box {w w' : World} {g : Nat} {v z : Value} {t : TypeId} (h : w.heap[g]? = some (.cells #[z] t)) (e : w' = w.setCell ⟨g, 0, none⟩ v) : w'.heap[g]? = some (.cells #[v] t) := by
  rw [e]; exact Go.Joins.block_setCell (i := 0) h v
theorem got_a {c u wF w' : World} {g : Nat} {av : Option Addr} {cv : Nat} {z : Value} {ms : List ND} {R : List PN} (b0 : Below c.heap.size c u) (hb : u.heap[g]? = some (.cells #[z] 26)) (hg : c.heap.size ≤ g)
    (ho : OwnN u.heap.size (.slice av R.length cv) ms wF) (hms : ms.map ND.n = R) (bF : Below u.heap.size u wF) (e : w' = wF.setCell ⟨g, 0, none⟩ (.slice av R.length cv)) : GotT c R g av cv w' := by
  have hlt := hp_lt hb
  have hbF := hp_below hb bF
  refine ⟨?_, set_box hbF e, hg, ms, u.heap.size, wF.heap.size, hms, ?_, (own_lt ho).1, (own_lt ho).2, Or.inl hlt, b0.size⟩
  · rw [e]; exact bl_set (b0.trans (bF.mono b0.size)) 0 hg _
  · rw [e]; exact ho.kept (from_set hlt 0 _)
theorem got_b {c u wF w1 w' : World} {g : Nat} {av : Option Addr} {cv : Nat} {z : Value} {ms : List ND} {R : List PN} (b0 : Below c.heap.size c u)
    (ho : OwnN u.heap.size (.slice av R.length cv) ms wF) (hms : ms.map ND.n = R) (bF : Below u.heap.size u wF) (hg : g = wF.heap.size) (e1 : w1 = wF.alloc (.cells #[z] 26)) (e : w' = w1.setCell ⟨g, 0, none⟩ (.slice av R.length cv)) : GotT c R g av cv w' := by
  have b1 : Below wF.heap.size wF w1 := by rw [e1]; exact bel_alloc wF _
  have hb1 : w1.heap[g]? = some (.cells #[z] 26) := by rw [e1, hg]; exact hp_new wF _
  have hcF : c.heap.size ≤ wF.heap.size := Nat.le_trans b0.size bF.size
  refine ⟨?_, set_box hb1 e, by omega, ms, u.heap.size, wF.heap.size, hms, ?_, (own_lt ho).1, (own_lt ho).2, Or.inr (by omega), b0.size⟩
  · rw [e]; exact bl_set ((b0.trans (bF.mono b0.size)).trans (b1.mono hcF)) 0 (by omega) _
  · rw [e]
    refine ho.kept ⟨by have := b1.size; simpa using this, fun k h1 h2 => ?_⟩
    exact (Below.heap_setCell w1 ⟨g, 0, none⟩ _ k (fun e => by simp at e; omega)).trans (b1.block k h2)
/-- The marks of one tree leave what stands below and behind its memory. -/
theorem MkFr.below {lo hi : Nat} {w w' : World} (h : MkFr lo hi w w') {n : Nat} (h1 : n ≤ lo) (h2 : n ≤ w.heap.size) : Below n w w' :=
  ⟨h.os, h.tape, h.output, h.size, fun k hk => h.block k (by omega) (Or.inl (by omega))⟩
theorem MkFr.from {lo hi lo' : Nat} {w w' : World} (h : MkFr lo hi w w') (h1 : hi ≤ lo') : From lo' w w' := ⟨h.size, fun k h2 h3 => h.block k h3 (Or.inr (by omega))⟩
theorem MkFr.heap {lo hi g : Nat} {w w' : World} {o : Obj} (h : MkFr lo hi w w') (hg : w.heap[g]? = some o) (h1 : g < lo ∨ hi ≤ g) : w'.heap[g]? = some o := (h.block g (hp_lt hg) h1).trans hg
theorem OwnN.ndsR {lo : Nat} {av : Option Addr} {cv : Nat} {ms : List ND} {R : List PN} {w : World} (h : OwnN lo (.slice av R.length cv) ms w) (hm : ms.map ND.n = R) : Nds w av R := by
  obtain ⟨a, c, e, hn⟩ := h.nds
  injection e with e1 e2 e3
  rw [e1, ← hm]
  exact hn
theorem hp_bl {n g : Nat} {w w' : World} {o : Obj} (h : w.heap[g]? = some o) (hg : g < n) (b : Below n w w') : w'.heap[g]? = some o := (b.block g hg).trans h
theorem c_of {w : World} {g : Nat} {v : Value} {t : TypeId} (h : w.heap[g]? = some (.cells #[v] t)) : w.cell? ⟨g, 0, none⟩ = some v := (Go.Joins.cell_of_block h 0).trans rfl
end Go.Proofs.Ytbaahedoifajpaa

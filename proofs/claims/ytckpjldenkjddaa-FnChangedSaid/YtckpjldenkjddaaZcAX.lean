import Derived.Deep.RegionHeld
import Derived.Test.YtckpjldenkjddaaZcAA
import Derived.Test.YtckpjldenkjddaaZcAH
import Derived.Test.YtckpjldenkjddaaZcAT
import Derived.Test.YtckpjldenkjddaaZcAU
section
namespace Go.Proofs.Ytckpjldenkjddaa
open Go.ChangeShapes Go.WideShapes Go.ChangeAt Go.RowKit
set_option linter.unusedVariables false
set_option linter.unusedSimpArgs false
set_option maxRecDepth 8000

/-- A region walked by itself: what stands behind it is the same for all its ways. -/
theorem reg_key {α β γ δ : Type} {P : Program} {c : Go.Code} {a : Act} {w : World} {Q : Exit → Act → World → Prop} (F : α → β → γ → δ → World → Prop)
    (h : ∃ A : α → β → γ → δ → Act, Go.Code.wp P c (fun x a' w' => x = .normal ∧ ∃ p q r s, F p q r s w' ∧ a' = A p q r s) a w ∧ ∀ p q r s w', F p q r s w' → Q .normal (A p q r s) w') : Go.Code.wp P c Q a w := by
  obtain ⟨A, h1, h2⟩ := h
  refine Go.Code.wp_mono ?_ h1
  rintro e a w ⟨rfl, p, q, r, s, hf, rfl⟩
  exact h2 p q r s w hf
theorem reg_key5 {α β γ δ ε : Type} {P : Program} {c : Go.Code} {a : Act} {w : World} {Q : Exit → Act → World → Prop} (F : α → β → γ → δ → ε → World → Prop)
    (h : ∃ A : α → β → γ → δ → ε → Act, Go.Code.wp P c (fun x a' w' => x = .normal ∧ ∃ p q r s t, F p q r s t w' ∧ a' = A p q r s t) a w ∧ ∀ p q r s t w', F p q r s t w' → Q .normal (A p q r s t) w') : Go.Code.wp P c Q a w := by
  obtain ⟨A, h1, h2⟩ := h
  refine Go.Code.wp_mono ?_ h1
  rintro e a w ⟨rfl, p, q, r, s, t, hf, rfl⟩
  exact h2 p q r s t w hf
theorem anyH_1 {P : Program} {md : Region.Mode} {ops : Array Oper} {Q : Exit → Act → World → Prop} {S : World → Prop} {fuel : Nat} {listed : Array Bool} {a : Act} {w : World} (i : Nat) {o : Oper} (ho : ops[i]? = some o) (hr : Region.ready md ops listed = [i]) (hw : Region.wanted o (yielded ops a.tmps) = true)
    (h : o.wp P a w (fun a' w' => S w' ∧ wpAnyH P md ops Q S fuel (listed.setIfInBounds i true) a' w') Q) : wpAnyH P md ops Q S (fuel + 1) listed a w :=
  wpAnyH_all hr (by simp) fun j hj => by
    simp only [List.mem_singleton] at hj
    subst hj
    unfold wpOp
    simp only [ho]
    rw [if_pos hw]
    exact Or.inl h
theorem anyH_2 {P : Program} {md : Region.Mode} {ops : Array Oper} {Q : Exit → Act → World → Prop} {S : World → Prop} {fuel : Nat} {listed : Array Bool} {a : Act} {w : World} (i k : Nat) {o u : Oper} (ho : ops[i]? = some o) (hu : ops[k]? = some u) (hr : Region.ready md ops listed = [i, k]) (hw : Region.wanted o (yielded ops a.tmps) = true) (hv : Region.wanted u (yielded ops a.tmps) = true)
    (h : o.wp P a w (fun a' w' => S w' ∧ wpAnyH P md ops Q S fuel (listed.setIfInBounds i true) a' w') Q) (h' : u.wp P a w (fun a' w' => S w' ∧ wpAnyH P md ops Q S fuel (listed.setIfInBounds k true) a' w') Q) : wpAnyH P md ops Q S (fuel + 1) listed a w :=
  wpAnyH_all hr (by simp) fun j hj => by
    simp only [List.mem_cons, List.not_mem_nil, or_false] at hj
    rcases hj with rfl | rfl
    · unfold wpOp
      simp only [ho]
      rw [if_pos hw]
      exact Or.inl h
    · unfold wpOp
      simp only [hu]
      rw [if_pos hv]
      exact Or.inl h'
theorem yields_row {ops : Array Oper} {S : World → Prop} {op : Oper} {a : Act} {g : Nat} {t ty : TypeId} {cs : Array Value} {fs : Array Field} {x : Operand} (ho : op.op = .load ty x) (hw : Region.wanted op (yielded ops a.tmps) = true) (hx : a.eval x = .pointer (some ⟨g, 0, none⟩)) (hu : Try.prog.underlying ty = some (.struct fs)) (hi : (Try.prog.info? ty).map (·.size) = some cs.size)
    (hS : ∀ w, S w → w.heap[g]? = some (.cells cs t)) : YieldsIf Try.prog ops S op (.agg cs) a :=
  .inl ⟨hw, fun w hw' => by
    unfold execOp
    simp only [ho, hx, Instr.loadAt, Instr.sureAddr, Sem.run_bind, Sem.run_pure, Result.andThen_ok, run_loadVar_row w g t ty cs _ _ (hS w hw') hu rfl hi]⟩
end Go.Proofs.Ytckpjldenkjddaa
end
section
namespace Go.Proofs.Ytckpjldenkjddaa
open Go.ChangeShapes Go.WideShapes Go.ChangeAt Go.RowKit
set_option linter.unusedVariables false
set_option linter.unusedSimpArgs false
set_option maxRecDepth 8000

theorem MkFr.after {lo hi : Nat} {w u u' : World} (b : Below w.heap.size w u) (h : MkFr lo hi u u') : MkFr lo hi w u' :=
  ⟨h.os.trans b.os, h.tape.trans b.tape, h.output.trans b.output, Nat.le_trans b.size h.size, fun k hk h1 => (h.block k (Nat.lt_of_lt_of_le hk b.size) h1).trans (b.block k hk)⟩
theorem own_lt {lo : Nat} {v : Value} {ms : List ND} {w : World} (ho : OwnN lo v ms w) : (∀ b, v.ownBlock = some b → b < w.heap.size) ∧ ∀ m ∈ ms, ∀ s b, m.comp s = some b → b < w.heap.size :=
  ⟨fun b hb => (ho.1.lt b hb).2, fun m hm s b hb => ((ho.2.1 m hm).1.lt s b hb).2⟩
/-- The marks of one tree leave what stands below and behind its memory. -/
theorem MkFr.below {lo hi : Nat} {w w' : World} (h : MkFr lo hi w w') {n : Nat} (h1 : n ≤ lo) (h2 : n ≤ w.heap.size) : Below n w w' :=
  ⟨h.os, h.tape, h.output, h.size, fun k hk => h.block k (by omega) (Or.inl (by omega))⟩
theorem MkFr.from {lo hi lo' : Nat} {w w' : World} (h : MkFr lo hi w w') (h1 : hi ≤ lo') : From lo' w w' := ⟨h.size, fun k h2 h3 => h.block k h3 (Or.inr (by omega))⟩
theorem MkFr.heap {lo hi g : Nat} {w w' : World} {o : Obj} (h : MkFr lo hi w w') (hg : w.heap[g]? = some o) (h1 : g < lo ∨ hi ≤ g) : w'.heap[g]? = some o := (h.block g (hp_lt hg) h1).trans hg
end Go.Proofs.Ytckpjldenkjddaa
end
section
namespace Go.Proofs.Ytckpjldenkjddaa
open Go.ChangeShapes Go.WideShapes Go.ChangeAt Go.RowKit
set_option linter.unusedVariables false
set_option linter.unusedSimpArgs false

theorem im_tab : Try.prog.underlying 51 = some (.struct (Try.prog.fieldsOf 51)) := by kernel_rfl
theorem im_tab1 (v : Value) : (Try.prog.info? 51).map (·.size) = some (#[v] : Array Value).size := by kernel_rfl
theorem im_tree : Try.prog.underlying 26 = some (.struct (Try.prog.fieldsOf 26)) := by kernel_rfl
theorem im_tree1 (v : Value) : (Try.prog.info? 26).map (·.size) = some (#[v] : Array Value).size := by kernel_rfl
theorem OwnN.ndsR {lo : Nat} {av : Option Addr} {cv : Nat} {ms : List ND} {R : List PN} {w : World} (h : OwnN lo (.slice av R.length cv) ms w) (hm : ms.map ND.n = R) : Nds w av R := by
  obtain ⟨a, c, e, hn⟩ := h.nds
  injection e with e1 e2 e3
  rw [e1, ← hm]
  exact hn
theorem hp_bl {n g : Nat} {w w' : World} {o : Obj} (h : w.heap[g]? = some o) (hg : g < n) (b : Below n w w') : w'.heap[g]? = some o := (b.block g hg).trans h
theorem c_of {w : World} {g : Nat} {v : Value} {t : TypeId} (h : w.heap[g]? = some (.cells #[v] t)) : w.cell? ⟨g, 0, none⟩ = some v := (Go.Joins.cell_of_block h 0).trans rfl
end Go.Proofs.Ytckpjldenkjddaa
end

import Derived.Laws.Tables
import Derived.Deep.RegionHeld
import Derived.Test.YtckpjldenkjddaaZtAA
import Derived.Test.YtckpjldenkjddaaZtAO
import Derived.Test.YtckpjldenkjddaaZtAY
import Derived.Test.YtckpjldenkjddaaZtAZ
import Derived.Test.YtckpjldenkjddaaZtBA
section
namespace Go.Proofs.Ytckpjldenkjddaa
open Go.ChangeShapes Go.WideShapes Go.ChangeAt Go.RowKit
set_option linter.unusedVariables false
set_option linter.unusedSimpArgs false
set_option maxRecDepth 8000

/-- A tree of the call's own and a code come back. -/
def ChPost (ns : List PN) (c : Int) (w : World) (e : Ending) (w' : World) : Prop :=
  ∃ (v : Value) (ms : List ND), ms.map ND.n = ns ∧ e = .returned (.tuple #[.agg #[v], .int .i64 c]) ∧ OwnN w.heap.size v ms w' ∧ Below w.heap.size w w'
/-- The same, and a node without children has a slice without room. -/
def ChPostK (ns : List PN) (c : Int) (w : World) (e : Ending) (w' : World) : Prop :=
  ∃ (v : Value) (ms : List ND), ms.map ND.n = ns ∧ e = .returned (.tuple #[.agg #[v], .int .i64 c]) ∧ OwnN w.heap.size v ms w' ∧ Below w.heap.size w w' ∧ KCs ms
theorem ChPostK.ch {ns : List PN} {c : Int} {w : World} (e : Ending) (w' : World) (h : ChPostK ns c w e w') : ChPost ns c w e w' := by
  obtain ⟨v, ms, h1, h2, h3, h4, _⟩ := h
  exact ⟨v, ms, h1, h2, h3, h4⟩
/-- What stands in memory while SetStyle works: its boxes, the copy's variable, the copy. -/
structure SF (w u : World) (s3 : Value) (f : Nat → Int) (X : Nat) (x : Value) (ms : List ND) (w' : World) : Prop where
  bu : Below u.heap.size u w'
  bw : Below w.heap.size w w'
  hu : u.heap.size = w.heap.size + 3
  hX : u.heap.size ≤ X
  hg : ∀ b, x.ownBlock = some b → b < X
  h3 : w'.heap[w.heap.size]? = some (.cells #[s3] 26)
  h5 : w'.heap[w.heap.size + 1]? = some (.cells (sCells f) 41)
  h6 : w'.heap[w.heap.size + 1 + 1]? = some (.cells #[.slice none 0 0] 26)
  h8 : w'.heap[X]? = some (.cells #[x] 26)
  ho : OwnN u.heap.size x ms w'
theorem SF.c3 {w u : World} {s3 x : Value} {f : Nat → Int} {X : Nat} {ms : List ND} {w' : World} (h : SF w u s3 f X x ms w') : w'.cell? ⟨w.heap.size, 0, none⟩ = some s3 := (Go.Joins.cell_of_block h.h3 0).trans rfl
theorem SF.c8 {w u : World} {s3 x : Value} {f : Nat → Int} {X : Nat} {ms : List ND} {w' : World} (h : SF w u s3 f X x ms w') : w'.cell? ⟨X, 0, none⟩ = some x := (Go.Joins.cell_of_block h.h8 0).trans rfl
theorem SF.c6 {w u : World} {s3 x : Value} {f : Nat → Int} {X : Nat} {ms : List ND} {w' : World} (h : SF w u s3 f X x ms w') : w'.cell? ⟨w.heap.size + 1 + 1, 0, none⟩ = some (.slice none 0 0) := (Go.Joins.cell_of_block h.h6 0).trans rfl
theorem SF.kept {w u : World} {s3 x : Value} {f : Nat → Int} {X : Nat} {ms : List ND} {w' w'' : World} (h : SF w u s3 f X x ms w') (b : Below w'.heap.size w' w'') : SF w u s3 f X x ms w'' :=
  ⟨h.bu.trans (b.mono h.bu.size), h.bw.trans (b.mono h.bw.size), h.hu, h.hX, h.hg, hp_below h.h3 b, hp_below h.h5 b, hp_below h.h6 b, hp_below h.h8 b, h.ho.below b⟩
theorem SF.ptr {w u : World} {s3 : Value} {f : Nat → Int} {X : Nat} {ms : List ND} {w' : World} {av : Option Addr} {cv : Nat} (h : SF w u s3 f X (.slice av ms.length cv) ms w') (hm : 0 < ms.length) : ∃ g, av = some ⟨g, 0, none⟩ := by
  rcases h.ho.1.2 with ⟨h1, h2⟩ | ⟨g, cap, cur, h1, _⟩
  · omega
  · simp at h1; exact ⟨g, h1.1⟩
theorem SF.styled {w u : World} {s3 : Value} {f : Nat → Int} {X : Nat} {ms : List ND} {w' w4 : World} {g cv k : Nat} (h : SF w u s3 f X (.slice (some ⟨g, 0, none⟩) ms.length cv) ms w') (hm : k < ms.length) (hf : InR f) (e : w4 = w'.setCells g (k * 64 + 2) (sCells f).toList) :
    SF w u s3 f X (.slice (some ⟨g, 0, none⟩) ms.length cv) (ms.set k (ms[k].styled f)) w4 := by
  have hg : u.heap.size ≤ g := by
    rcases h.ho.1.2 with ⟨h1, h2⟩ | ⟨g', cap, cur, h1, hg, _⟩
    · omega
    · simp at h1; omega
  have hu := h.hu
  have hX : g ≠ X := fun e => by have := h.hg g rfl; omega
  have G := gr_sets g (sCells f).toList (k * 64 + 2) w'
  rw [← e] at G
  have ho := h.ho.restyle (List.getElem?_eq_getElem hm) hf
  rw [← e] at ho
  refine ⟨?_, ?_, hu, h.hX, h.hg, ?_, ?_, ?_, ?_, ho⟩
  · exact ⟨G.os.trans h.bu.os, G.tape.trans h.bu.tape, G.output.trans h.bu.output, Nat.le_trans h.bu.size G.size, fun q hq => (G.block q (Nat.lt_of_lt_of_le hq h.bu.size) (fun e => by simp at e; omega)).trans (h.bu.block q hq)⟩
  · exact ⟨G.os.trans h.bw.os, G.tape.trans h.bw.tape, G.output.trans h.bw.output, Nat.le_trans h.bw.size G.size, fun q hq => (G.block q (Nat.lt_of_lt_of_le hq h.bw.size) (fun e => by simp at e; omega)).trans (h.bw.block q hq)⟩
  · exact (G.block _ (hp_lt h.h3) (fun e => by simp at e; omega)).trans h.h3
  · exact (G.block _ (hp_lt h.h5) (fun e => by simp at e; omega)).trans h.h5
  · exact (G.block _ (hp_lt h.h6) (fun e => by simp at e; omega)).trans h.h6
  · exact (G.block _ (hp_lt h.h8) (fun e => hX (by simpa using e.symm))).trans h.h8
/-- The answer stands in its variable. -/
theorem SF.done {w u : World} {s3 x : Value} {f : Nat → Int} {X : Nat} {ms : List ND} {w' : World} (h : SF w u s3 f X x ms w') :
    (w'.setCell ⟨w.heap.size + 1 + 1, 0, none⟩ x).cell? ⟨w.heap.size + 1 + 1, 0, none⟩ = some x ∧ OwnN w.heap.size x ms (w'.setCell ⟨w.heap.size + 1 + 1, 0, none⟩ x) ∧ Below w.heap.size w (w'.setCell ⟨w.heap.size + 1 + 1, 0, none⟩ x) := by
  have hu := h.hu
  have g3 := Go.Joins.block_setCell (i := 0) h.h6 x
  refine ⟨(Go.Joins.cell_of_block g3 0).trans rfl, (h.ho.kept (from_set (g := w.heap.size + 1 + 1) (by omega) 0 x)).lower (by omega), bl_set h.bw (g := w.heap.size + 1 + 1) 0 (by omega) x⟩
end Go.Proofs.Ytckpjldenkjddaa
end
section
namespace Go.Proofs.Ytckpjldenkjddaa
open Go.ChangeShapes Go.WideShapes Go.ChangeAt Go.RowKit
set_option maxRecDepth 8000

theorem built_nd (f : Nat → Int) : Try.prog.built 61 [(2, .agg (sCells f))] = some (nA 0 (.slice none 0 0) f false (.slice none 0 0)) := by kernel_rfl
theorem list_build_nd {ops : Array Oper} {rest : List Oper} {o : Oper} {a : Act} {w : World} {Q : Exit → Act → World → Prop} {f : Nat → Int} (hg : o.guard = none) (x : Operand) (ho : o.op = .build 61 #[(2, x)]) (hx : a.eval x = .agg (sCells f))
    (h : wpList Try.prog ops Q rest (a.put o.dst (.agg (nA 0 (.slice none 0 0) f false (.slice none 0 0)))) w) : wpList Try.prog ops Q (o :: rest) a w := by
  have e : Try.prog.built 61 ((#[(2, x)] : Array (Nat × Operand)).map fun (i, y) => (i, a.eval y)).toList = some (nA 0 (.slice none 0 0) f false (.slice none 0 0)) := by
    simp only [List.map_toArray, List.map_cons, List.map_nil, hx]
    exact built_nd f
  exact wpList_build hg _ _ ho (by rw [e]; rfl) (by rw [e]; exact h)
end Go.Proofs.Ytckpjldenkjddaa
end
section
namespace Go.Proofs.Ytckpjldenkjddaa
open Go.ChangeShapes Go.WideShapes Go.ChangeAt Go.RowKit
set_option linter.unusedVariables false
set_option linter.unusedSimpArgs false
set_option maxRecDepth 8000

/-- A region walked by itself: what stands behind it is the same for all its ways. -/
theorem reg_key {α β γ δ : Type} {P : Program} {c : Go.Code} {a : Act} {w : World} {Q : Exit → Act → World → Prop} (F : α → β → γ → δ → World → Prop)
    (h : ∃ A : α → β → γ → δ → Act, Go.Code.wp P c (fun x a' w' => x = .normal ∧ ∃ p q r s, F p q r s w' ∧ a' = A p q r s) a w ∧ ∀ p q r s w', F p q r s w' → Q .normal (A p q r s) w') : Go.Code.wp P c Q a w := by
  obtain ⟨A, h1, h2⟩ := h
  refine Go.Code.wp_mono ?_ h1
  rintro e a w ⟨rfl, p, q, r, s, hf, rfl⟩
  exact h2 p q r s w hf
theorem reg_key5 {α β γ δ ε : Type} {P : Program} {c : Go.Code} {a : Act} {w : World} {Q : Exit → Act → World → Prop} (F : α → β → γ → δ → ε → World → Prop)
    (h : ∃ A : α → β → γ → δ → ε → Act, Go.Code.wp P c (fun x a' w' => x = .normal ∧ ∃ p q r s t, F p q r s t w' ∧ a' = A p q r s t) a w ∧ ∀ p q r s t w', F p q r s t w' → Q .normal (A p q r s t) w') : Go.Code.wp P c Q a w := by
  obtain ⟨A, h1, h2⟩ := h
  refine Go.Code.wp_mono ?_ h1
  rintro e a w ⟨rfl, p, q, r, s, t, hf, rfl⟩
  exact h2 p q r s t w hf
theorem anyH_1 {P : Program} {md : Region.Mode} {ops : Array Oper} {Q : Exit → Act → World → Prop} {S : World → Prop} {fuel : Nat} {listed : Array Bool} {a : Act} {w : World} (i : Nat) {o : Oper} (ho : ops[i]? = some o) (hr : Region.ready md ops listed = [i]) (hw : Region.wanted o (yielded ops a.tmps) = true)
    (h : o.wp P a w (fun a' w' => S w' ∧ wpAnyH P md ops Q S fuel (listed.setIfInBounds i true) a' w') Q) : wpAnyH P md ops Q S (fuel + 1) listed a w :=
  wpAnyH_all hr (by simp) fun j hj => by
    simp only [List.mem_singleton] at hj
    subst hj
    unfold wpOp
    simp only [ho]
    rw [if_pos hw]
    exact Or.inl h
theorem anyH_2 {P : Program} {md : Region.Mode} {ops : Array Oper} {Q : Exit → Act → World → Prop} {S : World → Prop} {fuel : Nat} {listed : Array Bool} {a : Act} {w : World} (i k : Nat) {o u : Oper} (ho : ops[i]? = some o) (hu : ops[k]? = some u) (hr : Region.ready md ops listed = [i, k]) (hw : Region.wanted o (yielded ops a.tmps) = true) (hv : Region.wanted u (yielded ops a.tmps) = true)
    (h : o.wp P a w (fun a' w' => S w' ∧ wpAnyH P md ops Q S fuel (listed.setIfInBounds i true) a' w') Q) (h' : u.wp P a w (fun a' w' => S w' ∧ wpAnyH P md ops Q S fuel (listed.setIfInBounds k true) a' w') Q) : wpAnyH P md ops Q S (fuel + 1) listed a w :=
  wpAnyH_all hr (by simp) fun j hj => by
    simp only [List.mem_cons, List.not_mem_nil, or_false] at hj
    rcases hj with rfl | rfl
    · unfold wpOp
      simp only [ho]
      rw [if_pos hw]
      exact Or.inl h
    · unfold wpOp
      simp only [hu]
      rw [if_pos hv]
      exact Or.inl h'
theorem yields_row {ops : Array Oper} {S : World → Prop} {op : Oper} {a : Act} {g : Nat} {t ty : TypeId} {cs : Array Value} {fs : Array Field} {x : Operand} (ho : op.op = .load ty x) (hw : Region.wanted op (yielded ops a.tmps) = true) (hx : a.eval x = .pointer (some ⟨g, 0, none⟩)) (hu : Try.prog.underlying ty = some (.struct fs)) (hi : (Try.prog.info? ty).map (·.size) = some cs.size)
    (hS : ∀ w, S w → w.heap[g]? = some (.cells cs t)) : YieldsIf Try.prog ops S op (.agg cs) a :=
  .inl ⟨hw, fun w hw' => by
    unfold execOp
    simp only [ho, hx, Instr.loadAt, Instr.sureAddr, Sem.run_bind, Sem.run_pure, Result.andThen_ok, run_loadVar_row w g t ty cs _ _ (hS w hw') hu rfl hi]⟩
end Go.Proofs.Ytckpjldenkjddaa
end
section
namespace Go.Proofs.Ytckpjldenkjddaa
open Go.ChangeShapes Go.WideShapes Go.ChangeAt Go.RowKit
set_option linter.unusedVariables false
set_option linter.unusedSimpArgs false
set_option maxRecDepth 8000

theorem MkFr.after {lo hi : Nat} {w u u' : World} (b : Below w.heap.size w u) (h : MkFr lo hi u u') : MkFr lo hi w u' :=
  ⟨h.os.trans b.os, h.tape.trans b.tape, h.output.trans b.output, Nat.le_trans b.size h.size, fun k hk h1 => (h.block k (Nat.lt_of_lt_of_le hk b.size) h1).trans (b.block k hk)⟩
theorem own_lt {lo : Nat} {v : Value} {ms : List ND} {w : World} (ho : OwnN lo v ms w) : (∀ b, v.ownBlock = some b → b < w.heap.size) ∧ ∀ m ∈ ms, ∀ s b, m.comp s = some b → b < w.heap.size :=
  ⟨fun b hb => (ho.1.lt b hb).2, fun m hm s b hb => ((ho.2.1 m hm).1.lt s b hb).2⟩
/-- The marks of one tree leave what stands below and behind its memory. -/
theorem MkFr.below {lo hi : Nat} {w w' : World} (h : MkFr lo hi w w') {n : Nat} (h1 : n ≤ lo) (h2 : n ≤ w.heap.size) : Below n w w' :=
  ⟨h.os, h.tape, h.output, h.size, fun k hk => h.block k (by omega) (Or.inl (by omega))⟩
theorem MkFr.from {lo hi lo' : Nat} {w w' : World} (h : MkFr lo hi w w') (h1 : hi ≤ lo') : From lo' w w' := ⟨h.size, fun k h2 h3 => h.block k h3 (Or.inr (by omega))⟩
theorem MkFr.heap {lo hi g : Nat} {w w' : World} {o : Obj} (h : MkFr lo hi w w') (hg : w.heap[g]? = some o) (h1 : g < lo ∨ hi ≤ g) : w'.heap[g]? = some o := (h.block g (hp_lt hg) h1).trans hg
end Go.Proofs.Ytckpjldenkjddaa
end
section
namespace Go.Proofs.Ytckpjldenkjddaa
open Go.ChangeShapes Go.WideShapes Go.ChangeAt Go.RowKit
set_option linter.unusedVariables false
set_option linter.unusedSimpArgs false

theorem im_tab : Try.prog.underlying 51 = some (.struct (Try.prog.fieldsOf 51)) := by kernel_rfl
theorem im_tab1 (v : Value) : (Try.prog.info? 51).map (·.size) = some (#[v] : Array Value).size := by kernel_rfl
theorem im_tree : Try.prog.underlying 26 = some (.struct (Try.prog.fieldsOf 26)) := by kernel_rfl
theorem im_tree1 (v : Value) : (Try.prog.info? 26).map (·.size) = some (#[v] : Array Value).size := by kernel_rfl
theorem OwnN.ndsR {lo : Nat} {av : Option Addr} {cv : Nat} {ms : List ND} {R : List PN} {w : World} (h : OwnN lo (.slice av R.length cv) ms w) (hm : ms.map ND.n = R) : Nds w av R := by
  obtain ⟨a, c, e, hn⟩ := h.nds
  injection e with e1 e2 e3
  rw [e1, ← hm]
  exact hn
theorem hp_bl {n g : Nat} {w w' : World} {o : Obj} (h : w.heap[g]? = some o) (hg : g < n) (b : Below n w w') : w'.heap[g]? = some o := (b.block g hg).trans h
theorem c_of {w : World} {g : Nat} {v : Value} {t : TypeId} (h : w.heap[g]? = some (.cells #[v] t)) : w.cell? ⟨g, 0, none⟩ = some v := (Go.Joins.cell_of_block h 0).trans rfl
end Go.Proofs.Ytckpjldenkjddaa
end

/-
  Regions that draw, walked an operation a step: what is common. Conditions: those of the lemma.
-/
import Derived.Test.YtnncdpkmhpjmbaaKit
import Derived.Deep.RegionHeld
namespace Go.Proofs.Ytnncdpkmhpjmbaa
open Go.ChangeShapes Go.WideShapes Go.ChangeAt Go.RowKit
set_option linter.unusedVariables false
set_option linter.unusedSimpArgs false
set_option maxRecDepth 8000

/-- A region walked by itself: what stands behind it is the same for all its ways. -/
theorem reg_key {α β γ δ : Type} {P : Program} {c : Go.Code} {a : Act} {w : World} {Q : Exit → Act → World → Prop} (F : α → β → γ → δ → World → Prop)
    (h : ∃ A : α → β → γ → δ → Act, Go.Code.wp P c (fun x a' w' => x = .normal ∧ ∃ p q r s, F p q r s w' ∧ a' = A p q r s) a w ∧ ∀ p q r s w', F p q r s w' → Q .normal (A p q r s) w') : Go.Code.wp P c Q a w := by
  obtain ⟨A, h1, h2⟩ := h
  refine Go.Code.wp_mono ?_ h1
  rintro e a w ⟨rfl, p, q, r, s, hf, rfl⟩
  exact h2 p q r s w hf
theorem reg_key5 {α β γ δ ε : Type} {P : Program} {c : Go.Code} {a : Act} {w : World} {Q : Exit → Act → World → Prop} (F : α → β → γ → δ → ε → World → Prop)
    (h : ∃ A : α → β → γ → δ → ε → Act, Go.Code.wp P c (fun x a' w' => x = .normal ∧ ∃ p q r s t, F p q r s t w' ∧ a' = A p q r s t) a w ∧ ∀ p q r s t w', F p q r s t w' → Q .normal (A p q r s t) w') : Go.Code.wp P c Q a w := by
  obtain ⟨A, h1, h2⟩ := h
  refine Go.Code.wp_mono ?_ h1
  rintro e a w ⟨rfl, p, q, r, s, t, hf, rfl⟩
  exact h2 p q r s t w hf
theorem anyH_1 {P : Program} {md : Region.Mode} {ops : Array Oper} {Q : Exit → Act → World → Prop} {S : World → Prop} {fuel : Nat} {listed : Array Bool} {a : Act} {w : World} (i : Nat) {o : Oper} (ho : ops[i]? = some o) (hr : Region.ready md ops listed = [i]) (hw : Region.wanted o (yielded ops a.tmps) = true)
    (h : o.wp P a w (fun a' w' => S w' ∧ wpAnyH P md ops Q S fuel (listed.setIfInBounds i true) a' w') Q) : wpAnyH P md ops Q S (fuel + 1) listed a w :=
  wpAnyH_all hr (by simp) fun j hj => by
    simp only [List.mem_singleton] at hj
    subst hj
    unfold wpOp
    simp only [ho]
    rw [if_pos hw]
    exact Or.inl h
theorem anyH_2 {P : Program} {md : Region.Mode} {ops : Array Oper} {Q : Exit → Act → World → Prop} {S : World → Prop} {fuel : Nat} {listed : Array Bool} {a : Act} {w : World} (i k : Nat) {o u : Oper} (ho : ops[i]? = some o) (hu : ops[k]? = some u) (hr : Region.ready md ops listed = [i, k]) (hw : Region.wanted o (yielded ops a.tmps) = true) (hv : Region.wanted u (yielded ops a.tmps) = true)
    (h : o.wp P a w (fun a' w' => S w' ∧ wpAnyH P md ops Q S fuel (listed.setIfInBounds i true) a' w') Q) (h' : u.wp P a w (fun a' w' => S w' ∧ wpAnyH P md ops Q S fuel (listed.setIfInBounds k true) a' w') Q) : wpAnyH P md ops Q S (fuel + 1) listed a w :=
  wpAnyH_all hr (by simp) fun j hj => by
    simp only [List.mem_cons, List.not_mem_nil, or_false] at hj
    rcases hj with rfl | rfl
    · unfold wpOp
      simp only [ho]
      rw [if_pos hw]
      exact Or.inl h
    · unfold wpOp
      simp only [hu]
      rw [if_pos hv]
      exact Or.inl h'
theorem yields_row {ops : Array Oper} {S : World → Prop} {op : Oper} {a : Act} {g : Nat} {t ty : TypeId} {cs : Array Value} {fs : Array Field} {x : Operand} (ho : op.op = .load ty x) (hw : Region.wanted op (yielded ops a.tmps) = true) (hx : a.eval x = .pointer (some ⟨g, 0, none⟩)) (hu : Try.prog.underlying ty = some (.struct fs)) (hi : (Try.prog.info? ty).map (·.size) = some cs.size)
    (hS : ∀ w, S w → w.heap[g]? = some (.cells cs t)) : YieldsIf Try.prog ops S op (.agg cs) a :=
  .inl ⟨hw, fun w hw' => by
    unfold execOp
    simp only [ho, hx, Instr.loadAt, Instr.sureAddr, Sem.run_bind, Sem.run_pure, Result.andThen_ok, run_loadVar_row w g t ty cs _ _ (hS w hw') hu rfl hi]⟩
theorem wp_make_full {P : Program} {w : World} {o : Oper} {a : Act} {K : Act → World → Prop} {Q : Exit → Act → World → Prop} (l c : Operand) (t : TypeId) (hop : o.op = Op.makeSlice t l c)
    (base : Nat) (e : TypeId) (i : TypeInfo) (z : Value) (size : Nat) (h1 : P.underlying t = some (.slice e)) (h2 : P.info? e = some i) (h3 : i.zero = some z) (h4 : i.size = size)
    (kl kc : IntKind) (L C : Int) (n : Nat) (hl : a.eval l = .int kl L) (hc : a.eval c = .int kc C) (hL : L = (n : Int)) (hC : C = (n : Int)) (b2 : i.bytes * n ≤ 281474976710656) (b3 : n ≤ maxLen) (b4 : base ≤ w.heap.size)
    (hK : ∀ w', w'.ownsRow base e size (.slice (some ⟨w.heap.size, 0, none⟩) n n) n (madeCells z.cells (n * size)).toList → w.grownBy w' none → K (a.put o.dst (.slice (some ⟨w.heap.size, 0, none⟩) n n)) w') : o.wp P a w K Q := by
  obtain ⟨w', hrun, r1, r2⟩ := run_make_full (P := P) w base t e i z size h1 h2 h3 h4 kl kc n b2 b3 b4
  subst hL
  subst hC
  unfold Oper.wp
  simp [execOp, hop, hl, hc, hrun, Result.andThen]
  exact hK _ r1 r2
end Go.Proofs.Ytnncdpkmhpjmbaa

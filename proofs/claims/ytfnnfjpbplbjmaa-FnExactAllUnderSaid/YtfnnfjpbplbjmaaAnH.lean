/-
  Regions that draw, walked an operation a step: what is common; parts of a slice of ints. Conditions: those of the lemma.
-/
import Derived.Test.YtfnnfjpbplbjmaaCpA
import Derived.Test.YtfnnfjpbplbjmaaIntS
import Derived.Deep.RegionHeld
namespace Go.Proofs.Ytfnnfjpbplbjmaa
open Go.ChangeShapes Go.WideShapes Go.ChangeAt Go.RowKit
set_option linter.unusedVariables false
set_option linter.unusedSimpArgs false
set_option maxRecDepth 8000

/-- A region walked by itself: what stands behind it is the same for all its ways. -/
theorem reg_key {α β γ δ : Type} {P : Program} {c : Code} {a : Act} {w : World} {Q : Exit → Act → World → Prop} (F : α → β → γ → δ → World → Prop)
    (h : ∃ A : α → β → γ → δ → Act, Code.wp P c (fun x a' w' => x = .normal ∧ ∃ p q r s, F p q r s w' ∧ a' = A p q r s) a w ∧ ∀ p q r s w', F p q r s w' → Q .normal (A p q r s) w') : Code.wp P c Q a w := by
  obtain ⟨A, h1, h2⟩ := h
  refine Code.wp_mono ?_ h1
  rintro e a w ⟨rfl, p, q, r, s, hf, rfl⟩
  exact h2 p q r s w hf
theorem reg_key5 {α β γ δ ε : Type} {P : Program} {c : Code} {a : Act} {w : World} {Q : Exit → Act → World → Prop} (F : α → β → γ → δ → ε → World → Prop)
    (h : ∃ A : α → β → γ → δ → ε → Act, Code.wp P c (fun x a' w' => x = .normal ∧ ∃ p q r s t, F p q r s t w' ∧ a' = A p q r s t) a w ∧ ∀ p q r s t w', F p q r s t w' → Q .normal (A p q r s t) w') : Code.wp P c Q a w := by
  obtain ⟨A, h1, h2⟩ := h
  refine Code.wp_mono ?_ h1
  rintro e a w ⟨rfl, p, q, r, s, t, hf, rfl⟩
  exact h2 p q r s t w hf
theorem anyH_1 {P : Program} {md : Region.Mode} {ops : Array Oper} {Q : Exit → Act → World → Prop} {S : World → Prop} {fuel : Nat} {listed : Array Bool} {a : Act} {w : World} (i : Nat) {o : Oper} (ho : ops[i]? = some o) (hr : Region.ready md ops listed = [i]) (hw : Region.wanted o (yielded ops a.tmps) = true)
    (h : o.wp P a w (fun a' w' => S w' ∧ wpAnyH P md ops Q S fuel (listed.setIfInBounds i true) a' w') Q) : wpAnyH P md ops Q S (fuel + 1) listed a w :=
  wpAnyH_all hr (by simp) fun j hj => by
    simp only [List.mem_singleton] at hj
    subst hj
    unfold wpOp
    simp only [ho]
    rw [if_pos hw]
    exact Or.inl h
theorem anyH_2 {P : Program} {md : Region.Mode} {ops : Array Oper} {Q : Exit → Act → World → Prop} {S : World → Prop} {fuel : Nat} {listed : Array Bool} {a : Act} {w : World} (i k : Nat) {o u : Oper} (ho : ops[i]? = some o) (hu : ops[k]? = some u) (hr : Region.ready md ops listed = [i, k]) (hw : Region.wanted o (yielded ops a.tmps) = true) (hv : Region.wanted u (yielded ops a.tmps) = true)
    (h : o.wp P a w (fun a' w' => S w' ∧ wpAnyH P md ops Q S fuel (listed.setIfInBounds i true) a' w') Q) (h' : u.wp P a w (fun a' w' => S w' ∧ wpAnyH P md ops Q S fuel (listed.setIfInBounds k true) a' w') Q) : wpAnyH P md ops Q S (fuel + 1) listed a w :=
  wpAnyH_all hr (by simp) fun j hj => by
    simp only [List.mem_cons, List.not_mem_nil, or_false] at hj
    rcases hj with rfl | rfl
    · unfold wpOp
      simp only [ho]
      rw [if_pos hw]
      exact Or.inl h
    · unfold wpOp
      simp only [hu]
      rw [if_pos hv]
      exact Or.inl h'
theorem yields_row {ops : Array Oper} {S : World → Prop} {op : Oper} {a : Act} {g : Nat} {t ty : TypeId} {cs : Array Value} {fs : Array Field} {x : Operand} (ho : op.op = .load ty x) (hw : Region.wanted op (yielded ops a.tmps) = true) (hx : a.eval x = .pointer (some ⟨g, 0, none⟩)) (hu : Try.prog.underlying ty = some (.struct fs)) (hi : (Try.prog.info? ty).map (·.size) = some cs.size)
    (hS : ∀ w, S w → w.heap[g]? = some (.cells cs t)) : YieldsIf Try.prog ops S op (.agg cs) a :=
  .inl ⟨hw, fun w hw' => by
    unfold execOp
    simp only [ho, hx, Instr.loadAt, Instr.sureAddr, Sem.run_bind, Sem.run_pure, Result.andThen_ok, run_loadVar_row w g t ty cs _ _ (hS w hw') hu rfl hi]⟩
def tailA (kap : Option Addr) (kcp m : Nat) : Option Addr := if kcp = m then kap else kap.map fun x => x.add m
theorem ins_src1 {w : World} {kap : Option Addr} {ks : List Int} {m : Nat} (h : Ints w kap ks.length ks) (hm : m ≤ ks.length) : (kap = none ∧ m = 0) ∨ ∃ ad, kap = some ad ∧ ∀ j u, ((ks.take m).map (Value.int .i64))[j]? = some u → w.cell? (ad.add j) = some u := by
  rcases ints_news h with ⟨h1, h2⟩ | ⟨ad, h1, h2⟩
  · exact Or.inl ⟨h1, by omega⟩
  · refine Or.inr ⟨ad, h1, fun j u hu => h2 j u ?_⟩
    rw [List.getElem?_map] at hu ⊢
    rw [List.getElem?_take] at hu
    split at hu
    · exact hu
    · cases hu
theorem ins_src2 {w : World} {kap : Option Addr} {ks : List Int} {m kcp : Nat} (h : Ints w kap ks.length ks) (hm : m ≤ ks.length) (hc : ks.length ≤ kcp) : (tailA kap kcp m = none ∧ ks.length - m = 0) ∨ ∃ ad, tailA kap kcp m = some ad ∧ ∀ j u, ((ks.drop m).map (Value.int .i64))[j]? = some u → w.cell? (ad.add j) = some u := by
  unfold tailA
  rcases ints_news h with ⟨h1, h2⟩ | ⟨ad, h1, h2⟩
  · subst h1
    exact Or.inl ⟨by split <;> rfl, by omega⟩
  · subst h1
    by_cases e : kcp = m
    · rw [if_pos e]
      refine Or.inr ⟨ad, rfl, fun j u hu => ?_⟩
      rw [List.drop_of_length_le (by omega)] at hu
      simp at hu
    · rw [if_neg e]
      refine Or.inr ⟨ad.add m, rfl, fun j u hu => ?_⟩
      rw [List.getElem?_map, List.getElem?_drop] at hu
      have := h2 (m + j) u (by rw [List.getElem?_map]; exact hu)
      have e : (ad.add m).add j = ad.add (m + j) := by
        cases ad
        unfold Addr.add
        by_cases h1 : m = 0 <;> by_cases h2 : j = 0 <;> simp [h1, h2, Nat.add_assoc]
      rw [e]; exact this
theorem run_sl_h (kap : Option Addr) (len kcp m : Nat) (w : World) (h : m ≤ kcp) : (Instr.sliceAt 59 (.slice kap len kcp) none (some (.int .i64 (m : Int))) none).run Try.prog w = .ok (.slice kap m kcp) w := by
  have h0 : (0 : Int) ≤ (m : Int) := Int.natCast_nonneg _
  have h1 : (m : Int) ≤ (kcp : Int) := by omega
  have ha : (if kcp = 0 then kap else kap.map fun x => x.add 0) = kap := by
    split
    · rfl
    · cases kap with
      | none => rfl
      | some x => cases x; simp [Addr.add]
  go_simp
  try simp [ha]
theorem run_sl_l (kap : Option Addr) (len kcp m : Nat) (w : World) (h : m ≤ len) : (Instr.sliceAt 59 (.slice kap len kcp) (some (.int .i64 (m : Int))) none none).run Try.prog w = .ok (.slice (tailA kap kcp m) (len - m) (kcp - m)) w := by
  have h0 : (0 : Int) ≤ (m : Int) := Int.natCast_nonneg _
  have h1 : (m : Int) ≤ (len : Int) := by omega
  go_simp
  try simp [tailA]
end Go.Proofs.Ytfnnfjpbplbjmaa

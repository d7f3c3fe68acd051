/-
  What holds of the lines: where lines are broken, one of several items takes up no more than the room; the first line that holds an index is its own. Conditions: those of each lemma.
-/
import Derived.Test.YtcnmchcleghcgaaLnK
import Derived.Test.YtcnmchcleghcgaaLoI
import Derived.Test.YtcnmchcleghcgaaLnG
namespace Go.Proofs.Ytcnmchcleghcgaa
open Go.ChangeShapes Go.WideShapes Go.ChangeAt Go.RowKit
set_option linter.unusedVariables false
set_option maxRecDepth 8000

theorem lnK_fit {xs : List It} {gap room : Int} {wraps : Bool} (hb : brk xs room wraps = true) : ∀ i : Nat, ∀ p ∈ lnK xs gap room wraps i, p.1 + 1 < p.2 → segO xs gap p.1 p.2 ≤ room
  | 0, p, h, _ => by cases h
  | i + 1, p, h, h2 => by
    by_cases h0 : i = 0
    · subst h0
      rw [lnK_one, List.mem_singleton] at h
      subst h
      exact absurd h2 (by decide)
    · obtain ⟨q, hq, hq2, hq1⟩ := (lnK_ok (xs := xs) (gap := gap) (room := room) (wraps := wraps) i).some (by omega)
      rw [lnK_succ hq] at h
      cases hf : fits xs gap room wraps q.1 (i + 1) with
      | true =>
        rw [hf, if_pos rfl] at h
        rcases List.mem_append.1 h with h | h
        · exact lnK_fit hb i p (by rw [getLast_split hq]; exact List.mem_append_left _ h) h2
        · rw [List.mem_singleton.1 h]
          unfold fits at hf
          rw [hb] at hf
          simpa using hf
      | false =>
        rw [hf, if_neg (by decide)] at h
        rcases List.mem_append.1 h with h | h
        · exact lnK_fit hb i p h h2
        · rw [List.mem_singleton.1 h] at h2
          exact absurd h2 (by simp)
theorem mem_line {s t : Nat} {x : Int} : x ∈ lineI (s, t) ↔ ∃ i : Nat, s ≤ i ∧ i < t ∧ x = i := by
  unfold lineI
  rw [List.mem_map]
  constructor
  · rintro ⟨i, hi, rfl⟩
    have h := List.mem_range'_1.1 hi
    exact ⟨i, h.1, by have := h.2; simp only at this ⊢; omega, rfl⟩
  · rintro ⟨i, h1, h2, rfl⟩
    exact ⟨i, List.mem_range'_1.2 ⟨h1, by simp only; omega⟩, rfl⟩
theorem chain_before : ∀ {ps : List (Nat × Nat)} {s n k : Nat}, Chain s ps n → k < ps.length → (∀ j, j < k → (pD ps j).2 ≤ (pD ps k).1) ∧ (pD ps k).1 < (pD ps k).2 ∧ s ≤ (pD ps k).1
  | p :: ps, s, n, 0, h, _ => ⟨fun j hj => by omega, by rw [show pD (p :: ps) 0 = p from rfl, h.1]; exact h.2.1, by rw [show pD (p :: ps) 0 = p from rfl, h.1]; exact Nat.le_refl _⟩
  | p :: ps, s, n, k + 1, h, hk => by
    have ih := chain_before h.2.2 (show k < ps.length by simpa using hk)
    have e : ∀ j, pD (p :: ps) (j + 1) = pD ps j := fun j => rfl
    rw [e]
    refine ⟨fun j hj => ?_, ih.2.1, by have := ih.2.2; have := h.2.1; omega⟩
    cases j with
    | zero => exact ih.2.2
    | succ j => rw [e]; exact ih.1 j (by omega)
/-- The first line that holds an index of line k is line k. -/
theorem lo_line {ps : List (Nat × Nat)} {n k i : Nat} (hc : Chain 0 ps n) (hk : k < ps.length) (h1 : (pD ps k).1 ≤ i) (h2 : i < (pD ps k).2) : loV (ps.map lineI) (i : Int) = k := by
  have hb := chain_before hc hk
  refine lo_hit (by rw [List.length_map]; exact hk) ?_ (fun j hj => ?_)
  · rw [lnD_map hk]
    exact mem_line.2 ⟨i, h1, h2, rfl⟩
  · rw [lnD_map (by omega)]
    intro h
    obtain ⟨q, _, hq2, e⟩ := (mem_line (s := (pD ps j).1) (t := (pD ps j).2)).1 h
    have := hb.1 j hj
    omega
end Go.Proofs.Ytcnmchcleghcgaa

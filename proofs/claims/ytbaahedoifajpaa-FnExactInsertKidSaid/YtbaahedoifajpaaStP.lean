/-
  A tree of the call's own whose node's style is stored anew. Conditions: none.
-/
import Derived.Test.YtbaahedoifajpaaMkH
namespace Go.Proofs.Ytbaahedoifajpaa
open Go.ChangeShapes Go.WideShapes Go.ChangeAt Go.RowKit
set_option linter.unusedVariables false
set_option linter.unusedSimpArgs false
set_option maxRecDepth 8000

theorem gr_sets (g : Nat) : ∀ (vs : List Value) (o : Nat) (w : World), w.grownBy (w.setCells g o vs) (some g)
  | [], _, w => World.grownBy.refl w _
  | v :: vs, o, w => (gr_sets g vs (o + 1) (w.setCell ⟨g, o, none⟩ v)) |> fun h => gr_tr (gr_set (World.grownBy.refl w _)) h
def ND.styled (m : ND) (f : Nat → Int) : ND := ⟨{ m.n with sty := f }, m.kv, m.tv⟩
theorem cellsN_sty (ms : List ND) {i : Nat} {m : ND} (hi : ms[i]? = some m) (f : Nat → Int) : setL (cellsN ms) (i * 64 + 2) (sCells f).toList = cellsN (ms.set i (m.styled f)) := by
  have hil := (List.getElem?_eq_some_iff.1 hi).1
  have hcl := cellsN_len ms
  rw [← cellsN_set ms hil]
  apply List.ext_getElem?
  intro q
  have e0 := cellsN_at ms (q / 64) (q % 64) (Nat.mod_lt _ (by decide))
  rw [show q / 64 * 64 + q % 64 = q by omega] at e0
  rw [setL_at _ _ _ _ (by simp only [Array.length_toList, sCells_size]; omega), setL_at _ _ _ _ (by rw [ND.cells_len, hcl]; omega), ND.cells_len]
  simp only [Array.length_toList, sCells_size]
  by_cases h1 : i * 64 ≤ q ∧ q < i * 64 + 64
  · have e : q / 64 = i := by omega
    rw [if_pos h1]
    by_cases h2 : i * 64 + 2 ≤ q ∧ q < i * 64 + 2 + 60
    · rw [if_pos h2]
      have h3 : (m.styled f).cells[2 + (q - (i * 64 + 2))]? = _ := nL_sty (q - (i * 64 + 2)) (by omega)
      rw [show q - i * 64 = 2 + (q - (i * 64 + 2)) by omega, h3, Array.getElem?_toList, sCells_get f (by omega)]
      rfl
    · rw [if_neg h2, e0, e, hi]
      by_cases a0 : q - i * 64 = 0
      · rw [a0, show q % 64 = 0 by omega]; rfl
      · by_cases a1 : q - i * 64 = 1
        · rw [a1, show q % 64 = 1 by omega]; rfl
        · by_cases a2 : q - i * 64 = 62
          · rw [a2, show q % 64 = 62 by omega]; rfl
          · rw [show q - i * 64 = 63 by omega, show q % 64 = 63 by omega]; rfl
  · rw [if_neg h1, if_neg (by omega)]
theorem OwnN.restyle {lo g cap k : Nat} {ms : List ND} {m : ND} {w : World} {f : Nat → Int} (h : OwnN lo (.slice (some ⟨g, 0, none⟩) ms.length cap) ms w) (hi : ms[k]? = some m) (hf : InR f) :
    OwnN lo (.slice (some ⟨g, 0, none⟩) ms.length cap) (ms.set k (m.styled f)) (w.setCells g (k * 64 + 2) (sCells f).toList) := by
  have g1 := gr_sets g (sCells f).toList (k * 64 + 2) w
  have hown := (h.2.1 m (List.mem_of_getElem? hi)).1
  have hgne := (h.2.1 m (List.mem_of_getElem? hi)).2
  have hrow := ownsRow_setCells (sCells f).toList _ (k * 64 + 2) w h.1
  rw [cellsN_sty ms hi f] at hrow
  generalize w.setCells g (k * 64 + 2) (sCells f).toList = w1 at *
  have rowK : ∀ {e : TypeId} {size n : Nat} {x : Value} {xs : List Value}, w.ownsRow lo e size x n xs → (∀ b, x.ownBlock = some b → b ≠ g) → w1.ownsRow lo e size x n xs := fun hr hne => World.ownsRow.kept hr g1 (by
    rename_i x xs
    cases hx : x.ownBlock with
    | none => exact Or.inl rfl
    | some b => exact Or.inr fun e => hne b hx (by simpa using e))
  have hkr : KRow lo m.kv m.n.kids w1 := by
    obtain ⟨a, c, e, hr⟩ := hown.2.1
    by_cases h0 : m.n.kids = []
    · exact ⟨a, c, e, Or.inl h0⟩
    · exact ⟨a, c, e, Or.inr (rowK (hr.resolve_left h0) fun b hb e => hgne true b (by unfold ND.comp blk; rw [if_pos rfl, if_neg (by simpa using h0)]; exact hb) (by rw [e]; rfl))⟩
  have htr : TRow lo m.tv m.n.rl m.n.rules w1 := by
    obtain ⟨a, c, e, hr⟩ := hown.2.2
    by_cases h0 : m.n.rl = 0
    · exact ⟨a, c, e, Or.inl h0⟩
    · exact ⟨a, c, e, Or.inr (rowK (hr.resolve_left h0) fun b hb e => hgne false b (by unfold ND.comp blk; rw [if_neg (by decide), if_neg h0]; exact hb) (by rw [e]; rfl))⟩
  exact h.remark hi rfl rfl rfl rfl hrow ⟨⟨hown.1.1, hown.1.2.1, hf, hown.1.2.2.2⟩, hkr, htr⟩ (fun q hq h1 _ _ => g1.block q hq (fun e => h1 (by simpa using e))) g1.size
end Go.Proofs.Ytbaahedoifajpaa

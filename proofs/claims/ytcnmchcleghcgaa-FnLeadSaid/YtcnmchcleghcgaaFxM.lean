/-
  The program's flexing in memory: its block, the rows of its sizes and weights; what calls and stores leave of them. Conditions: those of each lemma.
-/
import Derived.Test.YtcnmchcleghcgaaFxP
import Derived.Test.YtcnmchcleghcgaaClamp
import Derived.Test.YtcnmchcleghcgaaShI
namespace Go.Proofs.Ytcnmchcleghcgaa
open Go.ChangeShapes Go.WideShapes Go.ChangeAt Go.RowKit
set_option linter.unusedVariables false
set_option linter.unusedSimpArgs false
set_option maxRecDepth 8000

theorem kept_cell {w w' : World} {p : Addr} {v : Value} (h : w.cell? p = some v) (hb : Below w.heap.size w w') : w'.cell? p = some v := (hb.cell (World.block_lt_of_cell? w _ h)).trans h
def fxC (f : Fx) (a : Option Addr) (cap zb wb : Nat) (p : Nat) : Array Value := #[.slice a f.xs.length cap, .int .i64 f.gap, .int .i64 f.inner, .bool f.gr, .slice (some ⟨zb, 0, none⟩) f.xs.length f.xs.length, .slice (some ⟨wb, 0, none⟩) f.xs.length f.xs.length, .int .i64 p]
namespace FxM
variable {w0 : World} {f : Fx} {a : Option Addr} {cap fb zb wb : Nat} {zs ws : List Int} {p : Nat} {w : World}
theorem put_row {w : World} {v : Value} {xs : List Int} {b g j : Nat} {u : Value} (h : RowI b v xs w) (hne : v.ownBlock = none ∨ v.ownBlock ≠ some g) : RowI b v xs (w.setCell ⟨g, j, none⟩ u) :=
  h.kept (row := some g) ⟨rfl, rfl, rfl, by simp [World.setCell], fun i hi hn => Below.heap_setCell w ⟨g, j, none⟩ u i (by rintro rfl; exact hn rfl)⟩ hne
end FxM
theorem if_next {α : Type} {i k : Nat} {P : Prop} [Decidable P] (h : i ≠ k) (x y : α) : (if i < k + 1 ∧ P then x else y) = if i < k ∧ P then x else y := by
  by_cases h1 : i < k
  · by_cases h2 : P
    · rw [if_pos ⟨by omega, h2⟩, if_pos ⟨h1, h2⟩]
    · rw [if_neg (fun h => h2 h.2), if_neg (fun h => h2 h.2)]
  · rw [if_neg (fun h => by have := h.1; omega), if_neg (fun h => h1 h.1)]
theorem getD_set {α : Type} (l : List α) (k i : Nat) (v d : α) : (l.set k v).getD i d = if i = k ∧ k < l.length then v else l.getD i d := by
  simp only [List.getD_eq_getElem?_getD, List.getElem?_set]
  by_cases e : k = i
  · subst e
    by_cases h : k < l.length
    · simp [h]
    · simp [h]
  · rw [if_neg e, if_neg (fun h => e h.1.symm)]
theorem eq_range {α : Type} {l : List α} {n : Nat} {g : Nat → α} {d : α} (hl : l.length = n) (h : ∀ i, i < n → l.getD i d = g i) : l = (List.range n).map g := by
  apply List.ext_getElem?
  intro i
  by_cases hi : i < n
  · have h1 := h i hi
    rw [List.getD_eq_getElem?_getD, List.getElem?_eq_getElem (by omega)] at h1
    rw [List.getElem?_eq_getElem (by omega), List.getElem?_map, List.getElem?_range hi]
    simpa using h1
  · rw [List.getElem?_eq_none (by omega), List.getElem?_eq_none (by simp; omega)]
theorem allI_D {l : List Int} {n : Nat} (hl : l.length = n) (h : ∀ i, i < n → -9223372036854775808 ≤ l.getD i 0 ∧ l.getD i 0 ≤ 9223372036854775807) : AllI l := by
  intro z hz
  obtain ⟨j, hj, e⟩ := List.getElem_of_mem hz
  have := h j (by omega)
  rw [List.getD_eq_getElem?_getD, List.getElem?_eq_getElem hj, e] at this
  exact this
end Go.Proofs.Ytcnmchcleghcgaa

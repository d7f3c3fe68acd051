/-
  The contracts of the program's flexing: freezeViolating, freezeShared, settle. Conditions: the items are valid.
-/
import Derived.Test.YtcnmchcleghcgaaFxJ
import Derived.Scope
import Derived.WalkMore
import Derived.ScopeJumps
namespace Go.Proofs.Ytcnmchcleghcgaa
open Go.ChangeShapes Go.WideShapes Go.ChangeAt Go.RowKit
set_option linter.unusedVariables false
set_option linter.unusedSimpArgs false
set_option maxRecDepth 8000

/-- A row apart from those of the flexing, over the stores of freeze. -/
theorem put2 {w : World} {v : Value} {xs : List Int} {b g1 g2 j : Nat} {u1 u2 : Value} (h : RowI b v xs w) (h1 : v.ownBlock = none ∨ v.ownBlock ≠ some g1) (h2 : v.ownBlock = none ∨ v.ownBlock ≠ some g2) : RowI b v xs ((w.setCell ⟨g1, j, none⟩ u1).setCell ⟨g2, j, none⟩ u2) :=
  FxM.put_row (FxM.put_row h h1) h2
theorem RowI.intsOf {b n cap : Nat} {a : Option Addr} {xs : List Int} {w : World} (h : RowI b (.slice a n cap) xs w) (hr : AllI xs) : n = xs.length ∧ Ints w a n xs := by
  obtain ⟨a', cap', e, hi⟩ := h.slice hr
  simp only [Value.slice.injEq] at e
  obtain ⟨rfl, rfl, rfl⟩ := e
  exact ⟨rfl, hi⟩
theorem any_succ (g : Nat → Bool) (k : Nat) : (List.range (k + 1)).any g = ((List.range k).any g || g k) := by simp [List.range_succ]
theorem if_upd {α : Type} {i k : Nat} {P : Prop} [Decidable P] (h : P) (x y : α) : (if k < k + 1 ∧ P then x else y) = x := if_pos ⟨Nat.lt_succ_self k, h⟩
theorem lt_next {α : Type} {i k : Nat} (h : i ≠ k) (x y : α) : (if i < k + 1 then x else y) = if i < k then x else y := by
  by_cases h1 : i < k
  · rw [if_pos h1, if_pos (by omega)]
  · rw [if_neg h1, if_neg (by omega)]
end Go.Proofs.Ytcnmchcleghcgaa

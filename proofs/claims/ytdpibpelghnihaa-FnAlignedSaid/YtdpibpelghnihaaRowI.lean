/-
  Rows of ints that a call made: what keeps them, and the laws' helpers eqIntS, markIntS, heldIntS on them. Conditions: at most 1048576 ints.
-/
import Derived.Test.YtdpibpelghnihaaIntS
namespace Go.Proofs.Ytdpibpelghnihaa
open Go.ChangeShapes Go.WideShapes Go.ChangeAt Go.RowKit

/-- Every number is an int. -/
def AllI (xs : List Int) : Prop := ∀ z ∈ xs, -9223372036854775808 ≤ z ∧ z ≤ 9223372036854775807
/-- A call that hands back a row of its own and leaves all old memory alone. -/
def OutPost (xs : List Int) (w : World) (e : Ending) (w' : World) : Prop := ∃ v, e = .returned v ∧ RowI w.heap.size v xs w' ∧ Below w.heap.size w w'

theorem RowI.kept {b : Nat} {v : Value} {xs : List Int} {w w' : World} {row : Option Nat} (h : RowI b v xs w) (hg : w.grownBy w' row) (hne : v.ownBlock = none ∨ v.ownBlock ≠ row) : RowI b v xs w' := World.ownsRow.kept h hg hne
theorem RowI.below {b : Nat} {v : Value} {xs : List Int} {w w' : World} (h : RowI b v xs w) (hb : Below w.heap.size w w') : RowI b v xs w' :=
  World.ownsRow.kept h ⟨hb.os, hb.tape, hb.output, hb.size, fun k hk _ => hb.block k hk⟩ (by cases v.ownBlock <;> simp : v.ownBlock = none ∨ v.ownBlock ≠ none)
theorem RowI.slice {b : Nat} {v : Value} {xs : List Int} {w : World} (h : RowI b v xs w) (hr : AllI xs) : ∃ a cap, v = .slice a xs.length cap ∧ Ints w a xs.length xs := by
  rcases h.2 with ⟨h1, h2⟩ | ⟨g, cap, cur, h1, _⟩
  · refine ⟨none, 0, by rw [h1, h2], rfl, hr, Or.inl h2⟩
  · subst h1
    exact ⟨_, cap, rfl, h.ints rfl hr⟩
/-- A row that was made later lies elsewhere. -/
theorem apart_of {b : Nat} {v u : Value} {xs ys : List Int} {w0 w1 : World} {B : Nat} (h : RowI b v xs w0) (h' : RowI B u ys w1) (hB : w0.heap.size ≤ B) : v.ownBlock = none ∨ v.ownBlock ≠ u.ownBlock := by
  cases hv : v.ownBlock with
  | none => exact Or.inl rfl
  | some g =>
    refine Or.inr fun hu => ?_
    have h1 := (World.ownsRow.lt h g hv).2
    have h2 := (World.ownsRow.lt h' g hu.symm).1
    omega
theorem apart_U {v u : Value} {a b c d : Nat} (h : ∀ k, v.ownBlock = some k → a ≤ k ∧ k < b) (h' : ∀ k, u.ownBlock = some k → c ≤ k ∧ k < d) (hbc : b ≤ c) : v.ownBlock = none ∨ v.ownBlock ≠ u.ownBlock := by
  cases hv : v.ownBlock with
  | none => exact Or.inl rfl
  | some g =>
    refine Or.inr fun hu => ?_
    have h1 := (h g hv).2
    have h2 := (h' g hu.symm).1
    omega
theorem apart_sym {v u : Value} (h : v.ownBlock = none ∨ v.ownBlock ≠ u.ownBlock) : u.ownBlock = none ∨ u.ownBlock ≠ v.ownBlock := by
  cases hu : u.ownBlock with
  | none => exact Or.inl rfl
  | some g =>
    refine Or.inr fun he => ?_
    rcases h with h | h
    · rw [h] at he; cases he
    · exact h (by rw [hu, ← he])
/-- What turns one row alone leaves what was there before the row. -/
theorem below_row {b : Nat} {v : Value} {xs : List Int} {W w w' : World} (hb : Below b W w) (h : RowI b v xs w) (hs : b ≤ w.heap.size) (hg : w.grownBy w' v.ownBlock) : Below b W w' := hb.grown hg hs (fun k hk => (World.ownsRow.lt h k hk).1)


/-- The marks k, k + 1, .. -/
def mksI (k n : Nat) : List Int := (List.range n).map fun j => ((k + j : Nat) : Int)
theorem mksI_set {k m : Nat} {xs : List Int} (h : m < xs.length) : (mksI k m ++ xs.drop m).set m ((k : Int) + m) = mksI k (m + 1) ++ xs.drop (m + 1) := by
  rw [List.set_append_right _ _ (by simp [mksI]), List.drop_eq_getElem_cons h]
  rw [show m - (mksI k m).length = 0 by simp [mksI], List.set_cons_zero]
  simp [mksI, List.range_succ]
theorem mksI_at (k : Nat) {m n : Nat} (h : m < n) : (mksI k n).getD m 0 = (k : Int) + m := by
  simp [mksI, h]
theorem mksI_len (k n : Nat) : (mksI k n).length = n := by simp [mksI]



end Go.Proofs.Ytdpibpelghnihaa

/-
  What the exact laws on tables share: two boxes' cells kept over calls, in a region that draws too. Conditions: none.
-/
import Derived.Test.YtfnnfjpbplbjmaaRlT
import Derived.Test.YtfnnfjpbplbjmaaRlE
import Derived.Deep.RegionHeld3
import Derived.Below
namespace Go.Proofs.Ytfnnfjpbplbjmaa
open Go.ChangeShapes Go.WideShapes Go.ChangeAt Go.RowKit

/-- Two cells, and the world they were made in. -/
def Two (v : World) (p q : Addr) (s t : Value) (w : World) : Prop := w.cell? p = some s ∧ w.cell? q = some t ∧ Below v.heap.size v w
theorem keep2 {v w w' : World} {p q : Addr} {s t : Value} (h : w.cell? p = some s ∧ w.cell? q = some t ∧ Below v.heap.size v w) (hb : Below w.heap.size w w') : w'.cell? p = some s ∧ w'.cell? q = some t ∧ Below v.heap.size v w' :=
  ⟨(hb.cell (block_lt_of_cell h.1)).trans h.1, (hb.cell (block_lt_of_cell h.2.1)).trans h.2.1, h.2.2.trans (hb.mono h.2.2.size)⟩
theorem drew2 {v w : World} {p q : Addr} {s t : Value} (h : w.cell? p = some s ∧ w.cell? q = some t ∧ Below v.heap.size v w) : w.drew.cell? p = some s ∧ w.drew.cell? q = some t ∧ Below v.heap.size v w.drew := ⟨h.1, h.2.1, h.2.2.drew⟩
/-- A row whose block lies in a range lies apart from a block outside. -/
theorem ap_lt {v : Value} {a b g : Nat} (h : ∀ k, v.ownBlock = some k → a ≤ k ∧ k < b) (hg : b ≤ g ∨ g < a) : v.ownBlock = none ∨ v.ownBlock ≠ some g := by
  cases hv : v.ownBlock with
  | none => exact Or.inl rfl
  | some k =>
    refine Or.inr fun hu => ?_
    have h1 := h k hv
    simp at hu
    omega
theorem ap_ne {v : Value} {a b g : Nat} (h : ∀ k, v.ownBlock = some k → a ≤ k ∧ k < b) (hg : b ≤ g ∨ g < a) : some g ≠ v.ownBlock := by
  intro e
  have h1 := h g e.symm
  omega
theorem hp_grown {w w' : World} {g : Nat} {o : Obj} {row : Option Nat} (h : w.heap[g]? = some o) (hg : w.grownBy w' row) (hne : some g ≠ row) : w'.heap[g]? = some o := (hg.block g (hp_lt h) hne).trans h
end Go.Proofs.Ytfnnfjpbplbjmaa

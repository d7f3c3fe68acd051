/-
  The items at the indexes of a line (LineItems of program and model): in a row of the call's own. Conditions: at most 1048576 items and indexes.
-/
import Derived.Test.YtnncdpkmhpjmbaaItO
import Derived.Test.YtnncdpkmhpjmbaaRng
import Derived.Test.YtnncdpkmhpjmbaaRwP
import Derived.Laws.OwnMore
import Derived.OwnWalk
namespace Go.Proofs.Ytnncdpkmhpjmbaa
open Go.ChangeShapes Go.WideShapes Go.ChangeAt Go.RowKit
set_option linter.unusedVariables false
set_option linter.unusedSimpArgs false
set_option maxRecDepth 8000

/-- The item at an index, if it exists. -/
def oneV (xs : List It) (z : Int) : List It := if rnB z 0 ((xs.length : Int) - 1) = true then [itD xs z.toNat] else []
/-- The items at the indexes of a line. -/
def liV (xs : List It) : List Int → List It
  | [] => []
  | z :: zs => oneV xs z ++ liV xs zs
theorem liV_app (xs : List It) : ∀ a b : List Int, liV xs (a ++ b) = liV xs a ++ liV xs b
  | [], b => rfl
  | z :: a, b => by show oneV xs z ++ liV xs (a ++ b) = _; rw [liV_app xs a b, ← List.append_assoc]; rfl
theorem liV_snoc (xs : List It) {zs : List Int} {k : Nat} (h : k < zs.length) : liV xs (zs.take (k + 1)) = liV xs (zs.take k) ++ oneV xs (zs.getD k 0) := by
  rw [take_snoc h, liV_app]
  show liV xs (zs.take k) ++ (oneV xs (zs.getD k 0) ++ []) = _
  rw [List.append_nil]
theorem oneV_in {xs : List It} {z : Int} (h : rnB z 0 ((xs.length : Int) - 1) = true) : oneV xs z = [itD xs z.toNat] := by unfold oneV; rw [if_pos h]
theorem oneV_out {xs : List It} {z : Int} (h : rnB z 0 ((xs.length : Int) - 1) = false) : oneV xs z = [] := by unfold oneV; rw [if_neg (by rw [h]; decide)]
theorem oneV_inr {xs : List It} {z : Int} (hx : ∀ x ∈ xs, x.inr) : ∀ x ∈ oneV xs z, x.inr := by
  intro x h
  unfold oneV at h
  split at h
  · rename_i h1
    have h2 := of_decide_eq_true h1
    rw [List.mem_singleton.1 h]
    exact hx _ (itD_mem (by omega))
  · cases h
theorem liV_inr {xs : List It} (hx : ∀ x ∈ xs, x.inr) : ∀ zs : List Int, ∀ x ∈ liV xs zs, x.inr
  | [], x, h => by cases h
  | z :: zs, x, h => by
    rcases List.mem_append.1 (show x ∈ oneV xs z ++ liV xs zs from h) with h | h
    · exact oneV_inr hx x h
    · exact liV_inr hx zs x h
theorem liV_len (xs : List It) : ∀ zs : List Int, (liV xs zs).length ≤ zs.length
  | [] => Nat.le_refl _
  | z :: zs => by
    have h1 := liV_len xs zs
    have h2 : (oneV xs z).length ≤ 1 := by unfold oneV; split <;> simp
    show (oneV xs z ++ liV xs zs).length ≤ zs.length + 1
    rw [List.length_append]
    omega
/-- What hands back a row of items of its own. -/
def OutPostT (xs : List It) (w : World) (e : Ending) (w' : World) : Prop := ∃ v, e = .returned v ∧ RowT w.heap.size v xs w' ∧ Below w.heap.size w w'
theorem it_newL {w : World} {x : It} {t : TypeId} (j : Nat) (u : Value) (hj : x.L[j]? = some u) : (w.alloc (.cells x.A t)).cell? ((⟨w.heap.size, 0, none⟩ : Addr).add j) = some u := by
  have h := range_block ((MapKept.heap_alloc w (.cells x.A t)).1) j u hj
  have e : ((⟨w.heap.size, 0, none⟩ : Addr).add j) = ⟨w.heap.size, 0 + j, none⟩ := by
    cases j <;> simp [Addr.add]
  rw [e]
  exact h
def LiRel (xs : List It) (zs : List Int) (w : World) (v i : Value) (wr : World) : Prop :=
  ∃ k : Nat, k ≤ zs.length ∧ i = .int .i64 k ∧ RowT w.heap.size v (liV xs (zs.take k)) wr ∧ Below w.heap.size w wr
theorem RowT.app {lo : Nat} {v' : Value} {xs : List It} {x : It} {w' : World} (h : w'.ownsRow lo 40 9 v' (xs.length + 1) (cellsI xs ++ x.L)) : RowT lo v' (xs ++ [x]) w' := by
  unfold RowT; rw [cellsI_push, List.length_append]; exact h
end Go.Proofs.Ytnncdpkmhpjmbaa

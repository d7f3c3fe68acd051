/-
  The contracts of impl.Scaled and spec.Scaled: each size, clamped to a length, times its factor, clamped to 0 to 1000; in a row of the call's own. Conditions: at most 1048576 sizes and factors.
-/
import Derived.Test.YtdhgachfenkbgaaClamp
import Derived.Test.YtdhgachfenkbgaaRowI
namespace Go.Proofs.Ytdhgachfenkbgaa
open Go.ChangeShapes Go.WideShapes Go.ChangeAt Go.RowKit

def facI (n : Int) : Int := brI n 0 1000
theorem facI_in (n : Int) : 0 ≤ facI n ∧ facI n ≤ 1000 := brI_in (by omega)
def scA (xs ys : List Int) (k : Nat) : Int := clI (xs.getD k 0) * facI (ys.getD k 0)
/-- The first k of them. -/
def scK (xs ys : List Int) (k : Nat) : List Int := (List.range k).map (scA xs ys)
def scL (xs ys : List Int) : List Int := scK xs ys (min xs.length ys.length)
theorem sc_in (x y : Int) : 0 ≤ clI x * facI y ∧ clI x * facI y ≤ 1048576000 := by
  have h1 := clI_in x
  have h2 := facI_in y
  have h3 := Int.mul_nonneg h1.1 h2.1
  have h4 := Int.mul_le_mul h1.2 h2.2 h2.1 (by omega)
  omega
theorem scK_succ (xs ys : List Int) (k : Nat) : scK xs ys (k + 1) = scK xs ys k ++ [scA xs ys k] := by simp [scK, List.range_succ]
theorem scK_len (xs ys : List Int) (k : Nat) : (scK xs ys k).length = k := by simp [scK]
theorem scK_set {xs ys l : List Int} {k : Nat} (h : k < l.length) : (scK xs ys k ++ l.drop k).set k (scA xs ys k) = scK xs ys (k + 1) ++ l.drop (k + 1) := by
  rw [List.set_append_right _ _ (by simp [scK]), List.drop_eq_getElem_cons h, show k - (scK xs ys k).length = 0 by simp [scK], List.set_cons_zero]
  simp [scK, List.range_succ]
theorem scL_len (xs ys : List Int) : (scL xs ys).length = min xs.length ys.length := by simp [scL, scK]
theorem scL_all (xs ys : List Int) : AllI (scL xs ys) := by
  intro z hz
  simp [scL, scK] at hz
  obtain ⟨k, _, rfl⟩ := hz
  have := sc_in (xs.getD k 0) (ys.getD k 0)
  unfold scA
  omega
end Go.Proofs.Ytdhgachfenkbgaa

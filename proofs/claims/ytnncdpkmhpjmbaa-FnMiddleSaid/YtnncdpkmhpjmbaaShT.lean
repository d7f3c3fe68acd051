/-
  What the shares keep: they add up to the whole, each is less than 1 from the exact share, and a weight of 0 gets nothing. Conditions: those of each lemma.
-/
import Derived.Test.YtnncdpkmhpjmbaaShM
namespace Go.Proofs.Ytnncdpkmhpjmbaa
open Go.ChangeShapes Go.WideShapes Go.ChangeAt Go.RowKit
set_option maxRecDepth 20000

theorem fd_add {A B S : Int} (h : 1 ≤ S) : fdI B S ≤ fdI (A + B) S - fdI A S ∧ fdI (A + B) S - fdI A S ≤ fdI B S + 1 := by
  have h1 := fdI_le (a := A) h
  have h2 := fdI_le (a := B) h
  have h3 := fdI_le (a := A + B) h
  generalize fdI A S = p at *
  generalize fdI B S = q at *
  generalize fdI (A + B) S = r at *
  have e1 : (p + q) * S < (r + 1) * S := by rw [Int.add_mul, Int.add_mul, Int.one_mul]; omega
  have e2 : r * S < (p + q + 2) * S := by rw [Int.add_mul, Int.add_mul]; omega
  have l1 := Int.lt_of_mul_lt_mul_right e1 (by omega)
  have l2 := Int.lt_of_mul_lt_mul_right e2 (by omega)
  omega
theorem shr_low {m : Int} {zs : List Int} {k : Nat} (h : 1 ≤ wsum zs zs.length) :
    fdI (m * zs.getD k 0) (wsum zs zs.length) ≤ shrI m zs k ∧ shrI m zs k ≤ fdI (m * zs.getD k 0) (wsum zs zs.length) + 1 := by
  have h1 := fd_add (A := m * wsum zs k) (B := m * zs.getD k 0) h
  have e : m * wsum zs (k + 1) = m * wsum zs k + m * zs.getD k 0 := by rw [← Int.mul_add]; rfl
  unfold shrI posI
  rw [e]
  exact h1
theorem shr_zero {m : Int} {zs : List Int} {k : Nat} (h : zs.getD k 0 = 0) : shrI m zs k = 0 := by
  have e : wsum zs (k + 1) = wsum zs k := by
    show wsum zs k + zs.getD k 0 = wsum zs k
    omega
  unfold shrI posI
  rw [e]
  omega
theorem pos_succ (m : Int) (zs : List Int) (k : Nat) : posI m zs k + shrI m zs k = posI m zs (k + 1) := by
  unfold shrI; omega
theorem pos_all {m : Int} {zs : List Int} (h : 1 ≤ wsum zs zs.length) : posI m zs zs.length = m := by
  unfold posI fdI
  rw [if_neg (by omega)]
  exact Int.mul_ediv_cancel m (by omega)
theorem pos_none {m : Int} {zs : List Int} (h : wsum zs zs.length = 0) : posI m zs zs.length = 0 := by
  unfold posI fdI
  rw [if_pos (by omega)]
theorem shr_seven : shrL 7 [1, 2] = [2, 5] := by decide +kernel
end Go.Proofs.Ytnncdpkmhpjmbaa

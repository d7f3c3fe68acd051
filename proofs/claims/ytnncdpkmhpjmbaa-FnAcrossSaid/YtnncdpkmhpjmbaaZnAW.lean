import Derived.Test.YtnncdpkmhpjmbaaZnAS
section
namespace Go.Proofs.Ytnncdpkmhpjmbaa
open Go.ChangeShapes Go.WideShapes Go.ChangeAt Go.RowKit
set_option maxRecDepth 20000

theorem fd_add {A B S : Int} (h : 1 ≤ S) : fdI B S ≤ fdI (A + B) S - fdI A S ∧ fdI (A + B) S - fdI A S ≤ fdI B S + 1 := by
  have h1 := fdI_le (a := A) h
  have h2 := fdI_le (a := B) h
  have h3 := fdI_le (a := A + B) h
  generalize fdI A S = p at *
  generalize fdI B S = q at *
  generalize fdI (A + B) S = r at *
  have e1 : (p + q) * S < (r + 1) * S := by rw [Int.add_mul, Int.add_mul, Int.one_mul]; omega
  have e2 : r * S < (p + q + 2) * S := by rw [Int.add_mul, Int.add_mul]; omega
  have l1 := Int.lt_of_mul_lt_mul_right e1 (by omega)
  have l2 := Int.lt_of_mul_lt_mul_right e2 (by omega)
  omega
theorem shr_low {m : Int} {zs : List Int} {k : Nat} (h : 1 ≤ wsum zs zs.length) :
    fdI (m * zs.getD k 0) (wsum zs zs.length) ≤ shrI m zs k ∧ shrI m zs k ≤ fdI (m * zs.getD k 0) (wsum zs zs.length) + 1 := by
  have h1 := fd_add (A := m * wsum zs k) (B := m * zs.getD k 0) h
  have e : m * wsum zs (k + 1) = m * wsum zs k + m * zs.getD k 0 := by rw [← Int.mul_add]; rfl
  unfold shrI posI
  rw [e]
  exact h1
theorem pos_succ (m : Int) (zs : List Int) (k : Nat) : posI m zs k + shrI m zs k = posI m zs (k + 1) := by
  unfold shrI; omega
theorem pos_all {m : Int} {zs : List Int} (h : 1 ≤ wsum zs zs.length) : posI m zs zs.length = m := by
  unfold posI fdI
  rw [if_neg (by omega)]
  exact Int.mul_ediv_cancel m (by omega)
end Go.Proofs.Ytnncdpkmhpjmbaa
end

import Derived.Test.YtnncdpkmhpjmbaaZmAR
import Derived.Test.YtnncdpkmhpjmbaaZmAW
section
namespace Go.Proofs.Ytnncdpkmhpjmbaa
open Go.ChangeShapes Go.WideShapes Go.ChangeAt Go.RowKit
set_option maxRecDepth 20000

theorem fd_add {A B S : Int} (h : 1 ≤ S) : fdI B S ≤ fdI (A + B) S - fdI A S ∧ fdI (A + B) S - fdI A S ≤ fdI B S + 1 := by
  have h1 := fdI_le (a := A) h
  have h2 := fdI_le (a := B) h
  have h3 := fdI_le (a := A + B) h
  generalize fdI A S = p at *
  generalize fdI B S = q at *
  generalize fdI (A + B) S = r at *
  have e1 : (p + q) * S < (r + 1) * S := by rw [Int.add_mul, Int.add_mul, Int.one_mul]; omega
  have e2 : r * S < (p + q + 2) * S := by rw [Int.add_mul, Int.add_mul]; omega
  have l1 := Int.lt_of_mul_lt_mul_right e1 (by omega)
  have l2 := Int.lt_of_mul_lt_mul_right e2 (by omega)
  omega
theorem shr_low {m : Int} {zs : List Int} {k : Nat} (h : 1 ≤ wsum zs zs.length) :
    fdI (m * zs.getD k 0) (wsum zs zs.length) ≤ shrI m zs k ∧ shrI m zs k ≤ fdI (m * zs.getD k 0) (wsum zs zs.length) + 1 := by
  have h1 := fd_add (A := m * wsum zs k) (B := m * zs.getD k 0) h
  have e : m * wsum zs (k + 1) = m * wsum zs k + m * zs.getD k 0 := by rw [← Int.mul_add]; rfl
  unfold shrI posI
  rw [e]
  exact h1
theorem pos_succ (m : Int) (zs : List Int) (k : Nat) : posI m zs k + shrI m zs k = posI m zs (k + 1) := by
  unfold shrI; omega
theorem pos_all {m : Int} {zs : List Int} (h : 1 ≤ wsum zs zs.length) : posI m zs zs.length = m := by
  unfold posI fdI
  rw [if_neg (by omega)]
  exact Int.mul_ediv_cancel m (by omega)
end Go.Proofs.Ytnncdpkmhpjmbaa
end
section
namespace Go.Proofs.Ytnncdpkmhpjmbaa
open Go.ChangeShapes Go.WideShapes Go.ChangeAt Go.RowKit
set_option maxRecDepth 20000

theorem wsum_ones {k j : Nat} (h : j ≤ k) : wsum (List.replicate k 1) j = j := by
  induction j with
  | zero => rfl
  | succ j ih =>
    show wsum (List.replicate k 1) j + (List.replicate k (1 : Int)).getD j 0 = _
    rw [ih (by omega)]
    have : j < k := by omega
    simp [this]
theorem evn_near (n many : Int) : ∃ q : Int, -1048576 ≤ q ∧ q ≤ 1048576 ∧ ∀ j, j < (evnL n many).length → q ≤ (evnL n many).getD j 0 ∧ (evnL n many).getD j 0 ≤ q + 1 := by
  by_cases h : many < 0 ∨ 64 < many
  · rw [evn_no h]
    exact ⟨0, by omega, by omega, fun j hj => by simp at hj⟩
  · obtain ⟨k, rfl⟩ := Int.eq_ofNat_of_zero_le (show 0 ≤ many by omega)
    have hk : k ≤ 64 := by omega
    rw [evn_nat hk]
    have hm := lenI_in n
    have hb := fdI_bound (a := lenI n) (b := (k : Int)) (B := 1048576) hm.1 hm.2
    refine ⟨fdI (lenI n) k, hb.1, hb.2, fun j hj => ?_⟩
    cases hw : wokI (List.replicate k 1) with
    | false => simp [shrL, hw] at hj
    | true =>
      rw [shrL_len hw] at hj
      have hj' : j < k := by simpa using hj
      rw [shrL_at hw hj]
      have hS : wsum (List.replicate k 1) (List.replicate k (1 : Int)).length = k := by rw [List.length_replicate]; exact wsum_ones (Nat.le_refl _)
      have h1 := shr_low (m := lenI n) (zs := List.replicate k 1) (k := j) (by rw [hS]; omega)
      rw [hS, show (List.replicate k (1 : Int)).getD j 0 = 1 by simp [hj'], Int.mul_one] at h1
      exact h1
end Go.Proofs.Ytnncdpkmhpjmbaa
end

import Derived.Test.YtnncdpkmhpjmbaaZnAV
import Derived.Test.YtnncdpkmhpjmbaaZnAW
section
namespace Go.Proofs.Ytnncdpkmhpjmbaa
open Go.ChangeShapes Go.WideShapes Go.ChangeAt Go.RowKit
set_option maxRecDepth 20000

theorem wsum_ones {k j : Nat} (h : j ≤ k) : wsum (List.replicate k 1) j = j := by
  induction j with
  | zero => rfl
  | succ j ih =>
    show wsum (List.replicate k 1) j + (List.replicate k (1 : Int)).getD j 0 = _
    rw [ih (by omega)]
    have : j < k := by omega
    simp [this]
theorem evn_near (n many : Int) : ∃ q : Int, -1048576 ≤ q ∧ q ≤ 1048576 ∧ ∀ j, j < (evnL n many).length → q ≤ (evnL n many).getD j 0 ∧ (evnL n many).getD j 0 ≤ q + 1 := by
  by_cases h : many < 0 ∨ 64 < many
  · rw [evn_no h]
    exact ⟨0, by omega, by omega, fun j hj => by simp at hj⟩
  · obtain ⟨k, rfl⟩ := Int.eq_ofNat_of_zero_le (show 0 ≤ many by omega)
    have hk : k ≤ 64 := by omega
    rw [evn_nat hk]
    have hm := lenI_in n
    have hb := fdI_bound (a := lenI n) (b := (k : Int)) (B := 1048576) hm.1 hm.2
    refine ⟨fdI (lenI n) k, hb.1, hb.2, fun j hj => ?_⟩
    cases hw : wokI (List.replicate k 1) with
    | false => simp [shrL, hw] at hj
    | true =>
      rw [shrL_len hw] at hj
      have hj' : j < k := by simpa using hj
      rw [shrL_at hw hj]
      have hS : wsum (List.replicate k 1) (List.replicate k (1 : Int)).length = k := by rw [List.length_replicate]; exact wsum_ones (Nat.le_refl _)
      have h1 := shr_low (m := lenI n) (zs := List.replicate k 1) (k := j) (by rw [hS]; omega)
      rw [hS, show (List.replicate k (1 : Int)).getD j 0 = 1 by simp [hj'], Int.mul_one] at h1
      exact h1
end Go.Proofs.Ytnncdpkmhpjmbaa
end

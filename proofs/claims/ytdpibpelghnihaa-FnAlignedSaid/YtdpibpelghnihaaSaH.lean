/-
  PURE: a line is as high as each of its Sides; where an item lies that is put to the end, or on the base line. Conditions: those of each.
-/
import Derived.Test.YtdpibpelghnihaaSaP
namespace Go.Proofs.Ytdpibpelghnihaa
open Go.ChangeShapes Go.WideShapes Go.ChangeAt Go.RowKit
set_option linter.unusedVariables false
set_option linter.unusedSimpArgs false

theorem coN_ge {xs : List Sa} {j : Nat} (ho : saOn (saD xs j) = false) : ∀ k, j < k → wiO (saD xs j) ≤ coN xs k
  | 0, h => by omega
  | k + 1, h => by
    unfold coN
    by_cases e : j = k
    · subst e
      split
      · exact Int.le_refl _
      · rename_i hn
        have : ¬ coN xs j < wiO (saD xs j) := fun h => hn ⟨ho, h⟩
        omega
    · have := coN_ge ho k (by omega)
      split
      · omega
      · exact this
theorem baS_at {xs : List Sa} {j : Nat} (ho : saOn (saD xs j) = true) : ∀ k, j < k → k ≤ xs.length → baS xs k = true
  | 0, h, _ => by omega
  | k + 1, h, hk => by
    rw [baS_next xs k (by omega)]
    by_cases e : j = k
    · subst e; rw [ho, Bool.or_true]
    · rw [baS_at ho k (by omega) (by omega), Bool.true_or]
theorem coB_ge {xs : List Sa} {j : Nat} (ho : saOn (saD xs j) = true) : ∀ k, j < k → k ≤ xs.length → unO (saD xs j) ≤ coB xs k
  | 0, h, _ => by omega
  | k + 1, h, hk => by
    unfold coB
    by_cases e : j = k
    · subst e
      split
      · exact Int.le_refl _
      · rename_i hn
        have : ¬ coB xs j < unO (saD xs j) := fun h => hn ⟨ho, Or.inr h⟩
        omega
    · have h1 := coB_ge ho k (by omega) (by omega)
      split
      · rename_i hn
        have h2 := baS_at ho k (by omega) (by omega)
        rcases hn.2 with h3 | h3
        · rw [h2] at h3; cases h3
        · omega
      · exact h1
theorem clI_low {m : Int} (h : clI m < 1048576) : m ≤ clI m := by
  unfold clI brI at *
  revert h
  repeat' split
  all_goals (intro h; omega)
/-- Who is not on the base line fits into the line. -/
theorem high_off {xs : List Sa} (h : sasOk xs = true) (hh : coV xs < 1048576) {j : Nat} (hj : j < xs.length) (ho : saOn (saD xs j) = false) : wiO (saD xs j) ≤ coV xs := by
  unfold coV at *
  rw [if_pos h] at *
  have h1 := clI_low hh
  have h2 := coN_ge ho xs.length hj
  have h3 : coN xs xs.length ≤ coM xs := by
    unfold coM
    split
    · rename_i hq; exact Int.le_of_lt hq.2
    · exact Int.le_refl _
  omega
/-- Who is on the base line fits into the line. -/
theorem high_on {xs : List Sa} (h : sasOk xs = true) (hh : coV xs < 1048576) {j : Nat} (hj : j < xs.length) (ho : saOn (saD xs j) = true) : wrap64 (wrap64 (paA (saD xs j) (coV xs) (baV xs) + (saD xs j).size) + (saD xs j).behind) ≤ coV xs := by
  have hall : xs.all saOk = true := by unfold sasOk at h; simp only [Bool.and_eq_true] at h; exact h.2
  have hx := sas_at hall hj
  have hi := sa_in hx
  have hb := baN_in hall xs.length (Nat.le_refl _)
  have hc := coB_in hall xs.length (Nat.le_refl _)
  have h5 : paA (saD xs j) (coV xs) (baV xs) = baV xs - (saD xs j).base := by
    unfold paA
    rw [if_pos hx]
    have ho' := ho
    unfold saOn at ho'
    simp only [Bool.and_eq_true, decide_eq_true_eq, Bool.not_eq_true'] at ho'
    unfold plA saAu
    rw [if_neg (by rw [ho'.2]; simp), if_neg (by omega), if_neg (by omega), if_pos ho'.1]
    exact wr_ok (by unfold baV; omega) (by unfold baV; omega)
  have h6 := unO_ok hx
  have h7 := coB_ge ho xs.length hj (Nat.le_refl _)
  have hbv : -1048576 ≤ baV xs ∧ baV xs ≤ 2097152 := hb
  rw [h5, wr_ok (a := baV xs - (saD xs j).base + (saD xs j).size) (by omega) (by omega), wr_ok (a := baV xs - (saD xs j).base + (saD xs j).size + (saD xs j).behind) (by omega) (by omega)]
  unfold coV at *
  rw [if_pos h] at *
  have h1 := clI_low hh
  have h3 : baV xs + coB xs xs.length ≤ coM xs := by
    unfold coM
    rw [wr_ok (a := baV xs + coB xs xs.length) (by omega) (by omega), baS_at ho xs.length hj (Nat.le_refl _)]
    split
    · exact Int.le_refl _
    · rename_i hq
      have : ¬ coN xs xs.length < baV xs + coB xs xs.length := fun h => hq ⟨rfl, h⟩
      omega
  omega
/-- Whether the first k are valid, of not too many. -/
def gdN (xs : List Sa) : Nat → Bool
  | 0 => decide (xs.length ≤ 12)
  | k + 1 => gdN xs k && saOk (saD xs k)
theorem gdN_eq (xs : List Sa) : ∀ k, k ≤ xs.length → gdN xs k = (decide (xs.length ≤ 12) && (xs.take k).all saOk)
  | 0, _ => by simp [gdN]
  | k + 1, hk => by
    unfold gdN
    rw [gdN_eq xs k (by omega), List.take_add_one, saD_eq (show k < xs.length by omega)]
    simp [Bool.and_assoc]
theorem gdN_all (xs : List Sa) : gdN xs xs.length = sasOk xs := by rw [gdN_eq xs xs.length (Nat.le_refl _), List.take_length]; rfl
/-- Who is put to the end ends where the line does. -/
theorem end_fit {x : Sa} {cross base : Int} (h : saOk x = true) (ha : (x.ab || x.ah) = false) (h3 : x.al = 3) (c0 : 0 ≤ cross) (c1 : cross ≤ 1000) : wrap64 (wrap64 (paA x cross base + x.size) + x.behind) = cross := by
  have hi := sa_in h
  unfold paA
  rw [if_pos h]
  unfold plA saAu
  rw [if_neg (by rw [ha]; simp), if_pos h3]
  unfold frS
  rw [wr_ok (a := cross - x.size) (by omega) (by omega), wr_ok (a := cross - x.size - x.before) (by omega) (by omega), wr_ok (a := cross - x.size - x.before - x.behind) (by omega) (by omega),
    wr_ok (a := x.before + (cross - x.size - x.before - x.behind)) (by omega) (by omega), wr_ok (a := x.before + (cross - x.size - x.before - x.behind) + x.size) (by omega) (by omega), wr_ok (a := x.before + (cross - x.size - x.before - x.behind) + x.size + x.behind) (by omega) (by omega)]
  omega
/-- Who is on the base line has its base there. -/
theorem base_fit {x : Sa} {cross base : Int} (h : saOk x = true) (ho : saOn x = true) (c0 : 0 ≤ base) (c1 : base ≤ 300) : wrap64 (paA x cross base + x.base) = base := by
  have hi := sa_in h
  unfold paA
  rw [if_pos h]
  unfold saOn at ho
  simp only [Bool.and_eq_true, decide_eq_true_eq, Bool.not_eq_true'] at ho
  unfold plA saAu
  rw [if_neg (by rw [ho.2]; simp), if_neg (by omega), if_neg (by omega), if_pos ho.1, wr_ok (a := base - x.base) (by omega) (by omega), wr_ok (a := base - x.base + x.base) (by omega) (by omega)]
  omega
theorem end_75 : paA ⟨20, 0, 5, false, false, 3, 0⟩ 100 0 = 75 := by decide +kernel
theorem on_no {x : Sa} (h : saOn x = true) : x.ab = false ∧ x.ah = false ∧ x.al = 5 := by
  unfold saOn at h
  simp only [Bool.and_eq_true, decide_eq_true_eq, Bool.not_eq_true', Bool.or_eq_false_iff] at h
  exact ⟨h.2.1, h.2.2, h.1⟩
end Go.Proofs.Ytdpibpelghnihaa

import Derived.Test.YtnncdpkmhpjmbaaZnAE
import Derived.Test.YtnncdpkmhpjmbaaZnAQ
import Derived.Test.YtnncdpkmhpjmbaaZnAR
section
namespace Go.Proofs.Ytnncdpkmhpjmbaa
open Go.ChangeShapes Go.WideShapes Go.ChangeAt Go.RowKit

/-- The sum of the first k weights. -/
def wsum (zs : List Int) : Nat → Int
  | 0 => 0
  | k + 1 => wsum zs k + zs.getD k 0
theorem wsum_in {zs : List Int} {k : Nat} (h : okTo zs k) : 0 ≤ wsum zs k ∧ wsum zs k ≤ 1073741824 * (k : Int) := by
  induction k with
  | zero => simp [wsum]
  | succ k ih =>
    have h1 := ih (fun j hj => h j (by omega))
    have h2 := h k (by omega)
    simp only [wsum, Int.natCast_add]
    omega
theorem okTo_le {zs : List Int} {k m : Nat} (h : okTo zs m) (hk : k ≤ m) : okTo zs k := fun j hj => h j (by omega)
/-- A position: the part of n that the first k weights take. -/
def posI (n : Int) (zs : List Int) (k : Nat) : Int := fdI (n * wsum zs k) (wsum zs zs.length)
def shrI (n : Int) (zs : List Int) (k : Nat) : Int := posI n zs (k + 1) - posI n zs k
/-- The shares. -/
def shrL (n : Int) (zs : List Int) : List Int := if wokI zs then (List.range zs.length).map (shrI (lenI n) zs) else []
theorem mul56 {x y : Int} (h0 : -1048576 ≤ x) (h1 : x ≤ 1048576) (h2 : 0 ≤ y) (h3 : y ≤ 68719476736) : -72057594037927936 ≤ x * y ∧ x * y ≤ 72057594037927936 := by
  have h4 := Int.mul_le_mul_of_nonneg_right h1 h2
  have h5 := Int.mul_le_mul_of_nonneg_right h0 h2
  omega
theorem fdI_bound {a b B : Int} (h0 : -B ≤ a) (h1 : a ≤ B) : -B ≤ fdI a b ∧ fdI a b ≤ B := by
  unfold fdI
  split
  · omega
  · by_cases ha : 0 ≤ a
    · have h2 := Int.ediv_le_self b ha
      have h3 := Int.ediv_nonneg ha (show 0 ≤ b by omega)
      omega
    · have h2 : a ≤ a / b := by
        rw [Int.le_ediv_iff_mul_le (by omega)]
        have := Int.mul_le_mul_of_nonpos_left (show a ≤ 0 by omega) (show 1 ≤ b by omega)
        omega
      have h3 := Int.ediv_neg_of_neg_of_pos (show a < 0 by omega) (show 0 < b by omega)
      omega
theorem wsum_small {zs : List Int} {k : Nat} (h : okTo zs zs.length) (h64 : zs.length ≤ 64) (hk : k ≤ zs.length) : 0 ≤ wsum zs k ∧ wsum zs k ≤ 68719476736 := by
  have h1 := wsum_in (okTo_le h hk)
  have : (k : Int) ≤ 64 := by omega
  omega
theorem prod_in {n : Int} {zs : List Int} {k : Nat} (h : okTo zs zs.length) (h64 : zs.length ≤ 64) (hk : k ≤ zs.length) : -72057594037927936 ≤ lenI n * wsum zs k ∧ lenI n * wsum zs k ≤ 72057594037927936 := by
  have h1 := wsum_small h h64 hk
  exact mul56 (lenI_in n).1 (lenI_in n).2 h1.1 h1.2
theorem pos_in {n : Int} {zs : List Int} {k : Nat} (h : okTo zs zs.length) (h64 : zs.length ≤ 64) (hk : k ≤ zs.length) : -72057594037927936 ≤ posI (lenI n) zs k ∧ posI (lenI n) zs k ≤ 72057594037927936 := by
  have h1 := prod_in (n := n) h h64 hk
  exact fdI_bound h1.1 h1.2
theorem pos_zero (n : Int) (zs : List Int) : posI n zs 0 = 0 := by
  unfold posI fdI wsum; split <;> simp
theorem wok_all {zs : List Int} (h : wokI zs = true) : zs.length ≤ 64 ∧ okTo zs zs.length := of_decide_eq_true h
theorem shrL_len {n : Int} {zs : List Int} (h : wokI zs = true) : (shrL n zs).length = zs.length := by simp [shrL, h]
theorem shrL_at {n : Int} {zs : List Int} (h : wokI zs = true) {k : Nat} (hk : k < zs.length) : (shrL n zs).getD k 0 = shrI (lenI n) zs k := by
  simp [shrL, h, hk]
/-- The first k shares. -/
def shrK (n : Int) (zs : List Int) (k : Nat) : List Int := (List.range k).map (shrI n zs)
theorem shrK_succ (n : Int) (zs : List Int) (k : Nat) : shrK n zs (k + 1) = shrK n zs k ++ [shrI n zs k] := by simp [shrK, List.range_succ]
theorem shrK_len (n : Int) (zs : List Int) (k : Nat) : (shrK n zs k).length = k := by simp [shrK]
theorem shrK_set {n : Int} {zs l : List Int} {k : Nat} (h : k < l.length) : (shrK n zs k ++ l.drop k).set k (shrI n zs k) = shrK n zs (k + 1) ++ l.drop (k + 1) := by
  rw [List.set_append_right _ _ (by simp [shrK]), List.drop_eq_getElem_cons h, show k - (shrK n zs k).length = 0 by simp [shrK], List.set_cons_zero]
  simp [shrK, List.range_succ]
end Go.Proofs.Ytnncdpkmhpjmbaa
end

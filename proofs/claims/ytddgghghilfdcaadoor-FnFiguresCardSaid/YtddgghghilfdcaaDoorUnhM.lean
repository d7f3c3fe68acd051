/-
  Plain mathematics of decoding a hexadecimal text (no program): digits, pairs, the decoded bytes. Conditions: those of each lemma.
-/
import Derived.Test.YtddgghghilfdcaaDoorHexM
namespace Go.Proofs.YtddgghghilfdcaaDoor.Nums

/-- Is c a lowercase hexadecimal digit? -/
def hxB (c : UInt8) : Bool := (decide (48 ≤ c.toNat) && decide (c.toNat ≤ 57)) || (decide (97 ≤ c.toNat) && decide (c.toNat ≤ 102))
/-- Its value (0 for another byte). -/
def hv (c : UInt8) : Nat := if c.toNat ≤ 57 then c.toNat - 48 else c.toNat - 87
theorem hxB_iff (c : UInt8) : hxB c = true ↔ (48 ≤ c.toNat ∧ c.toNat ≤ 57) ∨ (97 ≤ c.toNat ∧ c.toNat ≤ 102) := by unfold hxB; simp
theorem hv_lt {c : UInt8} (h : hxB c = true) : hv c < 16 := by
  rw [hxB_iff] at h; unfold hv; split <;> omega
def byteOf (a b : UInt8) : UInt8 := UInt8.ofNat (16 * hv a + hv b)
/-- The decoded bytes, pair by pair. -/
def unL : List UInt8 → List UInt8
  | a :: b :: r => byteOf a b :: unL r
  | _ => []
theorem unL_snoc (n : Nat) : ∀ (l : List UInt8) (a b : UInt8), l.length = 2 * n → unL (l ++ [a] ++ [b]) = unL l ++ [byteOf a b] := by
  induction n with
  | zero => intro l a b h; obtain rfl : l = [] := List.length_eq_zero_iff.1 (by omega); rfl
  | succ n ih =>
    intro l a b h
    match l, h with
    | x :: y :: r, h => 
      have h1 := ih r a b (by simp at h; omega)
      simp only [List.cons_append, unL, h1]
    | [x], h => simp at h; omega
    | [], h => simp at h
theorem unL_len (l : List UInt8) : (unL l).length ≤ l.length := by
  have key : ∀ n (l : List UInt8), l.length ≤ n → (unL l).length ≤ l.length := by
    intro n
    induction n with
    | zero => intro l h; obtain rfl : l = [] := List.length_eq_zero_iff.1 (by omega); simp [unL]
    | succ n ih =>
      intro l h
      match l, h with
      | [], _ => simp [unL]
      | [x], _ => simp [unL]
      | x :: y :: r, h => have := ih r (by simp at h; omega); simp [unL]; omega
  exact key _ l (Nat.le_refl _)
/-- Is l an encoding? -/
def unB (s : ByteArray) : Bool := decide (s.size % 2 = 0) && decide (s.size ≤ 40000) && s.data.toList.all hxB
theorem unB_odd {s : ByteArray} (h : s.size % 2 ≠ 0) : unB s = false := by unfold unB; simp [h]
theorem unB_long {s : ByteArray} (h : 40000 < s.size) : unB s = false := by
  unfold unB; rw [show decide (s.size ≤ 40000) = false by simpa using h]; simp
theorem unB_bad {s : ByteArray} {k : Nat} (h : k < s.size) (hb : hxB s[k] = false) : unB s = false := by
  cases hh : unB s with
  | false => rfl
  | true =>
    unfold unB at hh
    rw [Bool.and_eq_true, List.all_eq_true] at hh
    have h2 := hh.2 s[k] (by have : s[k] = s.data.toList[k]'(by rw [len_eq]; exact h) := rfl; rw [this]; exact List.getElem_mem _)
    rw [hb] at h2; cases h2
theorem unB_true {s : ByteArray} (h1 : s.size % 2 = 0) (h2 : s.size ≤ 40000) (h3 : s.data.toList.all hxB = true) : unB s = true := by
  unfold unB; rw [h3]; simp [h1, h2]
theorem un_next {s : ByteArray} {m : Nat} (hm : m % 2 = 0) (h : m + 1 < s.size) (ha : (s.data.toList.take m).all hxB = true) (h1 : hxB (s[m]'(by omega)) = true) (h2 : hxB s[m + 1] = true) :
    (s.data.toList.take (m + 2)).all hxB = true ∧ unL (s.data.toList.take (m + 2)) = unL (s.data.toList.take m) ++ [byteOf (s[m]'(by omega)) s[m + 1]] := by
  rw [take_snoc s (m + 1) h, take_snoc s m (by omega)]
  refine ⟨by simp [List.all_append, ha, h1, h2], ?_⟩
  rw [unL_snoc (m / 2) _ _ _ (by rw [List.length_take, len_eq]; omega)]
theorem byteOf_toNat {a b : UInt8} (h1 : hxB a = true) (h2 : hxB b = true) : (byteOf a b).toNat = 16 * hv a + hv b := by
  have := hv_lt h1; have := hv_lt h2
  unfold byteOf; rw [UInt8.toNat_ofNat']; omega
end Go.Proofs.YtddgghghilfdcaaDoor.Nums

/-
  Plain mathematics of decimal numerals (no program): the digits that spec.Decimal collects, and when a text of digits is the numeral of its value. Conditions: those of each lemma.
-/
import Derived.Lib.ItoaLen
namespace Go.Proofs.YtbgiggngolpljaaDoor.Nums
open Go

/-- The digits of m, none for 0. -/
def decOr (m : Nat) : List UInt8 := if m = 0 then [] else Lib.decDigits m
theorem decOr_zero : decOr 0 = [] := rfl
theorem decOr_pos {m : Nat} (h : 1 ≤ m) : decOr m = Lib.decDigits m := by unfold decOr; rw [if_neg (by omega)]
theorem decOr_step {m : Nat} (h : 1 ≤ m) : decOr m = decOr (m / 10) ++ [UInt8.ofNat (48 + m % 10)] := by
  rw [decOr_pos h, Lib.decDigits]
  by_cases h10 : m < 10
  · rw [dif_pos h10, show m / 10 = 0 by omega, decOr_zero, show m % 10 = m by omega]; rfl
  · rw [dif_neg h10, decOr_pos (by omega)]
theorem decDigits_len {n : Nat} (h : n ≤ 9223372036854775808) : (Lib.decDigits n).length ≤ 21 := by
  by_cases h0 : n = 0
  · subst h0; rw [Lib.decDigits_one (by decide)]; simp
  · have h1 := Lib.itoa_length_le (-(n : Int)) (by omega) (by omega)
    have h2 : Lib.itoa (-(n : Int)) = 45 :: Lib.decDigits n := by unfold Lib.itoa; rw [if_pos (by omega)]; simp
    rw [h2] at h1; simp at h1; omega

/-- A digit. -/
def dgB (c : UInt8) : Bool := decide (48 ≤ c.toNat) && decide (c.toNat ≤ 57)
/-- The value of a text of digits. -/
def val (l : List UInt8) : Nat := l.foldl (fun a c => a * 10 + (c.toNat - 48)) 0
theorem val_snoc (l : List UInt8) (c : UInt8) : val (l ++ [c]) = val l * 10 + (c.toNat - 48) := by unfold val; rw [List.foldl_append]; rfl
theorem val_nil : val [] = 0 := rfl

/-- Is l the numeral of a number up to MaxNumber? -/
def rdB (l : List UInt8) : Bool := !l.isEmpty && l.all dgB && (decide (l.length ≤ 1) || l.head? != some 48) && decide (val l ≤ 1000000000)
def rdN (l : List UInt8) : Int := if rdB l then (val l : Int) else 0

theorem rec_snoc {P : List UInt8 → Prop} (h0 : P []) (h1 : ∀ l c, P l → P (l ++ [c])) (l : List UInt8) : P l := by
  have key : ∀ n (l : List UInt8), l.length = n → P l := by
    intro n
    induction n with
    | zero => intro l hl; rw [List.length_eq_zero_iff.1 hl]; exact h0
    | succ n ih =>
      intro l hl
      have hne : l ≠ [] := by intro h; rw [h] at hl; simp at hl
      rw [← List.dropLast_concat_getLast hne]
      exact h1 _ _ (ih _ (by simp [hl]))
  exact key _ l rfl

theorem dgB_iff (c : UInt8) : dgB c = true ↔ 48 ≤ c.toNat ∧ c.toNat ≤ 57 := by unfold dgB; simp

theorem val_lt (l : List UInt8) (hd : l.all dgB = true) : val l < 10 ^ l.length := by
  induction l using rec_snoc with
  | h0 => simp [val]
  | h1 l c ih =>
    rw [List.all_append, Bool.and_eq_true] at hd
    have h1 := ih hd.1
    have h2 := (dgB_iff c).1 (by simpa using hd.2)
    rw [val_snoc, List.length_append, List.length_singleton, Nat.pow_succ]
    omega

/-- Without a leading zero the value is at least the power of its length. -/
theorem val_ge (l : List UInt8) (hd : l.all dgB = true) (hne : l ≠ []) (hz : l.head? ≠ some 48) : 10 ^ (l.length - 1) ≤ val l := by
  induction l using rec_snoc with
  | h0 => exact absurd rfl hne
  | h1 l c ih =>
    rw [List.all_append, Bool.and_eq_true] at hd
    rw [val_snoc]
    have h2 := (dgB_iff c).1 (by simpa using hd.2)
    by_cases hl : l = []
    · subst hl
      have h3 : c.toNat ≠ 48 := fun h => hz (by simp; exact UInt8.toNat_inj.1 (by simpa using h))
      simp [val_nil]; omega
    · have h1 := ih hd.1 hl (by intro h; apply hz; rw [List.head?_append]; simp [h])
      rw [List.length_append, List.length_singleton]
      have h4 : 1 ≤ l.length := by cases l with | nil => exact absurd rfl hl | cons _ _ => simp
      have h5 : 10 ^ (l.length + 1 - 1) = 10 ^ (l.length - 1) * 10 := by rw [← Nat.pow_succ]; congr 1; omega
      rw [h5]; omega

theorem ofNat_dg {c : UInt8} (h : 48 ≤ c.toNat ∧ c.toNat ≤ 57) (k : Nat) (hk : k = c.toNat - 48) : UInt8.ofNat (48 + k) = c := by
  subst hk
  apply UInt8.toNat_inj.1
  rw [UInt8.toNat_ofNat']; omega

/-- A text of digits without a leading zero is the numeral of its value. -/
theorem dec_val (l : List UInt8) (hd : l.all dgB = true) (hne : l ≠ []) (hz : l.length ≤ 1 ∨ l.head? ≠ some 48) : Lib.decDigits (val l) = l := by
  induction l using rec_snoc with
  | h0 => exact absurd rfl hne
  | h1 l c ih =>
    rw [List.all_append, Bool.and_eq_true] at hd
    have h2 := (dgB_iff c).1 (by simpa using hd.2)
    rw [val_snoc, Lib.decDigits]
    by_cases hl : l = []
    · subst hl
      rw [dif_pos (by simp [val_nil]; omega)]
      rw [ofNat_dg h2 _ (by simp [val_nil])]; rfl
    · have h4 : 1 ≤ l.length := by cases l with | nil => exact absurd rfl hl | cons _ _ => simp
      have hz2 : l.head? ≠ some 48 := by
        rcases hz with h | h
        · simp at h; exact absurd h hl
        · intro h'; apply h; rw [List.head?_append]; simp [h']
      have h5 := val_ge l hd.1 hl hz2
      have h6 : 1 ≤ 10 ^ (l.length - 1) := Nat.one_le_pow _ _ (by decide)
      rw [dif_neg (by omega), show (val l * 10 + (c.toNat - 48)) / 10 = val l by omega, ih hd.1 hl (Or.inr hz2), ofNat_dg h2 _ (by omega)]

/-- The numeral has no leading zero. -/
theorem dec_head (u : Nat) : Lib.decDigits u ≠ [] ∧ ((Lib.decDigits u).length ≤ 1 ∨ (Lib.decDigits u).head? ≠ some 48) := by
  induction u using Nat.strongRecOn with
  | _ u ih =>
    rw [Lib.decDigits]
    by_cases h : u < 10
    · rw [dif_pos h]; simp
    · rw [dif_neg h]
      have h1 := ih (u / 10) (by omega)
      refine ⟨by simp, Or.inr ?_⟩
      rw [List.head?_append]
      by_cases h2 : u / 10 < 10
      · rw [Lib.decDigits, dif_pos h2]
        simp
        intro h3
        have := congrArg UInt8.toNat h3
        simp at this
        omega
      · rcases h1.2 with h3 | h3
        · rw [Lib.decDigits_length, Lib.nDigits_big h2] at h3
          have := Lib.nDigits_pos (u / 10 / 10)
          omega
        · cases hh : (Lib.decDigits (u / 10)).head? with
          | none => rw [List.head?_eq_none_iff] at hh; exact absurd hh h1.1
          | some x => rw [hh] at h3; simpa using h3

/-- What spec.ReadDecimal asks is what rdB asks. -/
theorem rd_true {l : List UInt8} (hd : l.all dgB = true) (hv : val l ≤ 1000000000) (he : Lib.decDigits (val l) = l) : rdB l = true := by
  have h := dec_head (val l)
  rw [he] at h
  unfold rdB
  simp only [Bool.and_eq_true, Bool.or_eq_true, Bool.not_eq_true', decide_eq_true_eq, bne_iff_ne, List.isEmpty_eq_false_iff]
  exact ⟨⟨⟨h.1, hd⟩, h.2⟩, hv⟩
theorem rd_parts {l : List UInt8} (h : rdB l = true) : l ≠ [] ∧ l.all dgB = true ∧ (l.length ≤ 1 ∨ l.head? ≠ some 48) ∧ val l ≤ 1000000000 := by
  unfold rdB at h
  simp only [Bool.and_eq_true, Bool.or_eq_true, Bool.not_eq_true', decide_eq_true_eq, bne_iff_ne, List.isEmpty_eq_false_iff] at h
  exact ⟨h.1.1.1, h.1.1.2, h.1.2, h.2⟩
theorem rd_dec {l : List UInt8} (h : rdB l = true) : Lib.decDigits (val l) = l := by
  obtain ⟨h1, h2, h3, _⟩ := rd_parts h
  exact dec_val l h2 h1 h3
theorem rd_short {l : List UInt8} (h : rdB l = true) : l.length ≤ 10 := by
  obtain ⟨h1, h2, h3, h4⟩ := rd_parts h
  rcases h3 with h3 | h3
  · omega
  · have h5 := val_ge l h2 h1 h3
    apply Nat.le_of_not_lt
    intro h6
    have : 10 ^ 10 ≤ 10 ^ (l.length - 1) := Nat.pow_le_pow_right (by decide) (by omega)
    omega
/-- A piece at the front has no greater value. -/
theorem val_take (l : List UInt8) (k : Nat) : val (l.take k) ≤ val l := by
  have key : ∀ (r a : List UInt8), val a ≤ val (a ++ r) := by
    intro r
    induction r with
    | nil => intro a; simp
    | cons c r ih =>
      intro a
      have h1 := ih (a ++ [c])
      rw [val_snoc] at h1
      rw [show a ++ c :: r = a ++ [c] ++ r by simp]
      omega
  have h := key (l.drop k) (l.take k)
  rwa [List.take_append_drop] at h
theorem rdN_false {l : List UInt8} (h : rdB l = false) : rdN l = 0 := by unfold rdN; rw [h]; rfl
theorem rdN_true {l : List UInt8} (h : rdB l = true) : rdN l = val l := by unfold rdN; rw [if_pos h]
theorem take_snoc (s : ByteArray) (k : Nat) (h : k < s.size) : s.data.toList.take (k + 1) = s.data.toList.take k ++ [s[k]] := by
  rw [List.take_succ_eq_append_getElem (by simpa using h)]; rfl
theorem len_eq (s : ByteArray) : s.data.toList.length = s.size := Array.length_toList
theorem take_all (s : ByteArray) {k : Nat} (h : s.size ≤ k) : s.data.toList.take k = s.data.toList := List.take_of_length_le (by rw [len_eq]; exact h)
theorem at_eq (s : ByteArray) {k : Nat} (_ : k < s.size) (_ : k < s.data.toList.length) : s.data.toList[k] = s[k] := rfl
/-- A byte that is no digit. -/
theorem rd_odd {s : ByteArray} {k : Nat} (h : k < s.size) (hc : (s[k].toNat : Int) < 48 ∨ 57 < (s[k].toNat : Int)) : rdB s.data.toList = false := by
  cases hb : rdB s.data.toList with
  | false => rfl
  | true =>
    have h1 := (rd_parts hb).2.1
    rw [List.all_eq_true] at h1
    have h2 := (dgB_iff _).1 (h1 s[k] (by have : s[k] = s.data.toList[k]'(by simpa using h) := rfl; rw [this]; exact List.getElem_mem _))
    omega
theorem rd_big {s : ByteArray} {k : Nat} (h : 1000000000 < val (s.data.toList.take k)) : rdB s.data.toList = false := by
  cases hb : rdB s.data.toList with
  | false => rfl
  | true =>
    have h1 := (rd_parts hb).2.2.2
    have h2 := val_take s.data.toList k
    omega
theorem rd_long {s : ByteArray} (h : 10 < s.size) : rdB s.data.toList = false := by
  cases hb : rdB s.data.toList with
  | false => rfl
  | true => have h1 := rd_short hb; rw [len_eq] at h1; omega
theorem rd_empty {s : ByteArray} (h : s.size = 0) : rdB s.data.toList = false := by
  cases hb : rdB s.data.toList with
  | false => rfl
  | true =>
    have h1 := (rd_parts hb).1
    rw [← len_eq] at h; exact absurd (List.length_eq_zero_iff.1 h) h1
theorem rd_lead {s : ByteArray} (h : 1 < s.size) (h0 : s[0].toNat = 48) : rdB s.data.toList = false := by
  cases hb : rdB s.data.toList with
  | false => rfl
  | true =>
    rcases (rd_parts hb).2.2.1 with h1 | h1
    · rw [len_eq] at h1; omega
    · exfalso; apply h1
      rw [List.head?_eq_getElem?, List.getElem?_eq_getElem (by simpa using (by omega : 0 < s.size))]
      rw [at_eq s (by omega)]
      exact congrArg some (UInt8.toNat_inj.1 h0)
/-- The digits go on. -/
theorem dg_next {s : ByteArray} {k : Nat} (h : k < s.size) (ha : (s.data.toList.take k).all dgB = true) (h1 : ¬ (s[k].toNat : Int) < 48) (h2 : ¬ 57 < (s[k].toNat : Int)) :
    (s.data.toList.take (k + 1)).all dgB = true ∧ (val (s.data.toList.take (k + 1)) : Int) = (val (s.data.toList.take k) : Int) * 10 + ((s[k].toNat : Int) - 48) := by
  rw [take_snoc s k h]
  refine ⟨?_, ?_⟩
  · rw [List.all_append, ha]; simp; exact (dgB_iff _).2 (by omega)
  · rw [val_snoc]; omega
theorem val_take_lt {s : ByteArray} {k : Nat} (ha : (s.data.toList.take k).all dgB = true) (hk : k ≤ 10) : val (s.data.toList.take k) < 10000000000 := by
  have h1 := val_lt _ ha
  have h2 : (s.data.toList.take k).length ≤ k := List.length_take_le _ _
  have h3 : 10 ^ (s.data.toList.take k).length ≤ 10 ^ 10 := Nat.pow_le_pow_right (by decide) (by omega)
  omega
/-- All digits read, the value within MaxNumber: the text is its numeral, or not. -/
theorem rd_end {s : ByteArray} (ha : s.data.toList.all dgB = true) (hv : val s.data.toList ≤ 1000000000) : rdB s.data.toList = decide (Lib.decDigits (val s.data.toList) = s.data.toList) := by
  by_cases h : Lib.decDigits (val s.data.toList) = s.data.toList
  · rw [decide_eq_true h]; exact rd_true ha hv h
  · rw [decide_eq_false h]
    cases hb : rdB s.data.toList with
    | false => rfl
    | true => exact absurd (rd_dec hb) h
theorem rd_fine {s : ByteArray} (ha : s.data.toList.all dgB = true) (hv : val s.data.toList ≤ 1000000000) (h0 : 0 < s.size) (hz : s.size ≤ 1 ∨ ∀ h : 0 < s.size, s[0].toNat ≠ 48) : rdB s.data.toList = true := by
  have hne : s.data.toList ≠ [] := by intro h; have h1 := len_eq s; rw [h, List.length_nil] at h1; omega
  refine rd_true ha hv (dec_val _ ha hne ?_)
  rcases hz with h | h
  · left; rw [len_eq]; exact h
  · right; intro h'
    rw [List.head?_eq_getElem?, List.getElem?_eq_getElem (by simpa using h0)] at h'
    rw [at_eq s h0] at h'
    exact h h0 (congrArg UInt8.toNat (Option.some.inj h'))
end Go.Proofs.YtbgiggngolpljaaDoor.Nums

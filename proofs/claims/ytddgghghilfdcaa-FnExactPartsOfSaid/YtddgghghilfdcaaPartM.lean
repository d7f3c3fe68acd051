/-
  Plain mathematics of the fields of a line (no program): a scan byte by byte, the field under way, the fields. Conditions: those of each lemma.
-/
import Derived.Test.YtddgghghilfdcaaNums
import Derived.Lib.Strings
namespace Go.Proofs.Ytddgghghilfdcaa.Nums
open Go

/-- The field under way, if it has a byte. -/
def flush (c : List UInt8) : List (List UInt8) := if c = [] then [] else [c]
/-- One byte of the scan: the fields that are done, the field under way. -/
def stp (p : List (List UInt8) × List UInt8) (b : UInt8) : List (List UInt8) × List UInt8 := if b.toNat = 32 then (p.1 ++ flush p.2, []) else (p.1, p.2 ++ [b])
def st (l : List UInt8) : List (List UInt8) × List UInt8 := l.foldl stp ([], [])
def flds (l : List UInt8) : List (List UInt8) := (st l).1 ++ flush (st l).2
theorem st_snoc (l : List UInt8) (b : UInt8) : st (l ++ [b]) = stp (st l) b := by unfold st; rw [List.foldl_append]; rfl
theorem flush_len (c : List UInt8) : (flush c).length ≤ 1 := by unfold flush; split <;> simp
/-- Where the field under way begins. -/
def bg (l : List UInt8) : Nat := l.length - (st l).2.length
theorem st_inv (l : List UInt8) : (st l).2.length ≤ l.length ∧ l.drop (l.length - (st l).2.length) = (st l).2 ∧ (st l).1.length ≤ l.length := by
  induction l using rec_snoc with
  | h0 => simp [st]
  | h1 l b ih =>
    obtain ⟨h1, h2, h3⟩ := ih
    rw [st_snoc, stp]
    split
    · have := flush_len (st l).2
      refine ⟨by simp, by simp, ?_⟩
      simp only [List.length_append, List.length_singleton]; omega
    · refine ⟨by simp; omega, ?_, by simp; omega⟩
      simp only [List.length_append, List.length_singleton]
      rw [show l.length + 1 - ((st l).2.length + 1) = l.length - (st l).2.length by omega, List.drop_append_of_le_length (by omega), h2]
theorem bg_le (l : List UInt8) : bg l ≤ l.length := by unfold bg; omega
theorem bg_drop (l : List UInt8) : l.drop (bg l) = (st l).2 := (st_inv l).2.1
theorem bg_empty (l : List UInt8) : bg l < l.length ↔ (st l).2 ≠ [] := by
  have h := (st_inv l).1
  unfold bg
  rw [← List.length_pos_iff]; omega
theorem bg_space (l : List UInt8) (b : UInt8) (h : b.toNat = 32) : bg (l ++ [b]) = l.length + 1 ∧ (st (l ++ [b])).1 = flds l := by
  unfold bg flds; rw [st_snoc, stp, if_pos h]; simp
theorem bg_other (l : List UInt8) (b : UInt8) (h : b.toNat ≠ 32) : bg (l ++ [b]) = bg l ∧ (st (l ++ [b])).1 = (st l).1 := by
  unfold bg; rw [st_snoc, stp, if_neg h]
  refine ⟨?_, rfl⟩
  simp only [List.length_append, List.length_singleton]; omega
theorem st1_len (l : List UInt8) : (st l).1.length ≤ l.length := (st_inv l).2.2
theorem flds_len (l : List UInt8) : (flds l).length ≤ l.length + 1 := by
  have h1 := st1_len l; have h2 := flush_len (st l).2
  unfold flds; rw [List.length_append]; omega

def okB (b : UInt8) : Bool := decide (32 ≤ b.toNat) && decide (b.toNat ≤ 126)
theorem okB_iff (b : UInt8) : okB b = true ↔ 32 ≤ b.toNat ∧ b.toNat ≤ 126 := by unfold okB; simp
/-- Does PartsOf accept the line? -/
def paB (s : ByteArray) : Bool := decide (s.size ≤ 600) && s.data.toList.all okB && decide ((flds s.data.toList).length ≤ 12)
def mk (f : List UInt8) : ByteArray := ⟨f.toArray⟩
/-- What PartsOf returns. -/
def paL (s : ByteArray) : List ByteArray := if paB s then (flds s.data.toList).map mk else []
theorem paB_long {s : ByteArray} (h : 600 < s.size) : paB s = false := by
  unfold paB; rw [show decide (s.size ≤ 600) = false by simpa using h]; simp
theorem paB_bad {s : ByteArray} {k : Nat} (h : k < s.size) (hb : okB s[k] = false) : paB s = false := by
  cases hh : paB s with
  | false => rfl
  | true =>
    unfold paB at hh
    rw [Bool.and_eq_true, Bool.and_eq_true, List.all_eq_true] at hh
    have h2 := hh.1.2 s[k] (by have : s[k] = s.data.toList[k]'(by rw [len_eq]; exact h) := rfl; rw [this]; exact List.getElem_mem _)
    rw [hb] at h2; cases h2
theorem paB_many {s : ByteArray} (h : 12 < (flds s.data.toList).length) : paB s = false := by
  unfold paB; rw [show decide ((flds s.data.toList).length ≤ 12) = false by simpa using h]; simp
theorem paB_true {s : ByteArray} (h1 : s.size ≤ 600) (h2 : s.data.toList.all okB = true) (h3 : (flds s.data.toList).length ≤ 12) : paB s = true := by
  unfold paB; rw [h2]; simp [h1, h3]
theorem paL_false {s : ByteArray} (h : paB s = false) : paL s = [] := by unfold paL; rw [h]; rfl
theorem paL_true {s : ByteArray} (h : paB s = true) : paL s = (flds s.data.toList).map mk := by unfold paL; rw [if_pos h]
theorem paL_len (s : ByteArray) : (paL s).length ≤ 12 := by
  cases h : paB s with
  | false => rw [paL_false h]; simp
  | true =>
    rw [paL_true h, List.length_map]
    unfold paB at h
    simp only [Bool.and_eq_true, decide_eq_true_eq] at h
    exact h.2
theorem ok_next {s : ByteArray} {k : Nat} (h : k < s.size) (ha : (s.data.toList.take k).all okB = true) (h1 : okB s[k] = true) : (s.data.toList.take (k + 1)).all okB = true := by
  rw [take_snoc s k h]; simp [List.all_append, ha, h1]
theorem take_len (s : ByteArray) {k : Nat} (h : k ≤ s.size) : (s.data.toList.take k).length = k := by rw [List.length_take, len_eq]; omega
/-- The piece of the line from the field's begin. -/
theorem piece (s : ByteArray) {k : Nat} (_ : k ≤ s.size) : s.extract (bg (s.data.toList.take k)) k = mk (st (s.data.toList.take k)).2 := by
  have h : (s.extract (bg (s.data.toList.take k)) k).data.toList = (st (s.data.toList.take k)).2 := by
    rw [Lib.extract_data, ← bg_drop, List.drop_take]
  unfold mk
  rw [← h]
theorem flds_flush (l : List UInt8) (h : (st l).2 ≠ []) : (flds l).map mk = (st l).1.map mk ++ [mk (st l).2] := by
  unfold flds flush; rw [if_neg h]; simp
theorem flds_none (l : List UInt8) (h : (st l).2 = []) : flds l = (st l).1 := by
  unfold flds flush; rw [if_pos h]; simp
end Go.Proofs.Ytddgghghilfdcaa.Nums

/-
  PURE: the base line of Sides, and how high a line of them is, as the program reckons it and as the model does: the same where all are valid. Conditions: those of each.
-/
import Derived.Test.YtdpibpelghnihaaSaB
namespace Go.Proofs.Ytdpibpelghnihaa
open Go.ChangeShapes Go.WideShapes Go.ChangeAt Go.RowKit
set_option linter.unusedVariables false
set_option linter.unusedSimpArgs false

/-- Where the base of one lies; the base line of the first k, and whether there is one. -/
def baO (x : Sa) : Int := wrap64 (x.before + x.base)
def baT (x : Sa) (n : Int) (s : Bool) : Bool := saOn x && (!s || decide (n < baO x))
def baN (xs : List Sa) : Nat → Int
  | 0 => 0
  | k + 1 => if baT (saD xs k) (baN xs k) (xs.take k |>.any saOn) = true then baO (saD xs k) else baN xs k
def baS (xs : List Sa) (k : Nat) : Bool := (xs.take k).any saOn
def baV (xs : List Sa) : Int := baN xs xs.length
theorem baS_zero (xs : List Sa) : baS xs 0 = false := by simp [baS]
theorem baS_next (xs : List Sa) (k : Nat) (hk : k < xs.length) : baS xs (k + 1) = (baS xs k || saOn (saD xs k)) := by
  unfold baS
  rw [List.take_add_one, saD_eq hk]
  simp
theorem baN_next (xs : List Sa) (k : Nat) : baN xs (k + 1) = if baT (saD xs k) (baN xs k) (baS xs k) = true then baO (saD xs k) else baN xs k := rfl
/-- Whether all are valid and not too many. -/
def sasOk (xs : List Sa) : Bool := decide (xs.length ≤ 12) && xs.all saOk
theorem sas_bad {xs : List Sa} {k : Nat} (hk : k < xs.length) (h : saOk (saD xs k) = false) : xs.all saOk = false := by
  rw [List.all_eq_false]
  exact ⟨_, saD_mem hk, by simp [h]⟩
theorem sas_all {xs : List Sa} (h : ∀ j, j < xs.length → saOk (saD xs j) = true) : xs.all saOk = true := by
  rw [List.all_eq_true]
  intro x hx
  obtain ⟨j, hj, e⟩ := List.getElem_of_mem hx
  have := h j hj
  rwa [show saD xs j = x by rw [← e]; simp [saD, List.getD, hj]] at this
theorem sas_at {xs : List Sa} (h : xs.all saOk = true) {k : Nat} (hk : k < xs.length) : saOk (saD xs k) = true := (List.all_eq_true.1 h) _ (saD_mem hk)
/-- How high the first k make a line, as the program reckons it. -/
def crO (x : Sa) (B : Int) : Int := wrap64 (wrap64 (plA x 0 B + x.size) + x.behind)
def crI (xs : List Sa) (B : Int) : Nat → Int
  | 0 => 0
  | k + 1 => if crI xs B k ≤ crO (saD xs k) B then crO (saD xs k) B else crI xs B k
/-- As the model reckons it: what lies under the base line; what the others take up. -/
def unO (x : Sa) : Int := wrap64 (wrap64 (x.size + x.behind) - x.base)
def wiO (x : Sa) : Int := wrap64 (wrap64 (x.size + x.before) + x.behind)
def coB (xs : List Sa) : Nat → Int
  | 0 => 0
  | k + 1 => if saOn (saD xs k) = true ∧ (baS xs k = false ∨ coB xs k < unO (saD xs k)) then unO (saD xs k) else coB xs k
def coN (xs : List Sa) : Nat → Int
  | 0 => 0
  | k + 1 => if saOn (saD xs k) = false ∧ coN xs k < wiO (saD xs k) then wiO (saD xs k) else coN xs k
def coM (xs : List Sa) : Int := if baS xs xs.length = true ∧ coN xs xs.length < wrap64 (baV xs + coB xs xs.length) then wrap64 (baV xs + coB xs xs.length) else coN xs xs.length
def coV (xs : List Sa) : Int := if sasOk xs = true then clI (coM xs) else 0
theorem sa_in {x : Sa} (h : saOk x = true) : 0 ≤ x.size ∧ x.size ≤ 1048576 ∧ 0 ≤ x.base ∧ x.base ≤ 1048576 ∧ -1048576 ≤ x.before ∧ x.before ≤ 1048576 ∧ -1048576 ≤ x.behind ∧ x.behind ≤ 1048576 := by
  unfold saOk rnB at h
  simp only [Bool.and_eq_true, decide_eq_true_eq] at h
  omega
theorem wr_ok {a : Int} (h0 : -9223372036854775808 ≤ a) (h1 : a ≤ 9223372036854775807) : wrap64 a = a := by unfold wrap64; omega
theorem baO_ok {x : Sa} (h : saOk x = true) : baO x = x.before + x.base := by have := sa_in h; exact wr_ok (by omega) (by omega)
theorem unO_ok {x : Sa} (h : saOk x = true) : unO x = x.size + x.behind - x.base := by
  have := sa_in h
  unfold unO
  rw [wr_ok (a := x.size + x.behind) (by omega) (by omega), wr_ok (a := x.size + x.behind - x.base) (by omega) (by omega)]
theorem wiO_ok {x : Sa} (h : saOk x = true) : wiO x = x.size + x.before + x.behind := by
  have := sa_in h
  unfold wiO
  rw [wr_ok (a := x.size + x.before) (by omega) (by omega), wr_ok (a := x.size + x.before + x.behind) (by omega) (by omega)]
theorem baN_in {xs : List Sa} (h : xs.all saOk = true) : ∀ k, k ≤ xs.length → -1048576 ≤ baN xs k ∧ baN xs k ≤ 2097152
  | 0, _ => by simp [baN]
  | k + 1, hk => by
    have h1 := baN_in h k (by omega)
    have h2 := sa_in (sas_at h (show k < xs.length by omega))
    rw [baN_next]
    split
    · rw [baO_ok (sas_at h (by omega))]; omega
    · exact h1
theorem plA_on {x : Sa} (B : Int) (h : saOn x = true) : plA x 0 B = wrap64 (B - x.base) := by
  unfold saOn at h
  simp only [Bool.and_eq_true, decide_eq_true_eq, Bool.not_eq_true'] at h
  unfold plA saAu
  rw [if_neg (by rw [h.2]; simp), if_neg (by omega), if_neg (by omega), if_pos h.1]
theorem plA_off {x : Sa} (B : Int) (h : saOn x = false) (ho : saOk x = true) : plA x 0 B = x.before := by
  have hi := sa_in ho
  unfold plA
  by_cases ha : saAu x = true
  · rw [if_pos ha, if_pos (Or.inl (Int.le_refl _))]
  rw [if_neg ha]
  split
  · rw [Int.add_zero]; exact wr_ok (a := x.before) (by omega) (by omega)
  split
  · have e : fdI 0 2 = 0 := by decide
    rw [e, Int.add_zero]
    exact wr_ok (a := x.before) (by omega) (by omega)
  split
  · rename_i h5
    exfalso
    unfold saAu at ha
    unfold saOn at h
    simp only [Bool.not_eq_true] at ha
    rw [ha, decide_eq_true h5] at h
    cases h
  · rfl
/-- What the program has behind k of them, said with what the model has. -/
def crM (xs : List Sa) (B : Int) (k : Nat) : Int := if baS xs k = true ∧ coN xs k < B + coB xs k then B + coB xs k else coN xs k
theorem coB_in {xs : List Sa} (h : xs.all saOk = true) : ∀ k, k ≤ xs.length → -2097152 ≤ coB xs k ∧ coB xs k ≤ 2097152
  | 0, _ => by simp [coB]
  | k + 1, hk => by
    have h1 := coB_in h k (by omega)
    have h2 := sa_in (sas_at h (show k < xs.length by omega))
    unfold coB
    split
    · rw [unO_ok (sas_at h (by omega))]; omega
    · exact h1
theorem cr_same {xs : List Sa} (h : xs.all saOk = true) (B : Int) (hB0 : -1048576 ≤ B) (hB1 : B ≤ 2097152) : ∀ k, k ≤ xs.length → crI xs B k = crM xs B k
  | 0, _ => by simp [crI, crM, baS_zero, coN]
  | k + 1, hk => by
    have h1 := cr_same h B hB0 hB1 k (by omega)
    have hx := sas_at h (show k < xs.length by omega)
    have h2 := sa_in hx
    have hb := coB_in h k (by omega)
    have hs := baS_next xs k (by omega)
    have hun := unO_ok hx
    have hwi := wiO_ok hx
    have hon := plA_on (x := saD xs k) B
    have hof := plA_off (x := saD xs k) B
    have hcr : crO (saD xs k) B = if saOn (saD xs k) = true then B - (saD xs k).base + (saD xs k).size + (saD xs k).behind else (saD xs k).before + (saD xs k).size + (saD xs k).behind := by
      generalize saD xs k = x at *
      unfold crO
      cases ho : saOn x
      · rw [hof ho hx, wr_ok (a := x.before + x.size) (by omega) (by omega), wr_ok (a := x.before + x.size + x.behind) (by omega) (by omega)]
        simp
      · rw [hon ho, wr_ok (a := B - x.base) (by omega) (by omega), wr_ok (a := B - x.base + x.size) (by omega) (by omega), wr_ok (a := B - x.base + x.size + x.behind) (by omega) (by omega)]
        simp
    simp only [crI, h1, crM, hs, coN, coB, hun, hwi, hcr]
    clear hcr hun hwi hon hof hs h1
    generalize coB xs k = cb at *
    generalize coN xs k = cn at *
    generalize baS xs k = sk at *
    generalize saD xs k = x at *
    cases ho : saOn x <;> cases sk <;> simp <;> (repeat' split) <;> omega
theorem cr_co {xs : List Sa} (h : xs.all saOk = true) : crI xs (baV xs) xs.length = coM xs := by
  have hb := baN_in h xs.length (Nat.le_refl _)
  have hc := coB_in h xs.length (Nat.le_refl _)
  rw [cr_same h (baV xs) hb.1 hb.2 xs.length (Nat.le_refl _)]
  unfold crM coM
  rw [wr_ok (a := baV xs + coB xs xs.length) (by unfold baV; omega) (by unfold baV; omega)]
end Go.Proofs.Ytdpibpelghnihaa

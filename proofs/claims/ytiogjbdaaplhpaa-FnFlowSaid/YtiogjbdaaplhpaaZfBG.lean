import Derived.Test.YtiogjbdaaplhpaaZfAQ
section
namespace Go.Proofs.Ytiogjbdaaplhpaa
open Go.ChangeShapes Go.WideShapes Go.ChangeAt Go.RowKit
set_option linter.unusedVariables false
set_option linter.unusedSimpArgs false
set_option maxRecDepth 8000

theorem insJ_lo (f : Int → Int) (P : List Int) (x : Int) : ∀ j q, insJ f P x j ≤ q → q < j → f x < f (P.getD q 0)
  | 0, q, _, h => by omega
  | j + 1, q, h1, h2 => by
    unfold insJ at h1
    by_cases h : f x < f (P.getD j 0)
    · rw [if_pos h] at h1
      by_cases e : q = j
      · subst e; exact h
      · exact insJ_lo f P x j q h1 (by omega)
    · rw [if_neg h] at h1; omega
theorem insJ_hi (f : Int → Int) (P : List Int) (x : Int) : ∀ j, 0 < insJ f P x j → f (P.getD (insJ f P x j - 1) 0) ≤ f x
  | 0, h => by simp [insJ] at h
  | j + 1, h => by
    unfold insJ at h ⊢
    by_cases h' : f x < f (P.getD j 0)
    · rw [if_pos h'] at h ⊢; exact insJ_hi f P x j h
    · rw [if_neg h']; rw [show j + 1 - 1 = j by omega]; omega
theorem insA_get (P : List Int) (x : Int) {j : Nat} (hj : j ≤ P.length) (q : Nat) : (insA P x j).getD q 0 = if q < j then P.getD q 0 else if q = j then x else P.getD (q - 1) 0 := by
  unfold insA
  simp only [List.getD_eq_getElem?_getD]
  have hl : (P.take j).length = j := by simp; omega
  by_cases h : q < j
  · rw [if_pos h, List.getElem?_append_left (by omega), List.getElem?_take_of_lt h]
  · rw [if_neg h, List.getElem?_append_right (by omega), hl]
    by_cases e : q = j
    · rw [if_pos e, e, Nat.sub_self]; rfl
    · rw [if_neg e, show q - j = (q - j - 1) + 1 by omega, List.getElem?_cons_succ, List.getElem?_drop, show j + (q - j - 1) = q - 1 by omega]
/-- By f, each not before the one ahead of it. -/
def Asc (f : Int → Int) (L : List Int) : Prop := ∀ i, i + 1 < L.length → f (L.getD i 0) ≤ f (L.getD (i + 1) 0)
theorem asc_ins {f : Int → Int} {P : List Int} (x : Int) (h : Asc f P) : Asc f (insA P x (insJ f P x P.length)) := fun i hi => by
  have hj := insJ_le f P x P.length
  have h1 := insJ_lo f P x P.length
  have h2 := insJ_hi f P x P.length
  rw [insA_len P x hj] at hi
  rw [insA_get P x hj, insA_get P x hj]
  generalize insJ f P x P.length = j at *
  by_cases a : i + 1 < j
  · rw [if_pos (by omega), if_pos a]; exact h i (by omega)
  · by_cases e : i + 1 = j
    · rw [if_pos (by omega), if_neg a, if_pos e]
      have := h2 (by omega)
      rwa [show j - 1 = i by omega] at this
    · rw [if_neg (by omega : ¬ i < j), if_neg a, if_neg e]
      by_cases e2 : i = j
      · rw [if_pos e2, show i + 1 - 1 = i by omega]
        have := h1 i (by omega) (by omega)
        omega
      · rw [if_neg e2, show i + 1 - 1 = (i - 1) + 1 by omega]
        exact h (i - 1) (by omega)
theorem srt_asc (f : Int → Int) : ∀ (n : Nat) (ks : List Int), ks.length = n → Asc f (srt f ks)
  | 0, ks, h => by
    rw [List.length_eq_zero_iff.1 h]
    intro i hi
    simp [srt] at hi
  | n + 1, ks, h => by
    rcases List.eq_nil_or_concat ks with e | ⟨l, a, e⟩
    · rw [e] at h; simp at h
    · rw [e, List.concat_eq_append, srt_snoc]
      refine asc_ins a (srt_asc f n l ?_)
      rw [e] at h; simpa using h
theorem flV_asc (ns : List PN) (z : Int) : Asc (ordK ns) (flV ns z) := by
  unfold flV
  split
  · exact srt_asc _ _ _ rfl
  · intro i hi; simp at hi
theorem roles (ns : List PN) : ∀ ks : List Int, (fK ns 0 ks).length + (fK ns 1 ks).length + (ks.filter (hidZ ns)).length = ks.length
  | [] => rfl
  | k :: ks => by
    have ih := roles ns ks
    unfold fK at ih ⊢
    simp only [List.filter_cons]
    unfold hidZ at ih ⊢
    unfold rlZ at ih ⊢
    by_cases h2 : hdS (ndAt ns k).sty = true
    · simp only [h2, if_true]
      simp
      omega
    · have h2' : hdS (ndAt ns k).sty = false := by simpa using h2
      by_cases h1 : apS (ndAt ns k).sty = true
      · simp only [h2', h1, if_true]
        simp
        omega
      · have h1' : apS (ndAt ns k).sty = false := by simpa using h1
        simp only [h2', h1']
        simp
        omega
/-- How many of the first k are hidden. -/
def hcF (ns : List PN) (ks : List Int) (k : Nat) : Nat := ((ks.take k).filter (hidZ ns)).length
theorem hcF_zero (ns : List PN) (ks : List Int) : hcF ns ks 0 = 0 := by unfold hcF; simp
theorem hcF_step (ns : List PN) {ks : List Int} {k : Nat} (h : k < ks.length) : hcF ns ks (k + 1) = if hidZ ns (ks.getD k 0) = true then hcF ns ks k + 1 else hcF ns ks k := by
  unfold hcF
  rw [List.take_add_one, List.getElem?_eq_getElem h, Option.toList_some, List.filter_append, List.length_append, List.getD_eq_getElem?_getD, List.getElem?_eq_getElem h, Option.getD_some]
  by_cases e : hidZ ns ks[k] = true
  · rw [if_pos e]; simp [e]
  · rw [if_neg e]; simp [e]
theorem hcF_le (ns : List PN) (ks : List Int) (k : Nat) : hcF ns ks k ≤ ks.length := by
  unfold hcF
  exact Nat.le_trans (List.length_filter_le _ _) (by simp; omega)
/-- All children told. -/
theorem flow_count {ns : List PN} {z : Int} (ht : treeB ns = true) (hz : nIn ns.length z = true) : (flV ns z).length + (apV ns z).length + hcF ns (kidsZ ns z) (kidsZ ns z).length = (kidsZ ns z).length := by
  have h := roles ns (kidsZ ns z)
  unfold flV apV hcF
  rw [hz, ht, List.take_length]
  simp only [Bool.and_self, if_true]
  rw [srt_len]
  exact h
theorem rtF_in {ns : List PN} (ht : treeB ns = true) : ∀ (f : Nat) (z : Int), nIn ns.length z = true → nIn ns.length (rtF ns f z) = true
  | 0, z, hz => hz
  | f + 1, z, hz => by
    unfold rtF
    by_cases h : upZ ns z = 0
    · rw [if_pos h]; exact hz
    · rw [if_neg h]; exact rtF_in ht f _ (mem_kids ht hz h).1
theorem rtZ_pos {ns : List PN} {z : Int} (ht : treeB ns = true) (hz : nIn ns.length z = true) : 0 < rtZ ns z := by
  unfold rtZ
  rw [hz, ht]
  simp only [Bool.and_self, if_true]
  have := nIn_iff.1 (rtF_in ht 4 z hz)
  omega
theorem flV_in {ns : List PN} {z : Int} (ht : treeB ns = true) (hz : nIn ns.length z = true) : ∀ k ∈ flV ns z, nIn ns.length k = true := fun k hk => by
  unfold flV at hk
  rw [hz, ht] at hk
  simp only [Bool.and_self, if_true] at hk
  exact (kid_of ht (List.mem_filter.1 (srt_mem _ _ k hk)).1).1
theorem not_in {ns : List PN} {z : Int} (h : (nIn ns.length z && treeB ns) = false) : flV ns z = [] ∧ apV ns z = [] ∧ goB ns z = true := by
  unfold flV apV goB
  rw [h]
  exact ⟨rfl, rfl, rfl⟩
end Go.Proofs.Ytiogjbdaaplhpaa
end

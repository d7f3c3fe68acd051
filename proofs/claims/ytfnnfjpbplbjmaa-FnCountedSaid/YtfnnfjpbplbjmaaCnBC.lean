import Derived.Test.YtfnnfjpbplbjmaaCnAW
import Derived.Test.YtfnnfjpbplbjmaaCnAX
import Derived.Test.YtfnnfjpbplbjmaaCnBB
section
namespace Go.Proofs.Ytfnnfjpbplbjmaa
open Go.ChangeShapes Go.WideShapes Go.ChangeAt Go.RowKit
set_option linter.unusedVariables false
set_option linter.unusedSimpArgs false
set_option maxRecDepth 8000

/-- z and all below it, looked at f levels down. -/
def auF (ns : List PN) : Nat → Int → List Int
  | 0, z => [z]
  | f + 1, z => z :: (kidsZ ns z).flatMap (auF ns f)
def auV (ns : List PN) (z : Int) : List Int := if (nIn ns.length z && treeB ns) = true then auF ns 4 z else []
theorem flat_len {g : Int → List Int} {L : Nat} (hg : ∀ k, (g k).length ≤ L) : ∀ ks : List Int, (ks.flatMap g).length ≤ ks.length * L
  | [] => by simp
  | k :: ks => by
    have h1 := flat_len hg ks
    have h2 := hg k
    rw [List.flatMap_cons, List.length_append, List.length_cons, Nat.succ_mul]
    omega
theorem auF_len {ns : List PN} (ht : treeB ns = true) : ∀ (f : Nat) (z : Int), (auF ns f z).length ≤ 13 ^ f
  | 0, z => Nat.le_refl _
  | f + 1, z => by
    have h1 := flat_len (auF_len ht f) (kidsZ ns z)
    have h2 := Nat.mul_le_mul_right (13 ^ f) (kids_len ht z)
    have h3 : 0 < 13 ^ f := Nat.pow_pos (by decide)
    unfold auF
    rw [List.length_cons, Nat.pow_succ]
    omega
theorem auF_in {ns : List PN} (ht : treeB ns = true) : ∀ (f : Nat) (z : Int), nIn ns.length z = true → ∀ k ∈ auF ns f z, nIn ns.length k = true
  | 0, z, hz, k, hk => by
    simp [auF] at hk
    rw [hk]; exact hz
  | f + 1, z, hz, k, hk => by
    unfold auF at hk
    rcases List.mem_cons.1 hk with rfl | h
    · exact hz
    · obtain ⟨y, hy, h⟩ := List.mem_flatMap.1 h
      exact auF_in ht f y (kid_of ht hy).1 k h
theorem auV_all (ns : List PN) (z : Int) : AllI (auV ns z) := by
  unfold auV
  split
  · rename_i h
    simp only [Bool.and_eq_true] at h
    intro k hk
    have h1 := nIn_iff.1 (auF_in h.2 4 z h.1 k hk)
    have h2 := treeB_len h.2
    omega
  · intro k hk; cases hk
theorem auV_len (ns : List PN) (z : Int) : (auV ns z).length ≤ 28561 := by
  unfold auV
  split
  · rename_i h
    simp only [Bool.and_eq_true] at h
    exact auF_len h.2 4 z
  · simp
theorem au_ok {ns : List PN} (ht : treeB ns = true) {z : Int} (hz : nIn ns.length z = true) : hOk ns 4 z := by
  obtain ⟨d, h1, h2, _⟩ := dep_of ht hz
  exact hOk_of ht 4 d z hz h1 (by omega)
end Go.Proofs.Ytfnnfjpbplbjmaa
end
section
namespace Go.Proofs.Ytfnnfjpbplbjmaa
open Go.ChangeShapes Go.WideShapes Go.ChangeAt Go.RowKit
set_option linter.unusedVariables false
set_option linter.unusedSimpArgs false
set_option maxRecDepth 8000

theorem auF_way {ns : List PN} (ht : treeB ns = true) : ∀ (f : Nat) (z : Int), nIn ns.length z = true → ∀ k ∈ auF ns f z, ∃ j, (∀ i, i < j → nIn ns.length (wayZ ns k i) = true) ∧ wayZ ns k j = z
  | 0, z, hz, k, hk => ⟨0, fun i hi => by omega, by simp [auF] at hk; exact hk⟩
  | f + 1, z, hz, k, hk => by
    unfold auF at hk
    rcases List.mem_cons.1 hk with rfl | h
    · exact ⟨0, fun i hi => by omega, rfl⟩
    · obtain ⟨y, hy, h⟩ := List.mem_flatMap.1 h
      obtain ⟨h1, h2⟩ := kid_of ht hy
      obtain ⟨j, h3, h4⟩ := auF_way ht f y h1 k h
      refine ⟨j + 1, fun i hi => ?_, ?_⟩
      · by_cases e : i = j
        · rw [e, h4]; exact h1
        · exact h3 i (by omega)
      · show upZ ns (wayZ ns k j) = z
        rw [h4]; exact h2
theorem au_under {ns : List PN} (ht : treeB ns = true) {f : Nat} {z k : Int} (hz : nIn ns.length z = true) (hk : k ∈ (kidsZ ns z).flatMap (auF ns f)) : unV ns k z = true := by
  obtain ⟨y, hy, h⟩ := List.mem_flatMap.1 hk
  obtain ⟨h1, h2⟩ := kid_of ht hy
  obtain ⟨j, h3, h4⟩ := auF_way ht f y h1 k h
  have hk1 : nIn ns.length k = true := auF_in ht f y h1 k h
  obtain ⟨d, hd, _, _⟩ := dep_of ht hk1
  have hin : ∀ i, i ≤ j → nIn ns.length (wayZ ns k i) = true := fun i hi => by
    by_cases e : i = j
    · rw [e, h4]; exact h1
    · exact h3 i (by omega)
  have hw : wayZ ns k (j + 1) = z := by
    show upZ ns (wayZ ns k j) = z
    rw [h4]; exact h2
  unfold unV
  rw [unF_iff]
  refine ⟨hz, j, ?_, hin, hw⟩
  have h5 := dpR_le hd
  have h6 : ¬ d ≤ j := fun h => absurd hd.1 (nIn_ne (hin d h))
  omega
theorem flat_same {f g : Int → List Int} : ∀ l : List Int, (∀ k ∈ l, f k = g k) → l.flatMap f = l.flatMap g
  | [], _ => rfl
  | k :: l, h => by
    rw [List.flatMap_cons, List.flatMap_cons, h k (List.mem_cons_self ..), flat_same l fun q hq => h q (List.mem_cons_of_mem _ hq)]
theorem auF_more {ns : List PN} : ∀ (f : Nat) (z : Int), hOk ns f z → auF ns (f + 1) z = auF ns f z
  | 0, z, h => h.elim
  | f + 1, z, h => by
    show z :: (kidsZ ns z).flatMap (auF ns (f + 1)) = z :: (kidsZ ns z).flatMap (auF ns f)
    rw [flat_same _ fun k hk => auF_more f k (h k hk)]
theorem auV_kid {ns : List PN} (ht : treeB ns = true) {z k : Int} (hz : nIn ns.length z = true) (hk : k ∈ kidsZ ns z) : auV ns k = auF ns 3 k := by
  unfold auV
  rw [(kid_of ht hk).1, ht]
  simp only [Bool.and_self, if_true]
  exact auF_more 3 k (au_ok ht hz k hk)
/-- How many lie below the first j children, and one. -/
def smF (ns : List PN) (z : Int) (j : Nat) : Nat := 1 + (((kidsZ ns z).take j).flatMap (auF ns 3)).length
theorem smF_zero (ns : List PN) (z : Int) : smF ns z 0 = 1 := by unfold smF; simp
theorem smF_step {ns : List PN} (ht : treeB ns = true) {z : Int} (hz : nIn ns.length z = true) {j : Nat} (hj : j < (kidsZ ns z).length) : smF ns z (j + 1) = smF ns z j + (auV ns ((kidsZ ns z).getD j 0)).length := by
  have e : (kidsZ ns z).getD j 0 = (kidsZ ns z)[j] := by rw [List.getD_eq_getElem?_getD, List.getElem?_eq_getElem hj, Option.getD_some]
  rw [e, auV_kid ht hz (List.getElem_mem hj)]
  unfold smF
  rw [List.take_add_one, List.getElem?_eq_getElem hj, Option.toList_some, List.flatMap_append, List.length_append, List.flatMap_cons, List.flatMap_nil, List.append_nil]
  omega
theorem smF_all {ns : List PN} (ht : treeB ns = true) {z : Int} (hz : nIn ns.length z = true) : smF ns z (kidsZ ns z).length = (auV ns z).length := by
  unfold smF auV
  rw [hz, ht, List.take_length]
  simp only [Bool.and_self, if_true]
  show _ = (z :: (kidsZ ns z).flatMap (auF ns 3)).length
  simp
  omega
theorem smF_le {ns : List PN} (ht : treeB ns = true) (z : Int) (j : Nat) : smF ns z j ≤ 26365 := by
  have h1 := flat_len (auF_len ht 3) ((kidsZ ns z).take j)
  have h2 := kids_len ht z
  have h3 : ((kidsZ ns z).take j).length ≤ 12 := by simp; omega
  have h4 := Nat.mul_le_mul_right (13 ^ 3) h3
  unfold smF
  omega
/-- All but the first are under it. -/
theorem auV_under (ns : List PN) (z : Int) (k : Nat) (h1 : 1 ≤ k) (hk : k < (auV ns z).length) : unV ns ((auV ns z).getD k 0) z = true := by
  unfold auV at hk ⊢
  by_cases h : (nIn ns.length z && treeB ns) = true
  · rw [if_pos h] at hk ⊢
    simp only [Bool.and_eq_true] at h
    obtain ⟨i, rfl⟩ : ∃ i, k = i + 1 := ⟨k - 1, by omega⟩
    have hk' : i < ((kidsZ ns z).flatMap (auF ns 3)).length := by
      have : auF ns 4 z = z :: (kidsZ ns z).flatMap (auF ns 3) := rfl
      rw [this, List.length_cons] at hk
      omega
    show unV ns ((z :: (kidsZ ns z).flatMap (auF ns 3)).getD (i + 1) 0) z = true
    rw [List.getD_cons_succ]
    have e : ((kidsZ ns z).flatMap (auF ns 3)).getD i 0 = ((kidsZ ns z).flatMap (auF ns 3))[i] := by rw [List.getD_eq_getElem?_getD, List.getElem?_eq_getElem hk', Option.getD_some]
    rw [e]
    exact au_under h.2 h.1 (List.getElem_mem hk')
  · rw [if_neg h] at hk
    simp at hk
theorem au_one : auV (adN [] plF) 1 = [1] := by decide +kernel
theorem plF_in : InR plF := by
  intro i
  unfold plF upd newF
  split <;> (try split) <;> (try split) <;> constructor <;> decide
end Go.Proofs.Ytfnnfjpbplbjmaa
end

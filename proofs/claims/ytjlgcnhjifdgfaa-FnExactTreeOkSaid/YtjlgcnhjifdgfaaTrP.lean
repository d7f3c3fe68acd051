/-
  What DepthOf and IsUnder answer, as functions of the list of nodes; IsUnder looks one step further in the model than in the program: that changes nothing. Conditions: none.
-/
import Derived.Test.YtjlgcnhjifdgfaaNdM
namespace Go.Proofs.Ytjlgcnhjifdgfaa
set_option linter.unusedVariables false

/-- Is there a node z of len? -/
def nIn (len : Nat) (z : Int) : Bool := decide (1 ≤ z ∧ z ≤ (len : Int))
/-- The node z, of which there is one. -/
def ndAt (ns : List PN) (z : Int) : PN := ns[(z - 1).toNat]?.getD default
def upZ (ns : List PN) (z : Int) : Int := (ndAt ns z).up
theorem nIn_iff {len : Nat} {z : Int} : nIn len z = true ↔ 1 ≤ z ∧ z ≤ (len : Int) := by simp [nIn]
theorem nIn_no {len : Nat} {z : Int} : nIn len z = false ↔ ¬ (1 ≤ z ∧ z ≤ (len : Int)) := by simp [nIn]
theorem ndAt_get {ns : List PN} {z : Int} (h : 1 ≤ z ∧ z ≤ (ns.length : Int)) (hl : (z - 1).toNat < ns.length) : ndAt ns z = ns[(z - 1).toNat] := by
  unfold ndAt; rw [List.getElem?_eq_getElem hl]; rfl
/-- The depth of z, if it is found within f steps. -/
def dpF (ns : List PN) : Nat → Int → Nat → Int
  | 0, z, k => if z = 0 then (k : Int) else 0
  | f + 1, z, k => if z = 0 then (k : Int) else if nIn ns.length z = true then dpF ns f (upZ ns z) (k + 1) else 0
def dpV (ns : List PN) (z : Int) : Int := dpF ns ns.length z 0
/-- Is z under top, within f steps? -/
def unF (ns : List PN) (top : Int) : Nat → Int → Bool
  | 0, _ => false
  | f + 1, z => if nIn ns.length z = true then (if upZ ns z = top then nIn ns.length top else unF ns top f (upZ ns z)) else false
def unV (ns : List PN) (z top : Int) : Bool := unF ns top ns.length z

/-- The way up from z. -/
def wayZ (ns : List PN) (z : Int) : Nat → Int
  | 0 => z
  | j + 1 => upZ ns (wayZ ns z j)
theorem wayZ_up (ns : List PN) (z : Int) : ∀ j, wayZ ns (upZ ns z) j = wayZ ns z (j + 1)
  | 0 => rfl
  | j + 1 => by rw [wayZ, wayZ_up ns z j]; rfl
theorem unF_iff (ns : List PN) (top : Int) : ∀ (f : Nat) (z : Int), unF ns top f z = true ↔ nIn ns.length top = true ∧ ∃ j, j < f ∧ (∀ i, i ≤ j → nIn ns.length (wayZ ns z i) = true) ∧ wayZ ns z (j + 1) = top
  | 0, z => by simp [unF]
  | f + 1, z => by
    rw [unF]
    by_cases h : nIn ns.length z = true
    · rw [if_pos h]
      by_cases h2 : upZ ns z = top
      · rw [if_pos h2]
        constructor
        · intro ht
          exact ⟨ht, 0, by omega, fun i hi => by obtain rfl : i = 0 := by omega
                                                 exact h, h2⟩
        · exact fun ⟨ht, _⟩ => ht
      · rw [if_neg h2, unF_iff ns top f]
        constructor
        · rintro ⟨ht, j, hj, hin, hw⟩
          refine ⟨ht, j + 1, by omega, fun i hi => ?_, by rw [← wayZ_up]; exact hw⟩
          cases i with
          | zero => exact h
          | succ i => rw [← wayZ_up]; exact hin i (by omega)
        · rintro ⟨ht, j, hj, hin, hw⟩
          cases j with
          | zero => exact absurd hw h2
          | succ j => exact ⟨ht, j, by omega, fun i hi => by rw [wayZ_up]; exact hin (i + 1) (by omega), by rw [wayZ_up]; exact hw⟩
    · rw [if_neg h]
      constructor
      · intro h'; cases h'
      · rintro ⟨_, j, _, hin, _⟩
        exact absurd (hin 0 (Nat.zero_le _)) h
theorem nodup_small : ∀ (n : Nat) (l : List Nat), l.Nodup → (∀ x ∈ l, x < n) → l.length ≤ n
  | 0, [], _, _ => by simp
  | 0, x :: l, _, h => absurd (h x (by simp)) (Nat.not_lt_zero _)
  | n + 1, l, hd, h => by
    by_cases hn : n ∈ l
    · have h1 := nodup_small n (l.erase n) (hd.erase n) (fun x hx => by
        have h2 := (List.Nodup.mem_erase_iff hd).1 hx
        have h3 := h x h2.2
        have h4 := h2.1
        omega)
      rw [List.length_erase_of_mem hn] at h1
      omega
    · have h1 := nodup_small n l hd (fun x hx => by
        have h3 := h x hx
        have h4 : x ≠ n := fun e => hn (e ▸ hx)
        omega)
      omega
/-- Among len + 1 nodes of len, two are the same. -/
theorem pigeon {len : Nat} {p : Nat → Int} (h : ∀ i, i ≤ len → nIn len (p i) = true) : ∃ a b, a < b ∧ b ≤ len ∧ p a = p b := by
  by_cases hno : ∃ a b, a < b ∧ b ≤ len ∧ p a = p b
  · exact hno
  · have hnd : ((List.range (len + 1)).map fun i => (p i - 1).toNat).Nodup := by
      refine List.pairwise_map.2 (List.Pairwise.imp_of_mem (fun {a b} ha hb hab => ?_) List.pairwise_lt_range)
      have h1 := nIn_iff.1 (h a (by have := List.mem_range.1 ha; omega))
      have h2 := nIn_iff.1 (h b (by have := List.mem_range.1 hb; omega))
      intro e
      exact hno ⟨a, b, hab, by have := List.mem_range.1 hb; omega, by omega⟩
    have hle := nodup_small len _ hnd (fun x hx => by
      obtain ⟨i, hi, rfl⟩ := List.mem_map.1 hx
      have h1 := nIn_iff.1 (h i (by have := List.mem_range.1 hi; omega))
      omega)
    simp at hle
    omega
theorem wayZ_add (ns : List PN) (z : Int) (a : Nat) : ∀ j, wayZ ns z (a + j) = wayZ ns (wayZ ns z a) j
  | 0 => rfl
  | j + 1 => by rw [← Nat.add_assoc, wayZ, wayZ_add ns z a j]; rfl
theorem unF_more (ns : List PN) (top z : Int) : unF ns top (ns.length + 1) z = unV ns z top := by
  unfold unV
  rw [Bool.eq_iff_iff, unF_iff, unF_iff]
  constructor
  · rintro ⟨ht, j, hj, hin, hw⟩
    by_cases hl : j < ns.length
    · exact ⟨ht, j, hl, hin, hw⟩
    · obtain rfl : j = ns.length := by omega
      obtain ⟨a, b, hab, hb, e⟩ := pigeon hin
      have key : ∀ q, wayZ ns z (a + q) = wayZ ns z (b + q) := fun q => by rw [wayZ_add, wayZ_add, e]
      have h1 := key (ns.length + 1 - b)
      rw [show b + (ns.length + 1 - b) = ns.length + 1 by omega, hw] at h1
      exact ⟨ht, a + (ns.length - b), by omega, fun i hi => hin i (by omega), by rw [← h1]; congr 1; omega⟩
  · rintro ⟨ht, j, hj, hin, hw⟩
    exact ⟨ht, j, by omega, hin, hw⟩
end Go.Proofs.Ytjlgcnhjifdgfaa

/-
  A node and all below it: what AllUnder answers. Conditions: the tree is right.
-/
import Derived.Test.YtfnnfjpbplbjmaaGoR
namespace Go.Proofs.Ytfnnfjpbplbjmaa
open Go.ChangeShapes Go.WideShapes Go.ChangeAt Go.RowKit
set_option linter.unusedVariables false
set_option linter.unusedSimpArgs false
set_option maxRecDepth 8000

/-- z and all below it, looked at f levels down. -/
def auF (ns : List PN) : Nat → Int → List Int
  | 0, z => [z]
  | f + 1, z => z :: (kidsZ ns z).flatMap (auF ns f)
def auV (ns : List PN) (z : Int) : List Int := if (nIn ns.length z && treeB ns) = true then auF ns 4 z else []
theorem flat_len {g : Int → List Int} {L : Nat} (hg : ∀ k, (g k).length ≤ L) : ∀ ks : List Int, (ks.flatMap g).length ≤ ks.length * L
  | [] => by simp
  | k :: ks => by
    have h1 := flat_len hg ks
    have h2 := hg k
    rw [List.flatMap_cons, List.length_append, List.length_cons, Nat.succ_mul]
    omega
theorem auF_len {ns : List PN} (ht : treeB ns = true) : ∀ (f : Nat) (z : Int), (auF ns f z).length ≤ 13 ^ f
  | 0, z => Nat.le_refl _
  | f + 1, z => by
    have h1 := flat_len (auF_len ht f) (kidsZ ns z)
    have h2 := Nat.mul_le_mul_right (13 ^ f) (kids_len ht z)
    have h3 : 0 < 13 ^ f := Nat.pow_pos (by decide)
    unfold auF
    rw [List.length_cons, Nat.pow_succ]
    omega
theorem auF_in {ns : List PN} (ht : treeB ns = true) : ∀ (f : Nat) (z : Int), nIn ns.length z = true → ∀ k ∈ auF ns f z, nIn ns.length k = true
  | 0, z, hz, k, hk => by
    simp [auF] at hk
    rw [hk]; exact hz
  | f + 1, z, hz, k, hk => by
    unfold auF at hk
    rcases List.mem_cons.1 hk with rfl | h
    · exact hz
    · obtain ⟨y, hy, h⟩ := List.mem_flatMap.1 h
      exact auF_in ht f y (kid_of ht hy).1 k h
theorem auV_all (ns : List PN) (z : Int) : AllI (auV ns z) := by
  unfold auV
  split
  · rename_i h
    simp only [Bool.and_eq_true] at h
    intro k hk
    have h1 := nIn_iff.1 (auF_in h.2 4 z h.1 k hk)
    have h2 := treeB_len h.2
    omega
  · intro k hk; cases hk
theorem auV_len (ns : List PN) (z : Int) : (auV ns z).length ≤ 28561 := by
  unfold auV
  split
  · rename_i h
    simp only [Bool.and_eq_true] at h
    exact auF_len h.2 4 z
  · simp
theorem au_ok {ns : List PN} (ht : treeB ns = true) {z : Int} (hz : nIn ns.length z = true) : hOk ns 4 z := by
  obtain ⟨d, h1, h2, _⟩ := dep_of ht hz
  exact hOk_of ht 4 d z hz h1 (by omega)
end Go.Proofs.Ytfnnfjpbplbjmaa

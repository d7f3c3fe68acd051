/-
  What TreeOk answers, as a function of the list of nodes. Conditions: none.
-/
import Derived.Test.YtjlgcnhjifdgfaaTrP
import Derived.Test.YtjlgcnhjifdgfaaOkM
import Derived.Test.YtjlgcnhjifdgfaaRlM
namespace Go.Proofs.Ytjlgcnhjifdgfaa
set_option linter.unusedVariables false

/-- How often x stands in zs. -/
def cntZ (zs : List Int) (x : Int) : Nat := zs.count x
theorem cntZ_take {zs : List Int} {j : Nat} (x : Int) (h : j < zs.length) : cntZ (zs.take (j + 1)) x = cntZ (zs.take j) x + if zs.getD j 0 = x then 1 else 0 := by
  unfold cntZ
  rw [List.take_succ_eq_append_getElem h, List.count_append, List.count_singleton, show zs.getD j 0 = zs[j] by rw [List.getD_eq_getElem?_getD, List.getElem?_eq_getElem h]; rfl]
  by_cases e : zs[j] = x <;> simp [e]
theorem cntZ_le (zs : List Int) (x : Int) : cntZ zs x ≤ zs.length := List.count_le_length
def upOk (ns : List PN) (i : Nat) (n : PN) : Bool := n.up == 0 || (nIn ns.length n.up && cntZ (ndAt ns n.up).kids ((i : Int) + 1) == 1)
def kidOk (ns : List PN) (i : Nat) (z : Int) : Bool := nIn ns.length z && upZ ns z == (i : Int) + 1
def kidsOk (ns : List PN) (i : Nat) (n : PN) : Bool := n.kids.all (kidOk ns i)
def conOk (n : PN) : Bool := if n.meas then n.kids.isEmpty && tokB n.rules n.rl else n.rl == 0
def depOk (ns : List PN) (i : Nat) : Bool := decide (1 ≤ dpV ns ((i : Int) + 1) ∧ dpV ns ((i : Int) + 1) ≤ 4)
def nodeB (ns : List PN) (i : Nat) (n : PN) : Bool := styOk n.sty && upOk ns i n && kidsOk ns i n && conOk n && depOk ns i
def treeB (ns : List PN) : Bool := decide (ns.length ≤ 12) && (List.range ns.length).all fun i => nodeB ns i (ns[i]?.getD default)
theorem tree_len {ns : List PN} (h : ¬ ns.length ≤ 12) : treeB ns = false := by unfold treeB; rw [decide_eq_false h]; rfl
theorem tree_bad {ns : List PN} {i : Nat} (hi : i < ns.length) (h : nodeB ns i ns[i] = false) : treeB ns = false := by
  unfold treeB
  have : ((List.range ns.length).all fun i => nodeB ns i (ns[i]?.getD default)) = false := by
    rw [List.all_eq_false]
    exact ⟨i, List.mem_range.2 hi, by rw [List.getElem?_eq_getElem hi]; simp [h]⟩
  rw [this, Bool.and_false]
theorem tree_good {ns : List PN} (hl : ns.length ≤ 12) (h : ∀ i (hi : i < ns.length), nodeB ns i ns[i] = true) : treeB ns = true := by
  unfold treeB
  rw [decide_eq_true hl, Bool.true_and, List.all_eq_true]
  intro i hi
  have hi := List.mem_range.1 hi
  rw [List.getElem?_eq_getElem hi]
  exact h i hi
theorem treeB_len {ns : List PN} (h : treeB ns = true) : ns.length ≤ 12 := by
  unfold treeB at h
  simp only [Bool.and_eq_true, decide_eq_true_eq] at h
  exact h.1
theorem treeB_node {ns : List PN} (h : treeB ns = true) {i : Nat} (hi : i < ns.length) : nodeB ns i ns[i] = true := by
  unfold treeB at h
  simp only [Bool.and_eq_true, List.all_eq_true] at h
  have := h.2 i (List.mem_range.2 hi)
  rwa [List.getElem?_eq_getElem hi] at this
theorem kids_bad {ns : List PN} {i j : Nat} {n : PN} (hj : j < n.kids.length) (h : kidOk ns i (n.kids.getD j 0) = false) : kidsOk ns i n = false := by
  unfold kidsOk
  rw [List.all_eq_false]
  refine ⟨n.kids[j], List.getElem_mem hj, ?_⟩
  rw [show n.kids.getD j 0 = n.kids[j] by rw [List.getD_eq_getElem?_getD, List.getElem?_eq_getElem hj]; rfl] at h
  simp [h]
theorem kids_good {ns : List PN} {i : Nat} {n : PN} (h : ∀ j, j < n.kids.length → kidOk ns i (n.kids.getD j 0) = true) : kidsOk ns i n = true := by
  unfold kidsOk
  rw [List.all_eq_true]
  intro z hz
  obtain ⟨j, hj, rfl⟩ := List.getElem_of_mem hz
  have := h j hj
  rwa [show n.kids.getD j 0 = n.kids[j] by rw [List.getD_eq_getElem?_getD, List.getElem?_eq_getElem hj]; rfl] at this
end Go.Proofs.Ytjlgcnhjifdgfaa

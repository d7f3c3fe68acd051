import Derived.Deep.RegionWith
import Derived.Test.YtnncdpkmhpjmbaaZnAG
section
namespace Go.Proofs.Ytnncdpkmhpjmbaa
open Go.ChangeShapes Go.WideShapes Go.ChangeAt Go.RowKit

section
variable {P : Program}

/-- In the place of an operation: nothing, as late as it. -/
def nopOf (o : Oper) : Oper := ⟨none, .move (.const undef), o.type, o.pos, o.after, none⟩
/-- The operations, with nothing in the place of number k and of all from n on. -/
def blank (n k : Nat) : Nat → List Oper → List Oper
  | _, [] => []
  | i, o :: l => (if i = k ∨ n ≤ i then nopOf o else o) :: blank n k (i + 1) l
theorem blank_get (n k : Nat) : ∀ (l : List Oper) (i j : Nat), (blank n k i l)[j]? = (l[j]?).map fun o => if i + j = k ∨ n ≤ i + j then nopOf o else o
  | [], _, _ => by simp [blank]
  | o :: l, i, 0 => by simp [blank]
  | o :: l, i, j + 1 => by
    simp only [blank, List.getElem?_cons_succ]
    rw [blank_get n k l (i + 1) j]
    simp only [show i + 1 + j = i + (j + 1) by omega]
theorem blank_len (n k : Nat) : ∀ (l : List Oper) (i : Nat), (blank n k i l).length = l.length
  | [], _ => rfl
  | _ :: l, i => by simp [blank, blank_len n k l (i + 1)]
theorem blank_at (n k : Nat) (l : List Oper) (j : Nat) : (blank n k 0 l).toArray[j]? = (l[j]?).map fun o => if j = k ∨ n ≤ j then nopOf o else o := by
  rw [List.getElem?_toArray, blank_get]; simp
theorem blank_ready (md : Region.Mode) (n k : Nat) (l : List Oper) (listed : Array Bool) : Region.ready md (blank n k 0 l).toArray listed = Region.ready md l.toArray listed := by
  unfold Region.ready
  have hs : (blank n k 0 l).toArray.size = l.toArray.size := by simp [blank_len]
  rw [hs]
  refine List.filter_congr fun i _ => ?_
  rw [blank_at, List.getElem?_toArray]
  cases l[i]? with
  | none => rfl
  | some o => simp only [Option.map_some]; split <;> rfl

/-- The worlds that lie behind w: more drawn, more blocks. -/
def behind (w w' : World) : Prop := ∃ p : Regrown, w' = Sort.grow (redrawn w p.d) p.os
theorem behind_of {w w' : World} (h : Below w.heap.size w w') : behind w w' := regrown_of_below h
theorem below_of {w w' : World} (h : behind w w') : Below w.heap.size w w' := by
  obtain ⟨p, rfl⟩ := h; exact below_regrown w p.d p.os

theorem count_step {listed : Array Bool} {i : Nat} (h : listed.getD i true = false) : listed.toList.count false = (listed.setIfInBounds i true).toList.count false + 1 := by
  have hi : i < listed.size := by
    apply Nat.lt_of_not_le
    intro hge
    simp [Array.getElem?_eq_none hge] at h
  have hv : listed[i] = false := by simpa [hi] using h
  have hm : 0 < listed.toList.count false := List.count_pos_iff.2 (by rw [Array.mem_toList_iff, ← hv]; exact Array.getElem_mem hi)
  rw [Array.toList_setIfInBounds, List.count_set (by simpa using hi)]
  have hv' : listed.toList[i]'(by simpa using hi) = false := by simpa using hv
  rw [hv']
  simp only [beq_self_eq_true, if_true, show (true == false) = false from rfl, Bool.false_eq_true, if_false]
  omega

theorem ready_some {l : List Oper} {listed : Array Bool} (hback : ∀ (j : Nat) (o : Oper), l[j]? = some o → ∀ e ∈ o.after, e.on < j) (hs : listed.size = l.length) :
    ∀ (i : Nat), i < l.length → listed.getD i true = false → Region.ready .any l.toArray listed ≠ [] := by
  intro i
  induction i using Nat.strongRecOn with
  | _ i ih =>
    intro hi hun h0
    have ho : l[i]? = some l[i] := List.getElem?_eq_getElem hi
    by_cases hall : ∀ e ∈ (l[i]).after, Region.binds .any e = true → listed.getD e.on false = true
    · have : i ∈ Region.ready .any l.toArray listed := mem_ready.2 ⟨hun, l[i], by simp, hall⟩
      rw [h0] at this
      cases this
    · simp only [Classical.not_forall] at hall
      obtain ⟨e, he, _, hl⟩ := hall
      have hlt := hback i _ ho e he
      have hsz : e.on < listed.size := by omega
      exact ih e.on hlt (by omega) (by simp [hsz] at hl ⊢; exact hl) h0

end
end Go.Proofs.Ytnncdpkmhpjmbaa
end

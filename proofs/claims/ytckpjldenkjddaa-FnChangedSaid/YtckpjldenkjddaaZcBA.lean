import Derived.Test.YtckpjldenkjddaaZcAQ
import Derived.Test.YtckpjldenkjddaaZcAU
import Derived.Test.YtckpjldenkjddaaZcAW
import Derived.Test.YtckpjldenkjddaaZcAY
import Derived.Test.YtckpjldenkjddaaZcAZ
section
namespace Go.Proofs.Ytckpjldenkjddaa
open Go.ChangeShapes Go.WideShapes Go.ChangeAt Go.RowKit
set_option linter.unusedVariables false

theorem dpF_like {ns ms : List PN} (hl : ms.length = ns.length) (hu : ∀ z, upZ ms z = upZ ns z) : ∀ f z k, dpF ms f z k = dpF ns f z k
  | 0, z, k => rfl
  | f + 1, z, k => by rw [dpF, dpF, hl, hu, dpF_like hl hu f]
theorem ndAt_nat2 {ns : List PN} {i : Nat} (h : i < ns.length) : ndAt ns ((i : Int) + 1) = ns[i] := by
  rw [ndAt_get (by omega) (by omega)]
  congr 1
  omega
theorem tree_like {ns ms : List PN} (hl : ms.length = ns.length) (hu : ∀ z, upZ ms z = upZ ns z) (hk : ∀ z, (ndAt ms z).kids = (ndAt ns z).kids) (hn : ∀ i (h : i < ms.length), styOk ms[i].sty = true ∧ conOk ms[i] = true) (ht : treeB ns = true) : treeB ms = true := by
  refine tree_good (by rw [hl]; exact treeB_len ht) fun i hi => ?_
  have hi' : i < ns.length := by omega
  have h1 := treeB_node ht hi'
  have eu : ms[i].up = ns[i].up := by have := hu ((i : Int) + 1); unfold upZ at this; rwa [ndAt_nat2 hi, ndAt_nat2 hi'] at this
  have ek : ms[i].kids = ns[i].kids := by have := hk ((i : Int) + 1); rwa [ndAt_nat2 hi, ndAt_nat2 hi'] at this
  unfold nodeB at h1 ⊢
  simp only [Bool.and_eq_true] at h1 ⊢
  obtain ⟨⟨⟨⟨_, h2⟩, h3⟩, _⟩, h5⟩ := h1
  refine ⟨⟨⟨⟨(hn i hi).1, ?_⟩, ?_⟩, (hn i hi).2⟩, ?_⟩
  · unfold upOk at h2 ⊢; rwa [eu, hl, hk]
  · unfold kidsOk at h3 ⊢
    rw [ek]
    rw [List.all_eq_true] at h3 ⊢
    intro x hx
    have := h3 x hx
    unfold kidOk at this ⊢
    rwa [hl, hu]
  · unfold depOk dpV at h5 ⊢; rwa [hl, dpF_like hl hu]
/-- A node's style and content are not what the others look at. -/
theorem ndAt_set {ns : List PN} {k : Nat} (n : PN) (z : Int) : ndAt (ns.set k n) z = if (z - 1).toNat = k ∧ k < ns.length then n else ndAt ns z := by
  unfold ndAt
  obtain ⟨j, ej⟩ : ∃ j, j = (z - 1).toNat := ⟨_, rfl⟩
  rw [← ej, List.getElem?_set]
  by_cases h : k = j
  · subst h
    rw [if_pos rfl]
    by_cases hl : k < ns.length
    · rw [if_pos hl, if_pos ⟨rfl, hl⟩]; rfl
    · rw [if_neg hl, if_neg (fun e => hl e.2), List.getElem?_eq_none (Nat.le_of_not_lt hl)]
  · rw [if_neg h, if_neg (fun e => h e.1.symm)]
theorem ss_same {ns : List PN} {z : Int} {f : Nat → Int} (h : ssC ns z f ≠ 0) : ssN ns z f = ns := by
  unfold ssC at h; unfold ssN
  split at h
  · rename_i h1
    rw [if_pos h1]
    split at h
    · exact absurd rfl h
    · rename_i h2; rw [if_neg h2]
  · rename_i h1; rw [if_neg h1]
theorem ss_done {ns : List PN} {z : Int} {f : Nat → Int} (h : ssC ns z f = 0) : treeB (ssN ns z f) = true ∧ nIn ns.length z = true ∧ ssN ns z f = stySet ns z f ∧ (ssN ns z f).length = ns.length ∧ (ndAt (ssN ns z f) z).sty = f := by
  unfold ssC at h
  split at h
  · rename_i h1
    split at h
    · rename_i h2
      have e : ssN ns z f = stySet ns z f := by unfold ssN; rw [if_pos h1, if_pos h2]
      rw [Bool.and_eq_true] at h1
      have hin := nIn_iff.1 h1.1
      have hk : (z - 1).toNat < ns.length := by omega
      have hl : (stySet ns z f).length = ns.length := by unfold stySet; rw [List.length_set]
      have hnd : ∀ y, ndAt (stySet ns z f) y = if (y - 1).toNat = (z - 1).toNat then { ndAt ns z with sty := f } else ndAt ns y := fun y => by
        unfold stySet
        rw [ndAt_set]
        by_cases hy : (y - 1).toNat = (z - 1).toNat
        · rw [if_pos ⟨hy, hk⟩, if_pos hy]
        · rw [if_neg (fun e => hy e.1), if_neg hy]
      have hyz : ∀ y, (y - 1).toNat = (z - 1).toNat → ndAt ns y = ndAt ns z := fun y hy => by unfold ndAt; rw [hy]
      rw [e]
      refine ⟨tree_like hl (fun y => ?_) (fun y => ?_) (fun i hi => ?_) h1.2, h1.1, rfl, hl, ?_⟩
      · unfold upZ
        rw [hnd]
        split
        · rename_i hy; rw [hyz y hy]
        · rfl
      · rw [hnd]
        split
        · rename_i hy; rw [hyz y hy]
        · rfl
      · have hi' : i < ns.length := by omega
        have hb := treeB_node h1.2 hi'
        unfold nodeB at hb
        simp only [Bool.and_eq_true] at hb
        have hn := hnd ((i : Int) + 1)
        rw [ndAt_nat2 hi] at hn
        rw [hn]
        split
        · rename_i hy
          refine ⟨h2, ?_⟩
          have he := hyz _ hy
          rw [ndAt_nat2 hi'] at he
          rw [← he]
          exact hb.1.2
        · rw [ndAt_nat2 hi']
          exact ⟨hb.1.1.1.1, hb.1.2⟩
      · rw [hnd, if_pos rfl]
    · cases h
  · cases h
theorem st_same {ns : List PN} {z : Int} {rl : Nat} {rs : List Int} (h : stC ns z rl rs ≠ 0) : stN ns z rl rs = ns := by
  unfold stC at h; unfold stN
  split at h
  · rename_i h1
    rw [if_pos h1]
    split at h
    · rename_i h2; rw [if_pos h2]
    · exact absurd rfl h
  · rename_i h1; rw [if_neg h1]
theorem ad_len {ns : List PN} {f : Nat → Int} (h : adC ns f ≠ 0) : adC ns f = ((adN ns f).length : Int) := by
  unfold adC at h ⊢; unfold adN
  split
  · rename_i h1; first | (rw [if_pos h1]; simp; done) | simp
  · rename_i h1; rw [if_neg h1] at h; exact absurd rfl h
theorem tree_nil : treeB [] = true := by decide
theorem nds_nil (w : World) (a : Option Addr) : Nds w a [] := ⟨(fun _ h => by cases h), Or.inl rfl⟩
end Go.Proofs.Ytckpjldenkjddaa
end
section
namespace Go.Proofs.Ytckpjldenkjddaa
open Go.ChangeShapes Go.WideShapes Go.ChangeAt Go.RowKit
set_option linter.unusedVariables false
set_option linter.unusedSimpArgs false
set_option maxRecDepth 8000

theorem qadN_sz (ns : List PN) (f : Nat → Int) (h : szS ns ≤ 1048576) : szS (adN ns f) ≤ 2097152 := by
  unfold adN
  split
  · unfold szS szL at *
    rw [List.length_append, List.map_append, List.sum_append]
    simp [newN, szK]
    omega
  · omega

theorem qzL_set_le' (m : PN) : ∀ (ns : List PN) (k : Nat), (∀ q, ns[k]? = some q → szK m ≤ szK q) → szL (ns.set k m) ≤ szL ns
  | [], _, _ => by simp [szL]
  | n :: ns, 0, h => by
    have := h n rfl
    simp [szL]; omega
  | n :: ns, k + 1, h => by
    have := qzL_set_le' m ns k h
    simp [szL] at this ⊢
    omega
theorem qndAt_of {ns : List PN} {z : Int} {q : PN} (h : ns[(z - 1).toNat]? = some q) : ndAt ns z = q := by unfold ndAt; rw [h]; rfl
theorem qrkN_sz (ns : List PN) (z y : Int) (h : szS ns ≤ 1048576) : szS (rkN ns z y) ≤ 2097152 := by
  unfold rkN
  split
  · split
    · unfold rmSet szS
      rw [List.length_set]
      have h1 : szL ((rmK ns z y).set (y - 1).toNat { ndAt (rmK ns z y) y with up := 0 }) ≤ szL (rmK ns z y) := qzL_set_le' _ _ _ fun q hq => by
        rw [qndAt_of hq]; exact Nat.le_refl _
      have h2 : szL (rmK ns z y) ≤ szL ns := qzL_set_le' _ _ _ fun q hq => by
        rw [qndAt_of hq]
        show (q.kids.filter _).length + q.rl ≤ q.kids.length + q.rl
        have := List.length_filter_le (fun k => k != y) q.kids
        omega
      have h3 : (rmK ns z y).length = ns.length := by unfold rmK; rw [List.length_set]
      unfold szS at h
      omega
    · omega
  · omega

theorem qzL_set (ns : List PN) (k : Nat) (m : PN) (h : ∀ q, ns[k]? = some q → szK m = szK q) : szL (ns.set k m) = szL ns := by
  unfold szL
  congr 1
  apply List.ext_getElem?
  intro i
  rw [List.getElem?_map, List.getElem?_map, List.getElem?_set]
  by_cases h1 : k = i
  · subst h1
    by_cases h2 : k < ns.length
    · rw [if_pos rfl, if_pos h2, List.getElem?_eq_getElem h2]
      simp [h _ (List.getElem?_eq_getElem h2)]
    · rw [if_pos rfl, if_neg h2, List.getElem?_eq_none (by omega)]
  · rw [if_neg h1]
theorem qssN_sz (ns : List PN) (z : Int) (f : Nat → Int) (h : szS ns ≤ 1048576) : szS (ssN ns z f) ≤ 1048576 := by
  unfold ssN
  split
  · rename_i h1
    split
    · have hz := nIn_iff.1 (Bool.and_eq_true_iff.1 h1).1
      unfold stySet szS
      rw [List.length_set, qzL_set]
      · exact h
      · intro q hq
        have hk : (z - 1).toNat < ns.length := (List.getElem?_eq_some_iff.1 hq).1
        rw [ndAt_get (by omega) (by omega)]
        rw [List.getElem?_eq_getElem hk] at hq
        cases hq
        rfl
    · exact h
  · exact h

theorem qzL_set_le (k : Nat) (m : PN) : ∀ (ns : List PN) (k : Nat), szL (ns.set k m) ≤ szL ns + szK m
  | [], _ => by simp [szL]
  | n :: ns, 0 => by simp [szL]; omega
  | n :: ns, k + 1 => by
    have := qzL_set_le k m ns k
    simp [szL] at this ⊢
    omega
theorem qzL_get : ∀ (ns : List PN) (k : Nat) (h : k < ns.length), szK ns[k] ≤ szL ns
  | n :: ns, 0, _ => by simp [szL]
  | n :: ns, k + 1, h => by
    have := qzL_get ns k (by simpa using h)
    simp [szL] at this ⊢
    omega
theorem qstN_sz (ns : List PN) (z : Int) (rl : Nat) (rs : List Int) (h : szS ns + rl ≤ 1048576) : szS (stN ns z rl rs) ≤ 2097152 := by
  unfold stN
  split
  · rename_i h1
    split
    · omega
    · have hz := nIn_iff.1 (Bool.and_eq_true_iff.1 h1).1
      have hk : (z - 1).toNat < ns.length := by omega
      have e : ndAt ns z = ns[(z - 1).toNat] := ndAt_get (by omega) hk
      have h2 := qzL_get ns (z - 1).toNat hk
      have h3 := qzL_set_le 0 { ndAt ns z with meas := decide (0 < rl), rl := rl, rules := rs } ns (z - 1).toNat
      unfold tabSet szS
      rw [List.length_set]
      rw [← e] at h2
      unfold szK at h2 h3
      dsimp only at h3 ⊢
      unfold szS at h
      omega
  · omega
end Go.Proofs.Ytckpjldenkjddaa
end

import Derived.Test.YtckpjldenkjddaaZtAJ
import Derived.Test.YtckpjldenkjddaaZtAX
import Derived.Test.YtckpjldenkjddaaZtBA
import Derived.Test.YtckpjldenkjddaaZtBB
import Derived.Test.YtckpjldenkjddaaZtBC
import Derived.Test.YtckpjldenkjddaaZtBD
import Derived.Test.YtckpjldenkjddaaZtBE
import Derived.Test.YtckpjldenkjddaaZtBH
import Derived.Test.YtckpjldenkjddaaZtBN
section
namespace Go.Proofs.Ytckpjldenkjddaa
open Go.ChangeShapes Go.WideShapes Go.ChangeAt Go.RowKit
set_option linter.unusedVariables false

theorem ndAt_nat2 {ns : List PN} {i : Nat} (h : i < ns.length) : ndAt ns ((i : Int) + 1) = ns[i] := by
  rw [ndAt_get (by omega) (by omega)]
  congr 1
  omega
/-- A node's style and content are not what the others look at. -/
theorem ndAt_set {ns : List PN} {k : Nat} (n : PN) (z : Int) : ndAt (ns.set k n) z = if (z - 1).toNat = k ∧ k < ns.length then n else ndAt ns z := by
  unfold ndAt
  obtain ⟨j, ej⟩ : ∃ j, j = (z - 1).toNat := ⟨_, rfl⟩
  rw [← ej, List.getElem?_set]
  by_cases h : k = j
  · subst h
    rw [if_pos rfl]
    by_cases hl : k < ns.length
    · rw [if_pos hl, if_pos ⟨rfl, hl⟩]; rfl
    · rw [if_neg hl, if_neg (fun e => hl e.2), List.getElem?_eq_none (Nat.le_of_not_lt hl)]
  · rw [if_neg h, if_neg (fun e => h e.1.symm)]
theorem nds_nil (w : World) (a : Option Addr) : Nds w a [] := ⟨(fun _ h => by cases h), Or.inl rfl⟩
end Go.Proofs.Ytckpjldenkjddaa
end
section
namespace Go.Proofs.Ytckpjldenkjddaa
open Go.ChangeShapes Go.WideShapes Go.ChangeAt Go.RowKit
set_option linter.unusedVariables false

theorem ik_same {ns : List PN} {z y a : Int} (h : ikC ns z y a ≠ 0) : ikN ns z y a = ns := by
  unfold ikC at h; unfold ikN
  split at h
  · rename_i h1
    rw [if_pos h1]
    split at h
    · exact absurd rfl h
    · rename_i h2; rw [if_neg h2]
  · rename_i h1; rw [if_neg h1]
structure IkF (ns : List PN) (z y a : Int) : Prop where
  eq : ikN ns z y a = insSet ns z y a
  tree : treeB (insSet ns z y a) = true
  was : treeB ns = true
  zin : nIn ns.length z = true
  yin : nIn ns.length y = true
  ne : y ≠ z
  up : upZ ns y = 0
theorem ik_done {ns : List PN} {z y a : Int} (h : ikC ns z y a = 0) : IkF ns z y a := by
  unfold ikC at h
  split at h
  · rename_i h1
    split at h
    · rename_i h2
      have e : ikN ns z y a = insSet ns z y a := by unfold ikN; rw [if_pos h1, if_pos h2]
      unfold ikPre at h1
      split at h1
      · rename_i h3
        split at h1
        · cases h1
        · rename_i h4
          split at h1
          · cases h1
          · rename_i h5
            unfold rmB at h3
            simp only [Bool.and_eq_true] at h3
            simp only [Bool.or_eq_true, not_or] at h4 h5
            refine ⟨e, h2, h3.1.1, h3.1.2, h3.2, fun q => h4.1 (by rw [q]; simp), ?_⟩
            by_cases hu : upZ ns y = 0
            · exact hu
            · exact absurd (by simp [hu]) h5.1
      · cases h1
    · cases h
  · rename_i h1
    exact absurd h h1
theorem nIn_len {n m : Nat} (h : n = m) {z : Int} (hz : nIn n z = true) : nIn m z = true := h ▸ hz
theorem insq_len (ns : List PN) (z y a : Int) : (insSet ns z y a).length = ns.length := by unfold insSet insK; rw [List.length_set, List.length_set]
theorem nat_inj {n : Nat} {z y : Int} (hz : nIn n z = true) (hy : nIn n y = true) (h : (z - 1).toNat = (y - 1).toNat) : z = y := by
  have h1 := nIn_iff.1 hz
  have h2 := nIn_iff.1 hy
  omega
theorem ndAt_insK {ns : List PN} {z y a w : Int} (hz : nIn ns.length z = true) : ndAt (insK ns z y a) w = if (w - 1).toNat = (z - 1).toNat then { ndAt ns z with kids := insL (ndAt ns z).kids y a } else ndAt ns w := by
  have hk : (z - 1).toNat < ns.length := by have := nIn_iff.1 hz; omega
  unfold insK
  rw [ndAt_set]
  by_cases h : (w - 1).toNat = (z - 1).toNat
  · rw [if_pos ⟨h, hk⟩, if_pos h]
  · rw [if_neg (fun e => h e.1), if_neg h]
theorem ndAt_ins {ns : List PN} {z y a w : Int} (hy : nIn ns.length y = true) : ndAt (insSet ns z y a) w = if (w - 1).toNat = (y - 1).toNat then { ndAt (insK ns z y a) y with up := z } else ndAt (insK ns z y a) w := by
  have hk : (y - 1).toNat < (insK ns z y a).length := by have := nIn_iff.1 hy; unfold insK; rw [List.length_set]; omega
  unfold insSet
  rw [ndAt_set]
  by_cases h : (w - 1).toNat = (y - 1).toNat
  · rw [if_pos ⟨h, hk⟩, if_pos h]
  · rw [if_neg (fun e => h e.1), if_neg h]
theorem ndAt_rmK {ns : List PN} {z y w : Int} (hz : nIn ns.length z = true) : ndAt (rmK ns z y) w = if (w - 1).toNat = (z - 1).toNat then { ndAt ns z with kids := (ndAt ns z).kids.filter fun k => k != y } else ndAt ns w := by
  have hk : (z - 1).toNat < ns.length := by have := nIn_iff.1 hz; omega
  unfold rmK
  rw [ndAt_set]
  by_cases h : (w - 1).toNat = (z - 1).toNat
  · rw [if_pos ⟨h, hk⟩, if_pos h]
  · rw [if_neg (fun e => h e.1), if_neg h]
theorem ndAt_rm {ns : List PN} {z y w : Int} (hy : nIn ns.length y = true) : ndAt (rmSet ns z y) w = if (w - 1).toNat = (y - 1).toNat then { ndAt (rmK ns z y) y with up := 0 } else ndAt (rmK ns z y) w := by
  have hk : (y - 1).toNat < (rmK ns z y).length := by have := nIn_iff.1 hy; unfold rmK; rw [List.length_set]; omega
  unfold rmSet
  rw [ndAt_set]
  by_cases h : (w - 1).toNat = (y - 1).toNat
  · rw [if_pos ⟨h, hk⟩, if_pos h]
  · rw [if_neg (fun e => h e.1), if_neg h]
theorem filt_ins {ks : List Int} {y a : Int} (h : y ∉ ks) : (insL ks y a).filter (fun k => k != y) = ks := by
  have hf : ∀ l : List Int, y ∉ l → l.filter (fun k => k != y) = l := fun l hl => List.filter_eq_self.2 fun x hx => by
    simp only [bne_iff_ne, ne_eq]
    exact fun e => hl (e ▸ hx)
  unfold insL
  rw [List.filter_append, List.filter_append, hf _ (fun q => h (List.mem_of_mem_take q)), hf _ (fun q => h (List.mem_of_mem_drop q))]
  simp
theorem list_nd {A B : List PN} (hl : A.length = B.length) (h : ∀ w, nIn B.length w = true → ndAt A w = ndAt B w) : A = B := by
  apply List.ext_getElem hl
  intro i h1 h2
  have := h ((i : Int) + 1) (nIn_iff.2 ⟨by omega, by omega⟩)
  rwa [ndAt_nat2 h1, ndAt_nat2 h2] at this
theorem ins_rm {ns : List PN} {z y a : Int} (h : IkF ns z y a) : rmSet (insSet ns z y a) z y = ns := by
  have hl := insq_len ns z y a
  have hz' : nIn (insSet ns z y a).length z = true := nIn_len hl.symm h.zin
  have hy' : nIn (insSet ns z y a).length y = true := nIn_len hl.symm h.yin
  have hyz : (y - 1).toNat ≠ (z - 1).toNat := fun e => h.ne (nat_inj h.yin h.zin e)
  have hnk : y ∉ (ndAt ns z).kids := fun hm => by
    have := (kid_of h.was (z := z) (k := y) (by unfold kidsZ; rw [if_pos h.zin]; exact hm)).2
    rw [h.up] at this
    have := nIn_iff.1 h.zin
    omega
  refine list_nd (by unfold rmSet rmK; rw [List.length_set, List.length_set, hl]) fun w hw => ?_
  have hXy : ndAt (insSet ns z y a) y = { ndAt ns y with up := z } := by rw [ndAt_ins h.yin, if_pos rfl, ndAt_insK h.zin, if_neg hyz]
  have hXz : ndAt (insSet ns z y a) z = { ndAt ns z with kids := insL (ndAt ns z).kids y a } := by rw [ndAt_ins h.yin, if_neg (fun e => hyz e.symm), ndAt_insK h.zin, if_pos rfl]
  rw [ndAt_rm hy']
  by_cases e1 : (w - 1).toNat = (y - 1).toNat
  · rw [if_pos e1, ndAt_rmK hz', if_neg hyz, hXy]
    obtain rfl := nat_inj hw h.yin e1
    have hu : (ndAt ns w).up = 0 := h.up
    generalize ndAt ns w = N at *
    cases N
    simp only at hu
    subst hu
    rfl
  · rw [if_neg e1, ndAt_rmK hz']
    by_cases e2 : (w - 1).toNat = (z - 1).toNat
    · rw [if_pos e2, hXz]
      obtain rfl := nat_inj hw h.zin e2
      show { ndAt ns w with kids := (insL (ndAt ns w).kids y a).filter fun k => k != y } = _
      rw [filt_ins hnk]
    · rw [if_neg e2, ndAt_ins h.yin, if_neg e1, ndAt_insK h.zin, if_neg e2]
theorem ins_upq {ns : List PN} {z y a : Int} (h : IkF ns z y a) : upZ (insSet ns z y a) y = z := by
  unfold upZ
  rw [ndAt_ins h.yin, if_pos rfl]
theorem ins_rk {ns : List PN} {z y a : Int} (h : IkF ns z y a) : rkC (insSet ns z y a) z y = 0 ∧ rkN (insSet ns z y a) z y = ns := by
  have hl := insq_len ns z y a
  have hb : rmB (insSet ns z y a) z y = true := by unfold rmB; rw [h.tree, nIn_len hl.symm h.zin, nIn_len hl.symm h.yin]; rfl
  constructor
  · unfold rkC; rw [if_pos hb, if_pos (ins_upq h)]
  · unfold rkN; rw [if_pos hb, if_pos (ins_upq h)]; exact ins_rm h
theorem ins_un {ns : List PN} {z y a : Int} (h : IkF ns z y a) : unV (insSet ns z y a) y z = true := by
  have hl := insq_len ns z y a
  have hz' : nIn (insSet ns z y a).length z = true := nIn_len hl.symm h.zin
  have hy' : nIn (insSet ns z y a).length y = true := nIn_len hl.symm h.yin
  unfold unV
  obtain ⟨f, ef⟩ : ∃ f, (insSet ns z y a).length = f + 1 := ⟨(insSet ns z y a).length - 1, by have := nIn_iff.1 hy'; omega⟩
  have key : ∀ f, unF (insSet ns z y a) z (f + 1) y = true := fun f => by
    rw [unF, if_pos hy', if_pos (ins_upq h)]
    exact hz'
  rw [ef]
  exact key f
theorem ins_dp {ns : List PN} {z y a : Int} (h : IkF ns z y a) : ∃ d : Nat, d ≤ 12 ∧ dpV (insSet ns z y a) z = (d : Int) ∧ dpV (insSet ns z y a) y = (d : Int) + 1 := by
  have hl := insq_len ns z y a
  have hz' : nIn (insSet ns z y a).length z = true := nIn_len hl.symm h.zin
  have hy' : nIn (insSet ns z y a).length y = true := nIn_len hl.symm h.yin
  obtain ⟨d, hd, d1, d4⟩ := dep_of h.tree hz'
  have hd2 : dpR (insSet ns z y a) y (d + 1) := dpR_down hy' (by rw [ins_upq h]; exact hd)
  exact ⟨d, by omega, dpV_of hd, by rw [dpV_of hd2]; omega⟩
theorem ins_cyc {ns : List PN} {z y a : Int} (h : IkF ns z y a) : ikC (insSet ns z y a) y z 0 = 2 := by
  have hl := insq_len ns z y a
  have hb : rmB (insSet ns z y a) y z = true := by unfold rmB; rw [h.tree, nIn_len hl.symm h.zin, nIn_len hl.symm h.yin]; rfl
  have hp : ikPre (insSet ns z y a) y z 0 = 2 := by
    unfold ikPre
    rw [if_pos hb, if_pos (by rw [ins_un h]; simp)]
  unfold ikC
  rw [if_neg (by rw [hp]; decide), hp]
theorem one_node {f : Nat → Int} (hf : styOk f = true) : adN [] f = [newN f] ∧ adC [] f = 1 ∧ ikC [newN f] 1 1 0 = 2 := by
  have hb : adB [] f = true := by unfold adB; rw [hf]; decide
  have ht : treeB [newN f] = true := by
    refine tree_good (by simp) fun i hi => ?_
    have : i = 0 := by simpa using hi
    subst this
    have e1 : upOk [newN f] 0 (newN f) = true := by simp [upOk, newN]
    have e2 : kidsOk [newN f] 0 (newN f) = true := by simp [kidsOk, newN]
    have e3 : conOk (newN f) = true := by simp [conOk, newN]
    have e4 : depOk [newN f] 0 = true := by simp [depOk, dpV, dpF, nIn, upZ, ndAt, newN]
    have e5 : styOk (newN f).sty = true := hf
    show nodeB [newN f] 0 (newN f) = true
    unfold nodeB
    rw [e1, e2, e3, e4, e5]; rfl
  refine ⟨by unfold adN; rw [if_pos hb]; rfl, by unfold adC; rw [if_pos hb]; rfl, ?_⟩
  have hr : rmB [newN f] 1 1 = true := by unfold rmB; rw [ht]; rfl
  have hp : ikPre [newN f] 1 1 0 = 2 := by
    unfold ikPre
    rw [if_pos hr, if_pos (by simp)]
  unfold ikC
  rw [if_neg (by rw [hp]; decide), hp]
end Go.Proofs.Ytckpjldenkjddaa
end
section
namespace Go.Proofs.Ytckpjldenkjddaa
open Go.ChangeShapes Go.WideShapes Go.ChangeAt Go.RowKit
set_option linter.unusedSimpArgs false
set_option linter.unusedVariables false

def plF : Nat → Int := upd newF 0 1
section
variable {ops : Array Oper} {rest : List Oper} {op : Oper} {a : Act} {w w0 : World} {Q : Exit → Act → World → Prop} {g : Nat} {t : TypeId} {f : Nat → Int}
end
theorem plain_any (w : World) :
    Calls Try.prog 20 #[] w fun e w' => e = .returned (.agg (sCells plF)) ∧ Below w.heap.size w w' := by
  have hz := hp_new w (.cells (sCells fun _ => 0) 41)
  have bb := Go.Joins.below_alloc1 w (.cells (sCells fun _ => 0) 41)
  obtain ⟨u, eu⟩ : ∃ u, u = w.alloc (.cells (sCells fun _ => 0) 41) := ⟨_, rfl⟩
  rw [← eu] at hz bb
  have EU := Lib.hid eu
  clear eu
  go_enter Try.func20, Try.ntmps20
  go_wp2_with (first | (rw [← EU.out]) | ((with_reducible apply list_alloc_sty); exact rfl; exact rfl; simp only [World.size_alloc, Act.put, List.setIfInBounds_toArray, List.set_cons_succ, List.set_cons_zero]))
  refine (snew _).mono ?_
  rintro e w1 ⟨rfl, b1⟩
  replace hz := hp_below hz b1
  replace bb := bb.trans (b1.mono bb.size)
  clear b1
  have hlt := hp_lt hz
  (try dsimp only)
  go_wp2_with (first | ((with_reducible apply list_new_sty (f := newF)); exact rfl; exact rfl; exact rfl; exact rfl; exact rfl; exact rfl; exact rfl; intro v2 bv2 hv2; have F0 := sty_free hv2 0; have c0 := sty_int hv2 0 (by decide); have hq := sty_put hv2 0 1 (.int .i64 1) (by decide) (sCell_int 1 (by decide)); have HZ := hp_set (hp_below hz bv2) (show w.heap.size ≠ w1.heap.size by omega) 0 (.int .i64 1); have b9 := bl_set (bb.trans (bv2.mono bb.size)) 0 (show w.heap.size ≤ w1.heap.size by omega) (.int .i64 1); simp only [World.size_alloc, Act.put, List.setIfInBounds_toArray, List.set_cons_succ, List.set_cons_zero]) | ((with_reducible apply list_load_sty); exact rfl; exact rfl; exact rfl; (with_reducible exact hq); simp only [World.size_alloc, Act.put, List.setIfInBounds_toArray, List.set_cons_succ, List.set_cons_zero]) | ((with_reducible apply list_store_sty); exact rfl; exact rfl; exact rfl; exact rfl; (with_reducible exact HZ); simp only [World.size_alloc, Act.put, List.setIfInBounds_toArray, List.set_cons_succ, List.set_cons_zero]))
  exact bodyPost_ret (results_sty rfl rfl (setRow_heap _ _ _ (sCells plF) _ _ HZ)) rfl ⟨rfl, below_setRow b9 (Nat.le_refl _) _⟩
end Go.Proofs.Ytckpjldenkjddaa
end
section
namespace Go.Proofs.Ytckpjldenkjddaa
open Go.ChangeShapes Go.WideShapes Go.ChangeAt Go.RowKit
set_option linter.unusedVariables false
set_option maxRecDepth 20000

theorem ik_all {ns : List PN} {z y a : Int} (h : ikC ns z y a = 0) : treeB (ikN ns z y a) = true ∧ rkC (ikN ns z y a) z y = 0 ∧ rkN (ikN ns z y a) z y = ns ∧ ikC (ikN ns z y a) y z 0 = 2 ∧ unV (ikN ns z y a) y z = true ∧ ∃ d : Nat, d ≤ 12 ∧ dpV (ikN ns z y a) z = (d : Int) ∧ dpV (ikN ns z y a) y = (d : Int) + 1 := by
  have f := ik_done h
  rw [f.eq]
  exact ⟨f.tree, (ins_rk f).1, (ins_rk f).2, ins_cyc f, ins_un f, ins_dp f⟩
theorem pl_inr : InR plF := fun i => by unfold plF upd newF; (repeat' split) <;> exact ⟨by decide, by decide⟩
theorem pl_ok : styOk plF = true := by decide +kernel
end Go.Proofs.Ytckpjldenkjddaa
end

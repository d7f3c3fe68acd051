import Derived.Deep.RegionWith
import Derived.Test.YtnncdpkmhpjmbaaZmAG
section
namespace Go.Proofs.Ytnncdpkmhpjmbaa
open Go.ChangeShapes Go.WideShapes Go.ChangeAt Go.RowKit

section
variable {P : Program}

/-- In the place of an operation: nothing, as late as it. -/
def nopOf (o : Oper) : Oper := ⟨none, .move (.const undef), o.type, o.pos, o.after, none⟩
/-- The operations, with nothing in the place of number k and of all from n on. -/
def blank (n k : Nat) : Nat → List Oper → List Oper
  | _, [] => []
  | i, o :: l => (if i = k ∨ n ≤ i then nopOf o else o) :: blank n k (i + 1) l
theorem blank_get (n k : Nat) : ∀ (l : List Oper) (i j : Nat), (blank n k i l)[j]? = (l[j]?).map fun o => if i + j = k ∨ n ≤ i + j then nopOf o else o
  | [], _, _ => by simp [blank]
  | o :: l, i, 0 => by simp [blank]
  | o :: l, i, j + 1 => by
    simp only [blank, List.getElem?_cons_succ]
    rw [blank_get n k l (i + 1) j]
    simp only [show i + 1 + j = i + (j + 1) by omega]
theorem blank_len (n k : Nat) : ∀ (l : List Oper) (i : Nat), (blank n k i l).length = l.length
  | [], _ => rfl
  | _ :: l, i => by simp [blank, blank_len n k l (i + 1)]
theorem blank_at (n k : Nat) (l : List Oper) (j : Nat) : (blank n k 0 l).toArray[j]? = (l[j]?).map fun o => if j = k ∨ n ≤ j then nopOf o else o := by
  rw [List.getElem?_toArray, blank_get]; simp
theorem blank_ready (md : Region.Mode) (n k : Nat) (l : List Oper) (listed : Array Bool) : Region.ready md (blank n k 0 l).toArray listed = Region.ready md l.toArray listed := by
  unfold Region.ready
  have hs : (blank n k 0 l).toArray.size = l.toArray.size := by simp [blank_len]
  rw [hs]
  refine List.filter_congr fun i _ => ?_
  rw [blank_at, List.getElem?_toArray]
  cases l[i]? with
  | none => rfl
  | some o => simp only [Option.map_some]; split <;> rfl

/-- A slot that no operation still to come writes holds what it holds at the end. -/
theorem slot_kept {md : Region.Mode} {ops : Array Oper} {C : World → Prop} {z : Act} : ∀ (f : Nat) (listed : Array Bool) (a : Act), wpAnyQ P md ops C (fun a' => a' = z) f listed a →
    a.defers = z.defers ∧ a.tmps.size = z.tmps.size ∧ ∀ t, (∀ j o, ops[j]? = some o → listed.getD j true = false → o.dst ≠ some t) → a.tmps[t]? = z.tmps[t]?
  | 0, _, a, h => by obtain rfl := h.2; exact ⟨rfl, rfl, fun _ _ => rfl⟩
  | f + 1, listed, a, h => by
    cases hr : Region.ready md ops listed with
    | nil => obtain rfl := h.1 hr; exact ⟨rfl, rfl, fun _ _ => rfl⟩
    | cons i rest =>
      have hi : i ∈ Region.ready md ops listed := by rw [hr]; simp
      obtain ⟨hun, o, ho, _⟩ := mem_ready.1 hi
      obtain ⟨v, _, hk⟩ := yieldsIn_of_qOp ho (h.2 i hi)
      obtain ⟨h1, h2, h3⟩ := slot_kept f _ _ hk
      have hd : (a.put o.dst v).defers = a.defers := by cases o.dst <;> rfl
      have hz : (a.put o.dst v).tmps.size = a.tmps.size := by cases o.dst <;> simp [Act.put]
      refine ⟨hd ▸ h1, hz ▸ h2, fun t ht => ?_⟩
      rw [← h3 t fun j oj hj hl => ht j oj hj (by
        by_cases hij : i = j
        · subst hij; exact hun
        · rwa [getD_set_ne true hij] at hl)]
      have hne := ht i o ho hun
      cases hdst : o.dst with
      | none => rfl
      | some t' =>
        have : t' ≠ t := fun e => hne (by rw [hdst, e])
        simp [Act.put, Array.getElem?_setIfInBounds_ne this]
theorem act_ext {a b : Act} (hd : a.defers = b.defers) (ht : ∀ t : Nat, a.tmps[t]? = b.tmps[t]?) : a = b := by
  obtain ⟨x, y⟩ := a
  obtain ⟨x', y'⟩ := b
  obtain rfl : y = y' := hd
  obtain rfl : x = x' := Array.ext_getElem? ht
  rfl

/-- The worlds that lie behind w: more drawn, more blocks. -/
def behind (w w' : World) : Prop := ∃ p : Regrown, w' = Sort.grow (redrawn w p.d) p.os
theorem behind_of {w w' : World} (h : Below w.heap.size w w') : behind w w' := regrown_of_below h
theorem below_of {w w' : World} (h : behind w w') : Below w.heap.size w w' := by
  obtain ⟨p, rfl⟩ := h; exact below_regrown w p.d p.os

/-- The Bools over the region. -/
def newB (n k : Nat) (l : List Oper) : Bool :=
  Region.noSelect l.toArray && Region.noSelect (blank n k 0 l).toArray && Region.lexFrom .any (blank n k 0 l).toArray l.length 0 (Array.replicate l.length false) &&
  decide (k < n) && decide (n < l.length) && Region.sinkB .any l.toArray n && Region.chainB .any l.toArray n &&
  Region.seqB .any l.toArray (l.length - n) n (Array.replicate n true ++ Array.replicate (l.length - n) false) &&
  ((List.range n).all fun j => j == k || match l[k]?, l[j]? with | some x, some y => x.apart l.toArray y | _, _ => false) &&
  ((List.range l.length).all fun j => match l[j]? with | some o => o.after.all fun e => decide (e.on < j) | none => true) &&
  ((List.range n).all fun j => match l[j]? with | some o => (match o.guard with | none => true | some (g, _) => g != k && decide (g < n)) | none => true) &&
  ((List.range n).all fun i => (List.range n).all fun j => i == j || match l[i]?, l[j]? with | some x, some y => (match x.dst with | none => true | some t => y.dst != some t) | _, _ => true)

theorem count_step {listed : Array Bool} {i : Nat} (h : listed.getD i true = false) : listed.toList.count false = (listed.setIfInBounds i true).toList.count false + 1 := by
  have hi : i < listed.size := by
    apply Nat.lt_of_not_le
    intro hge
    simp [Array.getElem?_eq_none hge] at h
  have hv : listed[i] = false := by simpa [hi] using h
  have hm : 0 < listed.toList.count false := List.count_pos_iff.2 (by rw [Array.mem_toList_iff, ← hv]; exact Array.getElem_mem hi)
  rw [Array.toList_setIfInBounds, List.count_set (by simpa using hi)]
  have hv' : listed.toList[i]'(by simpa using hi) = false := by simpa using hv
  rw [hv']
  simp only [beq_self_eq_true, if_true, show (true == false) = false from rfl, Bool.false_eq_true, if_false]
  omega

/-- What the Bools say. -/
structure NewB (n k : Nat) (l : List Oper) (x : Oper) : Prop where
  sel : Region.noSelect l.toArray = true
  kn : k < n
  nl : n < l.toArray.size
  sink : Region.sinkB .any l.toArray n = true
  chain : Region.chainB .any l.toArray n = true
  seq : Region.seqB .any l.toArray (l.length - n) n (Array.replicate n true ++ Array.replicate (l.length - n) false) = true
  apart : ∀ j y, j < n → j ≠ k → l[j]? = some y → x.apart l.toArray y = true
  back : ∀ (j : Nat) (o : Oper), l[j]? = some o → ∀ e ∈ o.after, e.on < j
  guard : ∀ (j : Nat) (o : Oper) g b, j < n → l[j]? = some o → o.guard = some (g, b) → g ≠ k ∧ g < n
  uniq : ∀ (i j : Nat) (x y : Oper) t, i < n → j < n → i ≠ j → l[i]? = some x → l[j]? = some y → x.dst = some t → y.dst ≠ some t
theorem newB_spec {n k : Nat} {l : List Oper} {x : Oper} (hx : l[k]? = some x) (h : newB n k l = true) : NewB n k l x := by
  simp only [newB, Bool.and_eq_true, decide_eq_true_eq, List.all_eq_true, List.mem_range] at h
  obtain ⟨⟨⟨⟨⟨⟨⟨⟨⟨⟨⟨h1, _⟩, _⟩, h4⟩, h5⟩, h6⟩, h7⟩, h8⟩, h9⟩, h10⟩, h11⟩, h12⟩ := h
  refine ⟨h1, h4, by simpa using h5, h6, h7, h8, fun j y hj hne hy => ?_, fun j o ho e he => ?_, fun j o g b hj ho hg => ?_, fun i j x' y t hi hj hne hx' hy ht => ?_⟩
  · have := h9 j hj
    rw [hx, hy] at this
    simpa [hne] using this
  · have := h10 j (List.getElem?_eq_some_iff.1 ho).1
    rw [ho] at this
    exact of_decide_eq_true (Array.all_eq_true_iff_forall_mem.1 this e he)
  · have := h11 j hj
    rw [ho] at this
    simpa [hg] using this
  · have := h12 i hi j hj
    rw [hx', hy] at this
    simpa [hne, ht] using this

theorem ready_some {l : List Oper} {listed : Array Bool} (hback : ∀ (j : Nat) (o : Oper), l[j]? = some o → ∀ e ∈ o.after, e.on < j) (hs : listed.size = l.length) :
    ∀ (i : Nat), i < l.length → listed.getD i true = false → Region.ready .any l.toArray listed ≠ [] := by
  intro i
  induction i using Nat.strongRecOn with
  | _ i ih =>
    intro hi hun h0
    have ho : l[i]? = some l[i] := List.getElem?_eq_getElem hi
    by_cases hall : ∀ e ∈ (l[i]).after, Region.binds .any e = true → listed.getD e.on false = true
    · have : i ∈ Region.ready .any l.toArray listed := mem_ready.2 ⟨hun, l[i], by simp, hall⟩
      rw [h0] at this
      cases this
    · simp only [Classical.not_forall] at hall
      obtain ⟨e, he, _, hl⟩ := hall
      have hlt := hback i _ ho e he
      have hsz : e.on < listed.size := by omega
      exact ih e.on hlt (by omega) (by simp [hsz] at hl ⊢; exact hl) h0

set_option maxHeartbeats 1000000 in
theorem any_new {l : List Oper} {n k : Nat} {d : Tmp} {x : Oper} {obj : Obj} {Q : Exit → Act → World → Prop} {z : Act} {w : World} (hx : l[k]? = some x) (hd : x.dst = some d) (hg : x.guard = none)
    (hz : ∀ a w', (execOp (Act.eval a) x).run P w' = .ok (.value (.pointer (some ⟨w'.heap.size, 0, none⟩))) (w'.alloc obj)) (B : NewB n k l x)
    (hfin : ∀ g w', w.heap.size ≤ g → Below w.heap.size w w' → w'.heap[g]? = some obj → wpList P l.toArray Q (l.drop n) (z.put (some d) (.pointer (some ⟨g, 0, none⟩))) w') :
    ∀ (f : Nat) (listed : Array Bool) (a b : Act) (w1 : World), listed.toList.count false = f → HeadInv .any l.toArray n listed → Below w.heap.size w w1 →
      (∀ W0, Below w.heap.size w W0 → wpAnyQ P .any (blank n k 0 l).toArray (behind W0) (fun a' => a' = z) f listed a) →
      ((listed.getD k true = false ∧ b = a) ∨ (listed.getD k true = true ∧ ∃ g, b = a.put (some d) (.pointer (some ⟨g, 0, none⟩)) ∧ w.heap.size ≤ g ∧ w1.heap[g]? = some obj)) →
      wpAny P .any l.toArray Q f listed b w1 := by
  have hlen : n < l.length := by have := B.nl; simpa using this
  intro f
  induction f with
  | zero =>
    intro listed a b w1 hc inv hb H ph
    have hall : ∀ i, i < l.length → listed.getD i true = true := fun i hi => by
      have hsz : i < listed.toList.length := by have := inv.size; simp at this ⊢; omega
      cases hv : listed.getD i true with
      | true => rfl
      | false =>
        have := count_step hv
        omega
    have h1 := hall n hlen
    have h2 := inv.tail n (Nat.le_refl _) B.nl
    rw [h1] at h2
    cases h2
  | succ f ih =>
    intro listed a b w1 hc inv hb H ph
    by_cases hex : ∃ i, i < n ∧ listed.getD i true = false
    · obtain ⟨i0, hi0, hun0⟩ := hex
      refine ⟨fun h0 => absurd h0 (ready_some B.back (by have := inv.size; simpa using this) i0 (by omega) hun0), fun i hi => ?_⟩
      have hin : i < n := by
        rcases Nat.lt_or_ge i n with h | h
        · exact h
        · exact absurd hi (tail_waits B.sink B.chain B.nl inv _ i0 rfl hi0 hun0 i h)
      obtain ⟨hun, oi, hoi, _⟩ := mem_ready.1 hi
      have hoi' : l[i]? = some oi := by simpa using hoi
      have hi' : i ∈ Region.ready .any (blank n k 0 l).toArray listed := by rw [blank_ready]; exact hi
      have hc' : (listed.setIfInBounds i true).toList.count false = f := by have := count_step hun; omega
      have hisz : i < listed.size := by have := inv.size; simp at this; omega
      by_cases hik : i = k
      · subst hik
        obtain rfl : oi = x := Option.some.inj (hoi'.symm.trans hx)
        obtain rfl : b = a := by
          rcases ph with ⟨_, h⟩ | ⟨h, _⟩
          · exact h
          · rw [hun] at h; cases h
        have hw : Region.wanted oi (yielded l.toArray b.tmps) = true := by unfold Region.wanted; rw [hg]
        unfold wpOp
        simp only [hoi, hw, if_true]
        refine .inl ?_
        unfold Oper.wp
        rw [hz b w1]
        simp only [Oper.upon]
        refine ih _ b _ _ hc' (inv.set hi hin) (hb.alloc hb.size obj) (fun W0 hW0 => ?_) (.inr ⟨by simp [hisz], w1.heap.size, by rw [hd], hb.size, hp_new w1 obj⟩)
        have hq := (H W0 hW0).2 i hi'
        have hon : (blank n i 0 l).toArray[i]? = some (nopOf oi) := by rw [blank_at, hx]; simp
        obtain ⟨v, _, hk⟩ := yieldsIn_of_qOp hon hq
        exact hk
      · have hon : (blank n k 0 l).toArray[i]? = some oi := by rw [blank_at, hoi']; simp [hik]; omega
        have hap := B.apart i oi hin hik hoi'
        obtain ⟨ha1, ha2, ha3⟩ := Oper.apart_spec hap
        have hsi : ∀ cs b, oi.op ≠ .select cs b := fun cs b => Region.noSelect_spec B.sel i oi cs b hoi
        obtain ⟨v, hy, hk⟩ := yieldsIn_of_qOp hon ((H w1 hb).2 i hi')
        -- the operation looks at nothing that the allocation has left
        have heval : execOp b.eval oi = execOp a.eval oi := by
          rcases ph with ⟨_, rfl⟩ | ⟨_, g, rfl, _⟩
          · rfl
          · exact execOp_put (ops := l.toArray) oi hsi a (some d) _ (fun d' hd' => ha1 d' (hd.trans hd'))
        have hwant : Region.wanted oi (yielded l.toArray b.tmps) = Region.wanted oi (yielded (blank n k 0 l).toArray a.tmps) := by
          have h1 : Region.wanted oi (yielded l.toArray b.tmps) = Region.wanted oi (yielded l.toArray a.tmps) := by
            rcases ph with ⟨_, rfl⟩ | ⟨_, g, rfl, _⟩
            · rfl
            · exact wanted_put oi a (some d) _ (fun d' hd' => ha1 d' (hd.trans hd'))
          rw [h1]
          unfold Region.wanted
          cases hgd : oi.guard with
          | none => rfl
          | some gb =>
            obtain ⟨g, gw⟩ := gb
            obtain ⟨hgk, hgn⟩ := B.guard i oi g gw hin hoi' hgd
            have : yielded l.toArray a.tmps g = yielded (blank n k 0 l).toArray a.tmps g := by
              unfold yielded
              rw [blank_at, List.getElem?_toArray]
              cases l[g]? with
              | none => rfl
              | some o => simp only [Option.map_some]; rw [if_neg (by omega)]
            simp only [this]
        -- what follows, behind a world that keeps what there is
        have next : ∀ w2, Below w1.heap.size w1 w2 → wpAny P .any l.toArray Q f (listed.setIfInBounds i true) (b.put oi.dst v) w2 := fun w2 b2 => by
          refine ih _ (a.put oi.dst v) _ _ hc' (inv.set hi hin) (hb.trans (b2.mono hb.size)) (fun W0 hW0 => ?_) ?_
          · obtain ⟨v0, _, hk0⟩ := yieldsIn_of_qOp hon ((H W0 hW0).2 i hi')
            have hva : a.put oi.dst v0 = a.put oi.dst v := by
              cases hdst : oi.dst with
              | none => rfl
              | some t =>
                have hw0 : ∀ j o, (blank n k 0 l).toArray[j]? = some o → (listed.setIfInBounds i true).getD j true = false → o.dst ≠ some t := fun j o hj hl => by
                  rw [blank_at] at hj
                  cases hlj : l[j]? with
                  | none => rw [hlj] at hj; cases hj
                  | some y =>
                    rw [hlj] at hj
                    simp only [Option.map_some, Option.some.injEq] at hj
                    subst hj
                    split
                    · simp [nopOf]
                    · rename_i hnk
                      have hij : i ≠ j := fun e => by
                        subst e
                        simp [hisz] at hl
                      exact B.uniq i j oi y t hin (by omega) hij hoi' hlj hdst
                obtain ⟨_, _, s0⟩ := slot_kept _ _ _ hk0
                obtain ⟨_, _, s1⟩ := slot_kept _ _ _ hk
                have e := (s0 t hw0).trans (s1 t hw0).symm
                rw [hdst] at e
                simp only [Act.put] at e ⊢
                by_cases ht : t < a.tmps.size
                · simp [ht] at e
                  rw [e]
                · simp [Array.setIfInBounds, ht]
            rw [← hva]
            exact hk0
          · rcases ph with ⟨h, rfl⟩ | ⟨h, g, rfl, hg1, hg2⟩
            · exact .inl ⟨by rw [getD_set_ne true hik]; exact h, rfl⟩
            · exact .inr ⟨by rw [getD_set_ne true hik]; exact h, g, (Act.put_comm a _ v (fun d' hd' => ha2 d' (hd.trans hd'))), hg1, hp_below hg2 b2⟩
        unfold wpOp
        simp only [hoi]
        rw [hwant]
        rcases hy with ⟨hw, hq⟩ | ⟨hw, rfl⟩
        · rw [if_pos hw]
          refine .inl ?_
          have h3 := hq w1 (behind_of (Below.refl _ _))
          unfold Oper.quietAt at h3
          unfold Oper.wp
          rw [heval]
          generalize (execOp a.eval oi).run P w1 = r at *
          cases r with
          | ok m w' =>
            cases m <;> simp only [Oper.quietUpon] at h3 <;> simp only [Oper.upon]
            case value u =>
              obtain ⟨e1, e2⟩ := h3
              rw [e1, e2]
              exact next _ (Below.refl _ _)
            case skip =>
              obtain ⟨e1, e2⟩ := h3
              rw [e1, ← e2]
              exact next _ (Below.refl _ _)
            case enter fn args =>
              obtain ⟨e1, hcl⟩ := h3
              rw [e1]
              exact hcl.mono fun e w'' ⟨he, hw''⟩ => by subst he; exact next _ (below_of hw'')
          | halt y w' => simp only [Oper.quietUpon] at h3
        · rw [if_neg (by rw [hw]; exact Bool.false_ne_true)]
          exact next _ (Below.refl _ _)
    · have hall : ∀ i, i < n → listed.getD i true = true := fun i hi => by
        cases hv : listed.getD i true with
        | true => rfl
        | false => exact absurd ⟨i, hi, hv⟩ hex
      have hlst : listed = Array.replicate n true ++ Array.replicate (l.length - n) false := by
        have hsz : listed.size = l.length := by have := inv.size; simpa using this
        apply Array.ext
        · simp [hsz]; omega
        · intro i h1 h2
          rcases Nat.lt_or_ge i n with h | h
          · have := hall i h
            simp [h1] at this
            rw [Array.getElem_append_left (by simpa using h)]
            simpa using this
          · have := inv.tail i h (by simp; omega)
            simp [h1] at this
            rw [Array.getElem_append_right (by simpa using h)]
            simpa using this
      have hf : f + 1 = (l.drop n).length := by
        rw [← hc, hlst]
        simp [List.count_replicate]
      obtain ⟨g, rfl, hg1, hg2⟩ : ∃ g, b = a.put (some d) (.pointer (some ⟨g, 0, none⟩)) ∧ w.heap.size ≤ g ∧ w1.heap[g]? = some obj := by
        rcases ph with ⟨h, _⟩ | ⟨_, h⟩
        · rw [hall k B.kn] at h; cases h
        · exact h
      obtain ⟨s1, _, s3⟩ := slot_kept _ _ _ (H w1 hb)
      obtain rfl : a = z := act_ext s1 fun t => s3 t fun j o hj hl => by
        rw [blank_at] at hj
        cases hlj : l[j]? with
        | none => rw [hlj] at hj; cases hj
        | some y =>
          rw [hlj] at hj
          simp only [Option.map_some, Option.some.injEq] at hj
          subst hj
          have hjn : n ≤ j := by
            rcases Nat.lt_or_ge j n with h | h
            · rw [hall j h] at hl; cases hl
            · exact h
          rw [if_pos (.inr hjn)]
          simp [nopOf]
      rw [hf]
      refine wpAny_of_seq (l.drop n) n listed _ w1 (fun j => by simp [List.getElem?_drop]) ?_ (hfin g w1 hg1 hb hg2)
      have := B.seq
      rw [hlst]
      simpa using this

/-- ONE WALK OF THE ORDER OF THE TEXT, the allocation's address unknown: what stands behind the region is asked in every world that keeps what there was and holds the new block. -/
theorem region_new {id : Nat} {l : List Oper} {Q : Exit → Act → World → Prop} {a : Act} {w : World} (n k : Nat) {d : Tmp} {x : Oper} {obj : Obj} (hm : P.follows .mixedOrders = true) (hB : newB n k l = true) (hx : l[k]? = some x) (hd : x.dst = some d) (hg : x.guard = none)
    (hz : ∀ a w', (execOp (Act.eval a) x).run P w' = .ok (.value (.pointer (some ⟨w'.heap.size, 0, none⟩))) (w'.alloc obj))
    (hh : ∃ z : Act, (∀ W0, Below w.heap.size w W0 → wpQuiet P (blank n k 0 l).toArray (fun w' => ∃ p : Regrown, w' = Sort.grow (redrawn W0 p.d) p.os) (fun a' => a' = z) (blank n k 0 l) a) ∧
      ∀ g w', w.heap.size ≤ g → Below w.heap.size w w' → w'.heap[g]? = some obj → wpList P l.toArray Q (l.drop n) (z.put (some d) (.pointer (some ⟨g, 0, none⟩))) w') : (Code.region id l.toArray true).wp P Q a w := by
  obtain ⟨z, h, hfin⟩ := hh
  have B := newB_spec hx hB
  simp only [newB, Bool.and_eq_true] at hB
  obtain ⟨⟨⟨⟨⟨⟨⟨⟨⟨⟨⟨_, hsel⟩, hlex⟩, _⟩, _⟩, _⟩, _⟩, _⟩, _⟩, _⟩, _⟩, _⟩ := hB
  have hlen : n < l.length := by have := B.nl; simpa using this
  have hkn := B.kn
  refine wp_region_any hm ?_
  refine any_new hx hd hg hz B hfin _ _ a a _ (by simp) ⟨by simp, fun j oj _ hl => (by rw [getD_replicate_false] at hl; cases hl), fun t _ ht => by simp at ht; simp [ht]⟩ (Below.refl w.heap.size w).drew (fun W0 hW0 => ?_) (.inl ⟨getD_in (by simp; omega) (getD_replicate_false _ _), rfl⟩)
  have := wpAnyQ_lex (P := P) (C := behind W0) (md := .any) (Q := fun a' => a' = z) hsel (blank n k 0 l) 0 (Array.replicate l.length false) a (by simp) (by rw [blank_len]; exact hlex) (h W0 hW0)
  rw [blank_len] at this
  simpa using this
end
end Go.Proofs.Ytnncdpkmhpjmbaa
end

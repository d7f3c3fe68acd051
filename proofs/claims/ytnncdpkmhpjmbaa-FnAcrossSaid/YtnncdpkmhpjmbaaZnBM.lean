import Derived.Test.YtnncdpkmhpjmbaaZnBL
section
namespace Go.Proofs.Ytnncdpkmhpjmbaa
open Go.ChangeShapes Go.WideShapes Go.ChangeAt Go.RowKit

section
variable {P : Program}
/-- The Bools over the region: n is where its tail begins. -/
def qtB (n : Nat) (l : List Oper) : Bool :=
  Region.noSelect l.toArray && Region.noSelect (blank n n 0 l).toArray && Region.lexFrom .any (blank n n 0 l).toArray l.length 0 (Array.replicate l.length false) &&
  decide (n < l.length) && Region.sinkB .any l.toArray n && Region.chainB .any l.toArray n &&
  Region.seqB .any l.toArray (l.length - n) n (Array.replicate n true ++ Array.replicate (l.length - n) false) &&
  ((List.range l.length).all fun j => match l[j]? with | some o => o.after.all fun e => decide (e.on < j) | none => true) &&
  ((List.range n).all fun j => match l[j]? with | some o => (match o.guard with | none => true | some (g, _) => decide (g < n)) | none => true)
structure QtB (n : Nat) (l : List Oper) : Prop where
  nl : n < l.toArray.size
  sink : Region.sinkB .any l.toArray n = true
  chain : Region.chainB .any l.toArray n = true
  seq : Region.seqB .any l.toArray (l.length - n) n (Array.replicate n true ++ Array.replicate (l.length - n) false) = true
  back : ∀ (j : Nat) (o : Oper), l[j]? = some o → ∀ e ∈ o.after, e.on < j
  guard : ∀ (j : Nat) (o : Oper) g b, j < n → l[j]? = some o → o.guard = some (g, b) → g < n
theorem qtB_spec {n : Nat} {l : List Oper} (h : qtB n l = true) : QtB n l := by
  simp only [qtB, Bool.and_eq_true, decide_eq_true_eq, List.all_eq_true, List.mem_range] at h
  obtain ⟨⟨⟨⟨⟨⟨⟨⟨_, _⟩, _⟩, h5⟩, h6⟩, h7⟩, h8⟩, h10⟩, h11⟩ := h
  refine ⟨by simpa using h5, h6, h7, h8, fun j o ho e he => ?_, fun j o g b hj ho hg => ?_⟩
  · have := h10 j (List.getElem?_eq_some_iff.1 ho).1
    rw [ho] at this
    exact of_decide_eq_true (Array.all_eq_true_iff_forall_mem.1 this e he)
  · have := h11 j hj
    rw [ho] at this
    simpa [hg] using this
/-- Where nothing is left but what does nothing, the walk is at its end. -/
theorem rest_nops {md : Region.Mode} {ops : Array Oper} {C : World → Prop} {Q : Act → Prop} : ∀ (f : Nat) (listed : Array Bool) (a : Act), (∀ (j : Nat) (o : Oper), ops[j]? = some o → listed.getD j true = false → ∃ o', o = nopOf o') → wpAnyQ P md ops C Q f listed a → Q a
  | 0, _, _, _, h => h.2
  | f + 1, listed, a, hn, h => by
    cases hr : Region.ready md ops listed with
    | nil => exact h.1 hr
    | cons i rest =>
      have hi : i ∈ Region.ready md ops listed := by rw [hr]; simp
      obtain ⟨hun, o, ho, _⟩ := mem_ready.1 hi
      obtain ⟨o', rfl⟩ := hn i o ho hun
      obtain ⟨v, _, hk⟩ := yieldsIn_of_qOp ho (h.2 i hi)
      have := rest_nops f _ _ (fun j oj hj hl => hn j oj hj (by
        by_cases hij : i = j
        · subst hij; exact hun
        · rwa [getD_set_ne true hij] at hl)) hk
      exact this
theorem any_qtail {l : List Oper} {n : Nat} {C : World → Prop} {Q : Exit → Act → World → Prop} (B : QtB n l) :
    ∀ (f : Nat) (listed : Array Bool) (a : Act) (w1 : World), listed.toList.count false = f → HeadInv .any l.toArray n listed → C w1 →
      wpAnyQ P .any (blank n n 0 l).toArray C (fun a' => ∀ w', C w' → wpList P l.toArray Q (l.drop n) a' w') f listed a →
      wpAny P .any l.toArray Q f listed a w1 := by
  have hlen : n < l.length := by have := B.nl; simpa using this
  intro f
  induction f with
  | zero =>
    intro listed a w1 hc inv hb H
    have h1 : listed.getD n true = true := by
      have hsz : n < listed.toList.length := by have := inv.size; simp at this ⊢; omega
      cases hv : listed.getD n true with
      | true => rfl
      | false =>
        have := count_step hv
        omega
    have h2 := inv.tail n (Nat.le_refl _) B.nl
    rw [h1] at h2
    cases h2
  | succ f ih =>
    intro listed a w1 hc inv hb H
    by_cases hex : ∃ i, i < n ∧ listed.getD i true = false
    · obtain ⟨i0, hi0, hun0⟩ := hex
      refine ⟨fun h0 => absurd h0 (ready_some B.back (by have := inv.size; simpa using this) i0 (by omega) hun0), fun i hi => ?_⟩
      have hin : i < n := by
        rcases Nat.lt_or_ge i n with h | h
        · exact h
        · exact absurd hi (tail_waits B.sink B.chain B.nl inv _ i0 rfl hi0 hun0 i h)
      obtain ⟨hun, oi, hoi, _⟩ := mem_ready.1 hi
      have hoi' : l[i]? = some oi := by simpa using hoi
      have hi' : i ∈ Region.ready .any (blank n n 0 l).toArray listed := by rw [blank_ready]; exact hi
      have hc' : (listed.setIfInBounds i true).toList.count false = f := by have := count_step hun; omega
      have hon : (blank n n 0 l).toArray[i]? = some oi := by rw [blank_at, hoi']; simp; omega
      have hwant : Region.wanted oi (yielded l.toArray a.tmps) = Region.wanted oi (yielded (blank n n 0 l).toArray a.tmps) := by
        unfold Region.wanted
        cases hgd : oi.guard with
        | none => rfl
        | some gb =>
          obtain ⟨g, gw⟩ := gb
          have hgn := B.guard i oi g gw hin hoi' hgd
          have : yielded l.toArray a.tmps g = yielded (blank n n 0 l).toArray a.tmps g := by
            unfold yielded
            rw [blank_at, List.getElem?_toArray]
            cases l[g]? with
            | none => rfl
            | some o => simp only [Option.map_some]; rw [if_neg (by omega)]
          simp only [this]
      have hq := H.2 i hi'
      have hq' : qOp P l.toArray C i (wpAnyQ P .any (blank n n 0 l).toArray C (fun a' => ∀ w', C w' → wpList P l.toArray Q (l.drop n) a' w') f (listed.setIfInBounds i true)) a := by
        unfold qOp at hq ⊢
        rw [hon] at hq
        rw [hoi]
        simp only at hq ⊢
        rw [hwant]
        exact hq
      exact wpOp_of_qOp hb (fun a' w' hw' hk => ih _ a' w' hc' (inv.set hi hin) hw' hk) hq'
    · have hall : ∀ i, i < n → listed.getD i true = true := fun i hi => by
        cases hv : listed.getD i true with
        | true => rfl
        | false => exact absurd ⟨i, hi, hv⟩ hex
      have hlst : listed = Array.replicate n true ++ Array.replicate (l.length - n) false := by
        have hsz : listed.size = l.length := by have := inv.size; simpa using this
        apply Array.ext
        · simp [hsz]; omega
        · intro i h1 h2
          rcases Nat.lt_or_ge i n with h | h
          · have := hall i h
            simp [h1] at this
            rw [Array.getElem_append_left (by simpa using h)]
            simpa using this
          · have := inv.tail i h (by simp; omega)
            simp [h1] at this
            rw [Array.getElem_append_right (by simpa using h)]
            simpa using this
      have hf : f + 1 = (l.drop n).length := by
        rw [← hc, hlst]
        simp [List.count_replicate]
      have hfin := rest_nops _ _ _ (fun j o hj hl => by
        rw [blank_at] at hj
        cases hlj : l[j]? with
        | none => rw [hlj] at hj; cases hj
        | some y =>
          rw [hlj] at hj
          simp only [Option.map_some, Option.some.injEq] at hj
          subst hj
          have hjn : n ≤ j := by
            rcases Nat.lt_or_ge j n with h | h
            · rw [hall j h] at hl; cases hl
            · exact h
          rw [if_pos (.inr hjn)]
          exact ⟨y, rfl⟩) H
      rw [hf]
      refine wpAny_of_seq (l.drop n) n listed _ w1 (fun j => by simp [List.getElem?_drop]) ?_ (hfin w1 hb)
      have := B.seq
      rw [hlst]
      simpa using this
/-- ONE WALK OF THE ORDER OF THE TEXT, then the tail, in every world that keeps what there was. -/
theorem region_qtail {id : Nat} {l : List Oper} {Q : Exit → Act → World → Prop} {a : Act} {w : World} (n : Nat) (hm : P.follows .mixedOrders = true) (hB : qtB n l = true)
    (h : wpQuiet P (blank n n 0 l).toArray (fun w' => ∃ p : Regrown, w' = Sort.grow (redrawn w p.d) p.os) (fun a' => ∀ w', (∃ p : Regrown, w' = Sort.grow (redrawn w p.d) p.os) → wpList P l.toArray Q (l.drop n) a' w') (blank n n 0 l) a) : (Code.region id l.toArray true).wp P Q a w := by
  have B := qtB_spec hB
  simp only [qtB, Bool.and_eq_true] at hB
  obtain ⟨⟨⟨⟨⟨⟨⟨⟨_, hsel⟩, hlex⟩, _⟩, _⟩, _⟩, _⟩, _⟩, _⟩ := hB
  have hlen : n < l.length := by have := B.nl; simpa using this
  refine wp_region_any hm ?_
  refine any_qtail (C := behind w) B _ _ a _ (by simp) ⟨by simp, fun j oj _ hl => (by rw [getD_replicate_false] at hl; cases hl), fun t _ ht => by simp at ht; simp [ht]⟩ (behind_of (Below.refl w.heap.size w).drew) ?_
  have := wpAnyQ_lex (P := P) (C := behind w) (md := .any) hsel (blank n n 0 l) 0 (Array.replicate l.length false) a (by simp) (by rw [blank_len]; exact hlex) (Q := fun a' => ∀ w', behind w w' → wpList P l.toArray Q (l.drop n) a' w') h
  rw [blank_len] at this
  simpa only [List.size_toArray] using this
end
end Go.Proofs.Ytnncdpkmhpjmbaa
end

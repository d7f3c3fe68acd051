import Derived.Test.YtckpjldenkjddaaZtBR
section
namespace Go.Proofs.Ytckpjldenkjddaa
open Go.ChangeShapes Go.WideShapes Go.ChangeAt Go.RowKit
set_option linter.unusedVariables false
set_option linter.unusedSimpArgs false
set_option maxRecDepth 8000

/-- One node of a row changed, its children in the old block or in a new one. -/
theorem OwnN.regrow {lo g cap i : Nat} {ms : List ND} {m m' : ND} {w w' : World} (h : OwnN lo (.slice (some ⟨g, 0, none⟩) ms.length cap) ms w) (hi : ms[i]? = some m)
    (hcf : m'.comp false = m.comp false) (hct : ∀ b, m'.comp true = some b → m.comp true = some b ∨ w.heap.size ≤ b)
    (hrow : w'.ownsRow lo 61 64 (.slice (some ⟨g, 0, none⟩) ms.length cap) ms.length (cellsN (ms.set i m'))) (hm : m'.own lo w')
    (hfr : ∀ k, k < w.heap.size → k ≠ g → m.comp true ≠ some k → w'.heap[k]? = w.heap[k]?) :
    OwnN lo (.slice (some ⟨g, 0, none⟩) ms.length cap) (ms.set i m') w' := by
  have hil := (List.getElem?_eq_some_iff.1 hi).1
  have hgl := (World.ownsRow.lt h.1 g rfl).2
  have rowK : ∀ {e : TypeId} {size n : Nat} {x : Value} {xs : List Value}, w.ownsRow lo e size x n xs → (∀ b, x.ownBlock = some b → b ≠ g ∧ m.comp true ≠ some b) → w'.ownsRow lo e size x n xs := by
    intro e size n x xs hr hne
    refine ⟨hr.1, ?_⟩
    rcases hr.2 with hn | ⟨g', cap', cur, rfl, hb, hg', rest⟩
    · exact .inl hn
    · obtain ⟨a1, a2⟩ := hne g' rfl
      exact .inr ⟨g', cap', cur, rfl, hb, (hfr g' (Array.getElem?_eq_some_iff.1 hg').1 a1 a2).trans hg', rest⟩
  have ownK : ∀ q : ND, q.own lo w → (∀ s b, q.comp s = some b → b ≠ g ∧ m.comp true ≠ some b) → q.own lo w' := by
    intro q ⟨h1, ⟨a, c, e, hk⟩, ⟨a', c', e', ht⟩⟩ hne
    refine ⟨h1, ⟨a, c, e, ?_⟩, ⟨a', c', e', ?_⟩⟩
    · by_cases h0 : q.n.kids = []
      · exact Or.inl h0
      · exact Or.inr (rowK (hk.resolve_left h0) fun b hb => hne true b (by
          unfold ND.comp blk
          rw [if_pos rfl, if_neg (by simpa using h0)]; exact hb))
    · by_cases h0 : q.n.rl = 0
      · exact Or.inl h0
      · exact Or.inr (rowK (ht.resolve_left h0) fun b hb => hne false b (by
          unfold ND.comp blk
          rw [if_neg (by decide), if_neg h0]; exact hb))
  have hmg := (h.2.1 m (List.mem_of_getElem? hi)).2
  refine ⟨by rw [List.length_set]; exact hrow, fun q hq => ?_, fun a b ma mb s t x ha hb hs ht => ?_⟩
  · obtain ⟨j, hj⟩ := List.mem_iff_getElem?.1 hq
    by_cases e : j = i
    · subst e
      rw [List.getElem?_set_self hil] at hj
      cases hj
      refine ⟨hm, fun s b hb => ?_⟩
      cases s with
      | false => rw [hcf] at hb; exact hmg false b hb
      | true =>
        rcases hct b hb with h1 | h1
        · exact hmg true b h1
        · intro e; simp [Value.ownBlock] at e; omega
    · rw [List.getElem?_set_ne (fun h => e h.symm)] at hj
      have hq' := h.2.1 q (List.mem_of_getElem? hj)
      exact ⟨ownK q hq'.1 fun s b hb => ⟨fun e' => hq'.2 s b hb (by rw [e']; rfl), fun e' => e (h.2.2 j i q m s true b hj hi hb e').1⟩, hq'.2⟩
  · have get : ∀ (a : Nat) (ma : ND) (s : Bool), (ms.set i m')[a]? = some ma → ma.comp s = some x → (∃ ma' : ND, ms[a]? = some ma' ∧ ma'.comp s = some x) ∨ (a = i ∧ s = true ∧ w.heap.size ≤ x) := fun a ma s ha hs => by
      by_cases e : a = i
      · subst e
        rw [List.getElem?_set_self hil] at ha
        cases ha
        cases s with
        | false => exact Or.inl ⟨m, hi, by rw [← hcf]; exact hs⟩
        | true =>
          rcases hct x hs with h1 | h1
          · exact Or.inl ⟨m, hi, h1⟩
          · exact Or.inr ⟨rfl, rfl, h1⟩
      · rw [List.getElem?_set_ne (fun h => e h.symm)] at ha
        exact Or.inl ⟨ma, ha, hs⟩
    rcases get a ma s ha hs with ⟨ma', h1, h2⟩ | ⟨h1, h2, h3⟩
    · rcases get b mb t hb ht with ⟨mb', h4, h5⟩ | ⟨h4, h5, h6⟩
      · exact h.2.2 a b ma' mb' s t x h1 h4 h2 h5
      · have := ((h.2.1 ma' (List.mem_of_getElem? h1)).1.lt s x h2).2
        omega
    · rcases get b mb t hb ht with ⟨mb', h4, h5⟩ | ⟨h4, h5, h6⟩
      · have := ((h.2.1 mb' (List.mem_of_getElem? h4)).1.lt t x h5).2
        omega
      · exact ⟨by omega, by rw [h2, h5]⟩
/-- An int appended to a node's children: in their block if there is one, or anew. -/
theorem wp_append_kid {o : Oper} {a : Act} {w : World} {K : Act → World → Prop} {Q : Exit → Act → World → Prop} (s x : Operand)
    (ho : o.op = .call { callee := .builtin .append, args := #[s, x], argTypes := #[59, 59] })
    (lo : Nat) (ka : Option Addr) (kc : Nat) (ks : List Int) (hs : a.eval s = .slice ka ks.length kc) (hk : ks = [] ∨ RowI lo (.slice ka ks.length kc) ks w) (hz : ks = [] → kc = 0)
    (ad : Addr) (c : Nat) (z : Int) (hx : a.eval x = .slice (some ad) 1 c) (hnews : ∀ j u, [Value.int .i64 z][j]? = some u → w.cell? (ad.add j) = some u) (hlen : ks.length ≤ 1048576) (hlo : lo ≤ w.heap.size)
    (h : ∀ v' w', RowI lo v' (ks ++ [z]) w' → w.grownBy w' (blk (.slice ka ks.length kc) ks.length) → (∀ q, v'.ownBlock = some q → blk (.slice ka ks.length kc) ks.length = some q ∨ w.heap.size ≤ q) → K (a.put o.dst v') w') : o.wp Try.prog a w K Q := by
  obtain ⟨i0, hi, hz0, hz1, hz2⟩ := info_parts info_intC
  have h1 : ∀ u ∈ [Value.int .i64 z], u.oneCell' = true := fun u hu => by simp at hu; subst hu; rfl
  by_cases h0 : ks = []
  · subst h0
    obtain rfl := hz rfl
    have hb : blk (.slice ka ([] : List Int).length 0) ([] : List Int).length = none := rfl
    rw [hb] at h
    cases ka with
    | none =>
      refine wp_append_any s x 59 ho lo 3 i0 (.int .i64 0) 1 8 Try.underlying59 hi hz0 hz1 hz2 rfl (by decide) (.slice none 0 0) 0 [] hs (World.ownsRow_nil _ _ _ _) (some ad) 1 c [.int .i64 z] hx rfl (Or.inr ⟨ad, rfl, hnews⟩) h1 (by unfold maxLen; omega) (by omega) hlo ?_
      intro v' w' r1 r2 r3
      refine h v' w' (by unfold RowI; simpa using r1) r2 (fun q hq => Or.inr ?_)
      rcases r3 with e | e
      · rw [hq] at e; simp [Value.ownBlock] at e
      · rw [hq] at e; simp at e; omega
    | some b =>
      obtain ⟨v', w', hrun, r1, r2⟩ := run_append_arg_grows (P := Try.prog) w 59 o.type 3 i0 (.int .i64 0) 1 8 Try.underlying59 hi hz0 hz1 hz2 rfl (by decide) b 0 0 [] rfl (fun j u hu => by simp at hu) ad 1 c [.int .i64 z] rfl hnews (by omega) (by unfold maxLen; omega) (by omega)
      unfold Oper.wp execOp
      simp only [ho, resolve, invoke, builtin, Sem.run_bind, Sem.run_pure, Result.andThen_ok, List.map_toArray, List.map_cons, List.map_nil, hs, hx, List.length_nil, hrun]
      exact h v' w' (ownsRow_lower (by unfold RowI at *; simpa using r1) hlo) r2 (fun q hq => Or.inr (World.ownsRow.lt r1 q hq).1)
  · have hr := hk.resolve_left h0
    have hb : blk (.slice ka ks.length kc) ks.length = (Value.slice ka ks.length kc).ownBlock := by unfold blk; rw [if_neg (by simpa using h0)]
    rw [hb] at h
    refine wp_append_any s x 59 ho lo 3 i0 (.int .i64 0) 1 8 Try.underlying59 hi hz0 hz1 hz2 rfl (by decide) (.slice ka ks.length kc) ks.length (ks.map (Value.int .i64)) hs hr (some ad) 1 c [.int .i64 z] hx rfl (Or.inr ⟨ad, rfl, hnews⟩) h1 (by unfold maxLen; omega) (by omega) hlo ?_
    intro v' w' r1 r2 r3
    refine h v' w' (by unfold RowI; simpa using r1) r2 (fun q hq => ?_)
    rcases r3 with e | e
    · exact Or.inl (by rw [← e]; exact hq)
    · rw [hq] at e; simp at e; exact Or.inr (by omega)
section
variable {w wr w' : World} {cb gt : Nat} {a : Option Addr} {len cap : Nat} {ms : List ND} {v : Value}
/-- A child appended and stored. -/
theorem TA.kid {g vc k : Nat} {z : Int} {v' : Value} {wa : World} (hz : I64 z) (h : TA w cb a len cap gt ms (.slice (some ⟨g, 0, none⟩) ms.length vc) wr) (W : TDw w cb a len) (hk : k < ms.length)
    (hr : RowI (w.heap.size + 1) v' (ms[k].n.kids ++ [z]) wa) (hg : wr.grownBy wa (ms[k].comp true)) (hb : ∀ q, v'.ownBlock = some q → ms[k].comp true = some q ∨ wr.heap.size ≤ q) (e : w' = wa.setCell ⟨g, k * 64 + 1, none⟩ v') :
    TA w cb a len cap gt (ms.set k (ms[k].kidd (ms[k].n.kids ++ [z]) v')) (.slice (some ⟨g, 0, none⟩) (ms.set k (ms[k].kidd (ms[k].n.kids ++ [z]) v')).length vc) w' := by
  have hmi := List.getElem?_eq_getElem hk
  have hmm := List.getElem_mem hk
  have hown := h.own.2.1 ms[k] hmm
  have hgb := World.ownsRow.lt h.own.1 g rfl
  have hgne : g ≠ gt := fun e => h.apv (by rw [e]; rfl)
  have hcl := fun s b hb => hown.1.lt s b hb
  have hgtl := hp_lt h.here
  have hga : wa.heap.size = wa.heap.size := rfl
  have hgc : ∀ q, ms[k].comp true = some q → q ≠ g := fun q hq e => hown.2 true q hq (by rw [e]; rfl)
  have hvg : ∀ q, v'.ownBlock = some q → q ≠ g := fun q hq => by
    rcases hb q hq with h1 | h1
    · exact hgc q h1
    · omega
  have hcomp : (ms[k].kidd (ms[k].n.kids ++ [z]) v').comp true = v'.ownBlock := by
    unfold ND.comp blk ND.kidd
    rw [if_pos rfl, if_neg (by simp)]
  have hrow0 := World.ownsRow.kept h.own.1 hg (Or.inr (fun e => by
    rw [show (Value.slice (some (⟨g, 0, none⟩ : Addr)) ms.length vc).ownBlock = some g from rfl] at e
    exact hgc g e.symm rfl))
  have hrow1 := (World.ownsRow.stored hrow0 (k * 64 + 1) v').1
  rw [cellsN_kidd ms hmi (ms[k].n.kids ++ [z]) v', ← e] at hrow1
  have hG1 : wa.grownBy w' (some g) := by rw [e]; exact gr_set (World.grownBy.refl wa _)
  have hr' : RowI (w.heap.size + 1) v' (ms[k].n.kids ++ [z]) w' := hr.kept hG1 (by
    cases hv : v'.ownBlock with
    | none => exact Or.inl rfl
    | some q => exact Or.inr fun e => hvg q hv (by simpa using e))
  obtain ⟨va', vc', ev⟩ := own_form hr'
  have hT : TRow (w.heap.size + 1) ms[k].tv ms[k].n.rl ms[k].n.rules w' := by
    obtain ⟨a1, c1, e1, ht⟩ := hown.1.2.2
    refine ⟨a1, c1, e1, ?_⟩
    by_cases h0 : ms[k].n.rl = 0
    · exact Or.inl h0
    · have hcf : ms[k].comp false = ms[k].tv.ownBlock := by unfold ND.comp blk; rw [if_neg (by decide), if_neg h0]
      refine Or.inr ((World.ownsRow.kept (World.ownsRow.kept (ht.resolve_left h0) hg ?_) hG1 ?_))
      · cases hq : ms[k].tv.ownBlock with
        | none => exact Or.inl rfl
        | some q => exact Or.inr fun e => by have := (h.own.2.2 k k _ _ false true q hmi hmi (by rw [hcf]; exact hq) e.symm).2; cases this
      · cases hq : ms[k].tv.ownBlock with
        | none => exact Or.inl rfl
        | some q => exact Or.inr fun e => hown.2 false q (by rw [hcf]; exact hq) (by rw [show q = g by simpa using e]; rfl)
  have hM : (ms[k].kidd (ms[k].n.kids ++ [z]) v').own (w.heap.size + 1) w' :=
    ⟨⟨hown.1.1.1, fun y hy => by
      rcases List.mem_append.1 hy with hy | hy
      · exact hown.1.1.2.1 y hy
      · simp at hy; subst hy; exact hz, hown.1.1.2.2.1, hown.1.1.2.2.2.1, hown.1.1.2.2.2.2⟩, ⟨va', vc', ev, Or.inr hr'⟩, hT⟩
  have hfr : ∀ q, q < wr.heap.size → q ≠ g → ms[k].comp true ≠ some q → w'.heap[q]? = wr.heap[q]? := fun q h1 h2 h3 =>
    (hG1.block q (Nat.lt_of_lt_of_le h1 hg.size) (fun e => h2 (by simpa using e))).trans (hg.block q h1 (fun e => h3 e.symm))
  have hO := h.own.regrow (m' := ms[k].kidd (ms[k].n.kids ++ [z]) v') hmi rfl (fun b hq => by rw [hcomp] at hq; exact hb b hq) hrow1 hM hfr
  have hlen : (ms.set k (ms[k].kidd (ms[k].n.kids ++ [z]) v')).length = ms.length := List.length_set
  rw [hlen]
  refine ⟨(hfr gt hgtl (Ne.symm hgne) (h.apc _ hmm true)).trans h.here, h.gtl, (hfr _ (by have := hp_lt h.res; omega) (by omega) (fun e => by have := (hcl true _ e).1; omega)).trans h.res, ?_, ?_, hO, h.apv, comp_set h.apc (fun s => ?_)⟩
  · refine (h.cur.kept (h.lt W) hg (fun q hq => ?_)).kept (Nat.lt_of_lt_of_le (h.lt W) hg.size) hG1 (fun q hq => ?_)
    · have := (hcl true q hq).1
      exact ⟨by have := W.ltc; omega, fun h0 b off e => by have := W.code h0 b off e; omega⟩
    · simp at hq
      subst hq
      exact ⟨by have := W.ltc; omega, fun h0 b off e => by have := W.code h0 b off e; omega⟩
  · refine ⟨hG1.os.trans (hg.os.trans h.gro.os), hG1.tape.trans (hg.tape.trans h.gro.tape), hG1.output.trans (hg.output.trans h.gro.output), Nat.le_trans h.gro.size (Nat.le_trans hg.size hG1.size), fun q hq hne => ?_⟩
    exact (hfr q (Nat.lt_of_lt_of_le hq h.gro.size) (by omega) (fun e => by have := (hcl true q e).1; omega)).trans (h.gro.block q hq hne)
  · cases s with
    | true =>
      rw [hcomp]
      intro hq
      rcases hb gt hq with h1 | h1
      · exact h.apc _ hmm true h1
      · omega
    | false => exact h.apc _ hmm false
end
end Go.Proofs.Ytckpjldenkjddaa
end

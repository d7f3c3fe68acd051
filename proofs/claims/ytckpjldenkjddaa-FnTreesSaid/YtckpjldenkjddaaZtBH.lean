import Derived.BigRegion
import Derived.RegionTactic
import Derived.Test.YtckpjldenkjddaaZtBB
section
namespace Go.Proofs.Ytckpjldenkjddaa
open Go.ChangeShapes Go.WideShapes Go.ChangeAt Go.RowKit
set_option linter.unusedVariables false
set_option linter.unusedSimpArgs false
set_option maxRecDepth 8000

def newN (f : Nat → Int) : PN := ⟨0, [], f, false, 0, []⟩
def adB (ns : List PN) (f : Nat → Int) : Bool := treeB ns && styOk f && decide (ns.length < 12)
def adN (ns : List PN) (f : Nat → Int) : List PN := if adB ns f = true then ns ++ [newN f] else ns
def adC (ns : List PN) (f : Nat → Int) : Int := if adB ns f = true then (ns.length : Int) + 1 else 0

theorem OwnN.off {lo : Nat} {v : Value} {ms : List ND} {w w' : World} {g : Nat} (h : OwnN lo v ms w) (hg : w.grownBy w' (some g)) (hv : v.ownBlock ≠ some g) (hc : ∀ m ∈ ms, ∀ s, m.comp s ≠ some g) : OwnN lo v ms w' := by
  have rowK : ∀ {e : TypeId} {size n : Nat} {x : Value} {xs : List Value}, w.ownsRow lo e size x n xs → x.ownBlock ≠ some g → w'.ownsRow lo e size x n xs := by
    intro e size n x xs hr hne
    refine World.ownsRow.kept hr hg ?_
    cases hx : x.ownBlock with
    | none => exact Or.inl rfl
    | some b => exact Or.inr fun e => hne (by rw [hx]; exact e)
  refine ⟨rowK h.1 hv, fun q hq => ⟨?_, (h.2.1 q hq).2⟩, h.2.2⟩
  obtain ⟨h1, ⟨a, c, e, hk⟩, ⟨a', c', e', ht⟩⟩ := (h.2.1 q hq).1
  refine ⟨h1, ⟨a, c, e, ?_⟩, ⟨a', c', e', ?_⟩⟩
  · by_cases h0 : q.n.kids = []
    · exact Or.inl h0
    · exact Or.inr (rowK (hk.resolve_left h0) fun hb => hc q hq true (by unfold ND.comp blk; rw [if_pos rfl, if_neg (by simpa using h0)]; exact hb))
  · by_cases h0 : q.n.rl = 0
    · exact Or.inl h0
    · exact Or.inr (rowK (ht.resolve_left h0) fun hb => hc q hq false (by unfold ND.comp blk; rw [if_neg (by decide), if_neg h0]; exact hb))
def newM (f : Nat → Int) : ND := ⟨newN f, .slice none 0 0, .slice none 0 0⟩
theorem newM_comp (f : Nat → Int) (s : Bool) : (newM f).comp s = none := by cases s <;> rfl
theorem newM_own {f : Nat → Int} (hf : InR f) (lo : Nat) (w : World) : (newM f).own lo w :=
  ⟨⟨show I64 0 from ⟨by decide, by decide⟩, show AllI [] from by unfold AllI; simp, hf, show AllI [] from by unfold AllI; simp, rfl⟩, ⟨none, 0, rfl, Or.inl rfl⟩, ⟨none, 0, rfl, Or.inl rfl⟩⟩
/-- What stands when the new node has been appended to the copy. -/
theorem SF.push {w u : World} {s3 : Value} {f : Nat → Int} {X : Nat} {ms : List ND} {w4 w9 w10 : World} {av : Option Addr} {cv : Nat} {v' : Value} (S : SF w u s3 f X (.slice av ms.length cv) ms w4) (hf : InR f) (hcX : ∀ m ∈ ms, ∀ s b, m.comp s = some b → b < X) (hX4 : X < w4.heap.size)
    (hown : w9.ownsRow u.heap.size 61 64 v' (ms.length + 1) (cellsN ms ++ (newM f).cells)) (hg : w4.grownBy w9 (Value.slice av ms.length cv).ownBlock) (hat : v'.ownBlock = (Value.slice av ms.length cv).ownBlock ∨ v'.ownBlock = some w4.heap.size) (e : w10 = w9.setCell ⟨X, 0, none⟩ v') :
    w9.heap[X]? = some (.cells #[.slice av ms.length cv] 26) ∧ w10.heap[X]? = some (.cells #[v'] 26) ∧ w10.heap[w.heap.size + 1 + 1]? = some (.cells #[.slice none 0 0] 26) ∧ OwnN u.heap.size v' (ms ++ [newM f]) w10 ∧ Below w.heap.size w w10 := by
  have hu := S.hu
  have hlo : ∀ b, (Value.slice av ms.length cv).ownBlock = some b → u.heap.size ≤ b := fun b hb => (S.ho.1.lt b hb).1
  have h89 := cp_grown S.h8 hg (fun e => by have := S.hg X e.symm; omega)
  have h69 := cp_grown S.h6 hg (fun e => by have := hlo _ e.symm; omega)
  have ho := S.ho.push (newM_own hf u.heap.size w4) (fun s b h => by rw [newM_comp] at h; cases h) (fun b h => by rw [newM_comp] at h; cases h) hown hg hat
  have hb9 : Below w.heap.size w w9 := S.bw.grown hg S.bw.size (fun q h => by have := hlo q h; omega)
  have hX := S.hX
  refine ⟨h89, by rw [e]; exact Go.Joins.block_setCell (i := 0) h89 v', by rw [e]; exact hp_set h69 (by omega) 0 v', ?_, by rw [e]; exact bl_set hb9 0 (by omega) v'⟩
  refine ho.off (g := X) (by rw [e]; exact gr_set (World.grownBy.refl w9 _)) ?_ ?_
  · rcases hat with h | h
    · rw [h]; intro h'; have := S.hg X h'; omega
    · rw [h]; intro h'; simp at h'; omega
  · intro m hm s h
    rcases List.mem_append.1 hm with hm | hm
    · have := hcX m hm s X h; omega
    · simp at hm; subst hm; rw [newM_comp] at h; cases h
theorem ad_done {w u w10 : World} {x : Value} {ms : List ND} (hu : u.heap.size = w.heap.size + 3) (h6 : w10.heap[w.heap.size + 1 + 1]? = some (.cells #[.slice none 0 0] 26)) (ho : OwnN u.heap.size x ms w10) (hb : Below w.heap.size w w10) :
    (w10.setCell ⟨w.heap.size + 1 + 1, 0, none⟩ x).cell? ⟨w.heap.size + 1 + 1, 0, none⟩ = some x ∧ OwnN w.heap.size x ms (w10.setCell ⟨w.heap.size + 1 + 1, 0, none⟩ x) ∧ Below w.heap.size w (w10.setCell ⟨w.heap.size + 1 + 1, 0, none⟩ x) := by
  have g3 := Go.Joins.block_setCell (i := 0) h6 x
  exact ⟨(Go.Joins.cell_of_block g3 0).trans rfl, (ho.kept (from_set (g := w.heap.size + 1 + 1) (by omega) 0 x)).lower (by omega), bl_set hb (g := w.heap.size + 1 + 1) 0 (by omega) x⟩
set_option maxHeartbeats 4000000 in
theorem iaddnode (a : Option Addr) (cap : Nat) (ns : List PN) (f : Nat → Int) (w : World) (hz : Nds w a ns) (hl : szS ns ≤ 1048576) (hf : InR f) :
    Calls Try.prog 19 #[.agg #[.slice a ns.length cap], .agg (sCells f)] w (ChPost (adN ns f) (adC ns f) w) := by
  have bb := below_three w (.cells #[.slice a ns.length cap] 26) (.cells (sCells f) 41) (.cells #[.slice none 0 0] 26)
  have h0 := hp_on (hp_on (hp_new w (.cells #[.slice a ns.length cap] 26)) (.cells (sCells f) 41)) (.cells #[.slice none 0 0] 26)
  have h1 := hp_on (hp_new (w.alloc (.cells #[.slice a ns.length cap] 26)) (.cells (sCells f) 41)) (.cells #[.slice none 0 0] 26)
  have h2 := hp_new ((w.alloc (.cells #[.slice a ns.length cap] 26)).alloc (.cells (sCells f) 41)) (.cells #[.slice none 0 0] 26)
  simp only [World.size_alloc] at h1 h2
  obtain ⟨u, eu⟩ : ∃ u, u = (((w.alloc (.cells #[.slice a ns.length cap] 26)).alloc (.cells (sCells f) 41)).alloc (.cells #[.slice none 0 0] 26)) := ⟨_, rfl⟩
  rw [← eu] at bb h0 h1 h2
  have hs : u.heap.size = w.heap.size + 3 := by rw [eu]; simp
  have c0 : u.cell? ⟨w.heap.size, 0, none⟩ = some (.slice a ns.length cap) := (Go.Joins.cell_of_block h0 0).trans rfl
  have KEY : ∀ (w1 v1 : World) (x : Value) (ms : List ND), OwnN u.heap.size x ms w1 → Below u.heap.size u w1 → v1 = w1.alloc (.cells #[x] 26) → SF w u (.slice a ns.length cap) f w1.heap.size x ms v1 := fun w1 v1 x ms ho b1 e => by
    have b2 := bel_alloc w1 (.cells #[x] 26)
    rw [← e] at b2
    have b3 := b1.trans (b2.mono b1.size)
    refine ⟨b3, bb.trans (b3.mono bb.size), hs, b1.size, fun b hb => (ho.1.lt b hb).2, hp_below h0 b3, hp_below h1 b3, hp_below h2 b3, ?_, ho.below b2⟩
    rw [e]; exact hp_new _ _
  have EU := Lib.hid eu
  have HZ := Lib.hid (hz.below bb)
  have KEY' := KEY
  clear KEY
  have KEY := Lib.hid KEY'
  clear KEY'
  clear hz eu bb h0 h1 h2 hs
  have hv : adN ns f = if (treeB ns && styOk f && decide (ns.length < 12)) = true then ns ++ [newN f] else ns := rfl
  have hc : adC ns f = if (treeB ns && styOk f && decide (ns.length < 12)) = true then (ns.length : Int) + 1 else 0 := rfl
  have HT := Lib.hid (fun h : treeB ns = true => treeB_len h)
  have KT := Lib.hid (fun w' (h : Nds w' a ns) => itreeok a cap ns w' h hl)
  have KO := Lib.hid (istyok f)
  have HF := Lib.hid hf
  obtain ⟨i0, hi0, hz0, hz1, hz2⟩ := info_parts info_node
  generalize treeB ns = t at *
  generalize styOk f = s at *
  rw [hv, hc]
  clear hv hc
  cases t
  case' true => cases s
  case' true.true =>
    obtain ⟨dl, edl⟩ : ∃ dl, dl = decide (ns.length < 12) := ⟨_, rfl⟩
    rw [← edl]
    have h12 := HT.out rfl
    cases dl
    case' false =>
      have hn12 : ns.length = 12 := by have := of_decide_eq_false edl.symm; omega
      have hq1 : (((ns.length : Nat) : Int) == 12) = true := by rw [hn12]; rfl
      have hq2 : decide ((12 : Int) ≤ ((ns.length : Nat) : Int)) = true := by rw [hn12]; rfl
      clear edl h12 hn12
    case' true =>
      have hn12 : ns.length < 12 := of_decide_eq_true edl.symm
      have hq1 : (((ns.length : Nat) : Int) == 12) = false := by simp; omega
      have hq2 : decide ((12 : Int) ≤ ((ns.length : Nat) : Int)) = false := by simp; omega
      have HN12 := Lib.hid hn12
      clear edl h12 hn12
  all_goals
    simp only [Bool.false_and, Bool.true_and, Bool.and_false, Bool.and_true]
    go_enter Try.func19, Try.ntmps19
    go_wp2_with (first
      | (rw [← EU.out])
      | (go_at_call 62; refine (itrcopy a cap ns u HZ.out hl).mono ?_; rintro e w1 ⟨v, ms, hms, rfl, ho, b1⟩; obtain ⟨av, cv, rfl⟩ := own_form ho.1; clear c0;
          obtain ⟨v1, ev1⟩ : ∃ v1, v1 = w1.alloc (.cells #[.slice av ms.length cv] 26) := ⟨_, rfl⟩; have S1 := Lib.hid (KEY.out w1 v1 _ ms ho b1 ev1); have HCX := Lib.hid (fun m hm s b hb => ((ho.2.1 m hm).1.lt s b hb).2 : ∀ m ∈ ms, ∀ s b, m.comp s = some b → b < w1.heap.size); have EV1 := Lib.hid ev1; clear ev1 b1 ho; have c3 := S1.out.c3; have HMS := Lib.hid hms; clear hms)
      | (rw [← EV1.out])
      | (go_at_call 17; refine (KT.out _ (HZ.out.below S1.out.bu)).mono ?_; rintro e w2 ⟨rfl, b2⟩; have S2 := Lib.hid (S1.out.kept b2); clear b2 c3; have c3 := S2.out.c3; have c8 := S2.out.c8; have c6 := S2.out.c6; have f6 := Go.Joins.unfrozen_of_block S2.out.h6 0)
      | ((with_reducible apply list_load_gsty); exact rfl; exact rfl; exact rfl; (with_reducible exact S2.out.h5); simp only [Act.put, List.setIfInBounds_toArray, List.set_cons_succ, List.set_cons_zero])
      | ((with_reducible apply list_load_sty); exact rfl; exact rfl; exact rfl; (with_reducible exact S2.out.h5); simp only [Act.put, List.setIfInBounds_toArray, List.set_cons_succ, List.set_cons_zero])
      | ((with_reducible apply list_build_nd); exact rfl; exact rfl; exact rfl; simp only [Act.put, List.setIfInBounds_toArray, List.set_cons_succ, List.set_cons_zero])
      | ((with_reducible apply list_bs_nd); exact rfl; exact rfl; exact rfl; (with_reducible exact nA_size ..); simp only [Act.put, List.setIfInBounds_toArray, List.set_cons_succ, List.set_cons_zero]; clear c3 c8 c6 f6; obtain ⟨w4, ew4⟩ : ∃ w4, w4 = w2.alloc (.cells (nA 0 (.slice none 0 0) f false (.slice none 0 0)) 61) := ⟨_, rfl⟩;
          have b4 : Below w2.heap.size w2 w4 := (by (rw [ew4]; exact bel_alloc w2 _));
          have S4 := Lib.hid (S2.out.kept b4); have hn4 := World.news_of_block (hp_new w2 (.cells (nA 0 (.slice none 0 0) f false (.slice none 0 0)) 61)); rw [nA_list, ← ew4] at hn4; have HN4 := Lib.hid hn4; have HX4 := Lib.hid (show w1.heap.size < w4.heap.size from Nat.lt_of_lt_of_le (hp_lt S2.out.h8) b4.size); have hrow4 := S4.out.ho.1; have HR4 := Lib.hid hrow4; have h4s := S4.out.bu.size; have EW4 := Lib.hid ew4; clear ew4 b4 hn4 hrow4; have c8 := S4.out.c8; have f8 := Go.Joins.unfrozen_of_block S4.out.h8 0)
      | (rw [← EW4.out])
      | (at_builtin; refine list_append_any rfl _ _ 24 rfl u.heap.size 61 i0 (.agg nZ) 64 536 Try.underlying24 hi0 hz0 hz1 hz2 (nA_size ..) (by decide) (.slice av ms.length cv) ms.length (cellsN ms) rfl HR4.out (some ⟨w2.heap.size, 0, none⟩) 1 1 (newM f).cells rfl (by rw [ND.cells_len]) (Or.inr ⟨_, rfl, HN4.out⟩) (nL_one rfl rfl) (by have := HN12.out; have := map_len HMS.out; unfold maxLen; omega) (by have := HN12.out; have := map_len HMS.out; omega) h4s ?_)
      | (go_at_call 73; refine (KO.out _).mono ?_; rintro e w2 ⟨rfl, b3⟩; replace S2 := Lib.hid (S2.out.kept b3); clear b3 c3 c8 c6 f6; have c3 := S2.out.c3; have c8 := S2.out.c8; have c6 := S2.out.c6; have f6 := Go.Joins.unfrozen_of_block S2.out.h6 0))
  · intro v' w9 hown9 hgr9 hat9
    obtain ⟨w10, ew10⟩ : ∃ w10, w10 = w9.setCell ⟨w1.heap.size, 0, none⟩ v' := ⟨_, rfl⟩
    obtain ⟨h89, h8A, h6A, hoA, hbA⟩ := S4.out.push HF.out HCX.out HX4.out hown9 hgr9 hat9 ew10
    obtain ⟨av', cv', rfl⟩ := own_form hown9
    have c89 : w9.cell? ⟨w1.heap.size, 0, none⟩ = some (.slice av ms.length cv) := (Go.Joins.cell_of_block h89 0).trans rfl
    have f89 := Go.Joins.unfrozen_of_block h89 0
    have EW10 := Lib.hid ew10
    clear ew10 h89 hown9 hgr9 hat9 c8 f8
    (try dsimp only)
    go_wp2_with (rw [← EW10.out])
    clear c89 f89
    have c8 : w10.cell? ⟨w1.heap.size, 0, none⟩ = some (.slice av' (ms.length + 1) cv') := (Go.Joins.cell_of_block h8A 0).trans rfl
    have c6 : w10.cell? ⟨w.heap.size + 1 + 1, 0, none⟩ = some (.slice none 0 0) := (Go.Joins.cell_of_block h6A 0).trans rfl
    have f6 := Go.Joins.unfrozen_of_block h6A 0
    have hne : w.heap.size + 1 + 1 ≠ w1.heap.size := by have := S4.out.hX; have := S4.out.hu; omega
    have hne2 := hne.symm
    have D := Lib.hid (ad_done S4.out.hu h6A hoA hbA)
    clear h8A h6A hoA hbA
    go_region
    obtain ⟨zc, D1, D2⟩ := D.out
    have hml := map_len HMS.out
    have hmm : (ms ++ [newM f]).map ND.n = ns ++ [newN f] := by rw [List.map_append, HMS.out]; rfl
    have e1 : ((ms.length : Int) + 1) = (ns.length : Int) + 1 := by rw [hml]
    rw [e1]
    obtain ⟨w12, ew12⟩ : ∃ w12, w12 = (w10.setCell ⟨w.heap.size + 1 + 1, 0, none⟩ (.slice av' (ms.length + 1) cv')).drew := ⟨_, rfl⟩
    have zc' : w12.cell? ⟨w.heap.size + 1 + 1, 0, none⟩ = some (.slice av' (ms.length + 1) cv') := by rw [ew12]; exact zc
    have D1' : OwnN w.heap.size (.slice av' (ms.length + 1) cv') (ms ++ [newM f]) w12 := by rw [ew12]; exact D1.below (Below.refl _ _).drew
    have D2' : Below w.heap.size w w12 := by rw [ew12]; exact D2.drew
    rw [← ew12]
    clear ew12 zc D1 D2 D c8 c6 f6 hne hne2 e1
    go_wp2_with (fail)
    exact bodyPost_ret (v := .tuple #[.agg #[.slice av' (ms.length + 1) cv'], .int .i64 ((ns.length : Int) + 1)]) (by simp [results, Try.results19, go_sem, zc']) rfl ⟨_, _, hmm, rfl, D1', D2'⟩
  all_goals
    have D := S2.out.done
    obtain ⟨w5, ew5⟩ : ∃ w5, w5 = w2.setCell ⟨w.heap.size + 1 + 1, 0, none⟩ (.slice av ms.length cv) := ⟨_, rfl⟩
    rw [← ew5] at D ⊢
    obtain ⟨zc, D1, D2⟩ := D
    exact bodyPost_ret (v := .tuple #[.agg #[.slice av ms.length cv], .int .i64 0]) (by simp [results, Try.results19, go_sem, zc]) rfl ⟨_, ms, HMS.out, rfl, D1, D2⟩
set_option maxHeartbeats 4000000 in
theorem saddnodeK (a : Option Addr) (cap : Nat) (ns : List PN) (f : Nat → Int) (w : World) (hz : Nds w a ns) (hl : szS ns ≤ 1048576) (hf : InR f) :
    Calls Try.prog 33 #[.agg #[.slice a ns.length cap], .agg (sCells f)] w (ChPostK (adN ns f) (adC ns f) w) := by
  have bb := below_three w (.cells #[.slice a ns.length cap] 26) (.cells (sCells f) 41) (.cells #[.slice none 0 0] 26)
  have h0 := hp_on (hp_on (hp_new w (.cells #[.slice a ns.length cap] 26)) (.cells (sCells f) 41)) (.cells #[.slice none 0 0] 26)
  have h1 := hp_on (hp_new (w.alloc (.cells #[.slice a ns.length cap] 26)) (.cells (sCells f) 41)) (.cells #[.slice none 0 0] 26)
  have h2 := hp_new ((w.alloc (.cells #[.slice a ns.length cap] 26)).alloc (.cells (sCells f) 41)) (.cells #[.slice none 0 0] 26)
  simp only [World.size_alloc] at h1 h2
  obtain ⟨u, eu⟩ : ∃ u, u = (((w.alloc (.cells #[.slice a ns.length cap] 26)).alloc (.cells (sCells f) 41)).alloc (.cells #[.slice none 0 0] 26)) := ⟨_, rfl⟩
  rw [← eu] at bb h0 h1 h2
  have hs : u.heap.size = w.heap.size + 3 := by rw [eu]; simp
  have c0 : u.cell? ⟨w.heap.size, 0, none⟩ = some (.slice a ns.length cap) := (Go.Joins.cell_of_block h0 0).trans rfl
  have KEY : ∀ (w1 v1 : World) (x : Value) (ms : List ND), OwnN u.heap.size x ms w1 → Below u.heap.size u w1 → v1 = w1.alloc (.cells #[x] 26) → SF w u (.slice a ns.length cap) f w1.heap.size x ms v1 := fun w1 v1 x ms ho b1 e => by
    have b2 := bel_alloc w1 (.cells #[x] 26)
    rw [← e] at b2
    have b3 := b1.trans (b2.mono b1.size)
    refine ⟨b3, bb.trans (b3.mono bb.size), hs, b1.size, fun b hb => (ho.1.lt b hb).2, hp_below h0 b3, hp_below h1 b3, hp_below h2 b3, ?_, ho.below b2⟩
    rw [e]; exact hp_new _ _
  have EU := Lib.hid eu
  have HZ := Lib.hid (hz.below bb)
  have KEY' := KEY
  clear KEY
  have KEY := Lib.hid KEY'
  clear KEY'
  clear hz eu bb h0 h1 h2 hs
  have hv : adN ns f = if (treeB ns && styOk f && decide (ns.length < 12)) = true then ns ++ [newN f] else ns := rfl
  have hc : adC ns f = if (treeB ns && styOk f && decide (ns.length < 12)) = true then (ns.length : Int) + 1 else 0 := rfl
  have HT := Lib.hid (fun h : treeB ns = true => treeB_len h)
  have KT := Lib.hid (fun w' (h : Nds w' a ns) => streeok a cap ns w' h hl)
  have KO := Lib.hid (sstyok f)
  have HF := Lib.hid hf
  obtain ⟨i0, hi0, hz0, hz1, hz2⟩ := info_parts info_node
  generalize treeB ns = t at *
  generalize styOk f = s at *
  rw [hv, hc]
  clear hv hc
  cases t
  case' true => cases s
  case' true.true =>
    obtain ⟨dl, edl⟩ : ∃ dl, dl = decide (ns.length < 12) := ⟨_, rfl⟩
    rw [← edl]
    have h12 := HT.out rfl
    cases dl
    case' false =>
      have hn12 : ns.length = 12 := by have := of_decide_eq_false edl.symm; omega
      have hq1 : (((ns.length : Nat) : Int) == 12) = true := by rw [hn12]; rfl
      have hq2 : decide ((12 : Int) ≤ ((ns.length : Nat) : Int)) = true := by rw [hn12]; rfl
      clear edl h12 hn12
    case' true =>
      have hn12 : ns.length < 12 := of_decide_eq_true edl.symm
      have hq1 : (((ns.length : Nat) : Int) == 12) = false := by simp; omega
      have hq2 : decide ((12 : Int) ≤ ((ns.length : Nat) : Int)) = false := by simp; omega
      have HN12 := Lib.hid hn12
      clear edl h12 hn12
  all_goals
    simp only [Bool.false_and, Bool.true_and, Bool.and_false, Bool.and_true]
    go_enter Try.func33, Try.ntmps33
    go_wp2_with (first
      | (rw [← EU.out])
      | (go_at_call 68; refine (sl10copyK a cap ns u HZ.out hl).mono ?_; rintro e w1 ⟨v, ms, hms, rfl, ho, b1, hkcs⟩; have HKCS := Lib.hid hkcs; clear hkcs; obtain ⟨av, cv, rfl⟩ := own_form ho.1; clear c0;
          obtain ⟨v1, ev1⟩ : ∃ v1, v1 = w1.alloc (.cells #[.slice av ms.length cv] 26) := ⟨_, rfl⟩; have S1 := Lib.hid (KEY.out w1 v1 _ ms ho b1 ev1); have HCX := Lib.hid (fun m hm s b hb => ((ho.2.1 m hm).1.lt s b hb).2 : ∀ m ∈ ms, ∀ s b, m.comp s = some b → b < w1.heap.size); have EV1 := Lib.hid ev1; clear ev1 b1 ho; have c3 := S1.out.c3; have HMS := Lib.hid hms; clear hms)
      | (rw [← EV1.out])
      | (go_at_call 18; refine (KT.out _ (HZ.out.below S1.out.bu)).mono ?_; rintro e w2 ⟨rfl, b2⟩; have S2 := Lib.hid (S1.out.kept b2); clear b2 c3; have c3 := S2.out.c3; have c8 := S2.out.c8; have c6 := S2.out.c6; have f6 := Go.Joins.unfrozen_of_block S2.out.h6 0)
      | ((with_reducible apply list_load_gsty); exact rfl; exact rfl; exact rfl; (with_reducible exact S2.out.h5); simp only [Act.put, List.setIfInBounds_toArray, List.set_cons_succ, List.set_cons_zero])
      | ((with_reducible apply list_load_sty); exact rfl; exact rfl; exact rfl; (with_reducible exact S2.out.h5); simp only [Act.put, List.setIfInBounds_toArray, List.set_cons_succ, List.set_cons_zero])
      | ((with_reducible apply list_build_nd); exact rfl; exact rfl; exact rfl; simp only [Act.put, List.setIfInBounds_toArray, List.set_cons_succ, List.set_cons_zero])
      | ((with_reducible apply list_bs_nd); exact rfl; exact rfl; exact rfl; (with_reducible exact nA_size ..); simp only [Act.put, List.setIfInBounds_toArray, List.set_cons_succ, List.set_cons_zero]; clear c3 c8 c6 f6; obtain ⟨w4, ew4⟩ : ∃ w4, w4 = w2.alloc (.cells (nA 0 (.slice none 0 0) f false (.slice none 0 0)) 61) := ⟨_, rfl⟩;
          have b4 : Below w2.heap.size w2 w4 := (by (rw [ew4]; exact bel_alloc w2 _));
          have S4 := Lib.hid (S2.out.kept b4); have hn4 := World.news_of_block (hp_new w2 (.cells (nA 0 (.slice none 0 0) f false (.slice none 0 0)) 61)); rw [nA_list, ← ew4] at hn4; have HN4 := Lib.hid hn4; have HX4 := Lib.hid (show w1.heap.size < w4.heap.size from Nat.lt_of_lt_of_le (hp_lt S2.out.h8) b4.size); have hrow4 := S4.out.ho.1; have HR4 := Lib.hid hrow4; have h4s := S4.out.bu.size; have EW4 := Lib.hid ew4; clear ew4 b4 hn4 hrow4; have c8 := S4.out.c8; have f8 := Go.Joins.unfrozen_of_block S4.out.h8 0)
      | (rw [← EW4.out])
      | (at_builtin; refine list_append_any rfl _ _ 24 rfl u.heap.size 61 i0 (.agg nZ) 64 536 Try.underlying24 hi0 hz0 hz1 hz2 (nA_size ..) (by decide) (.slice av ms.length cv) ms.length (cellsN ms) rfl HR4.out (some ⟨w2.heap.size, 0, none⟩) 1 1 (newM f).cells rfl (by rw [ND.cells_len]) (Or.inr ⟨_, rfl, HN4.out⟩) (nL_one rfl rfl) (by have := HN12.out; have := map_len HMS.out; unfold maxLen; omega) (by have := HN12.out; have := map_len HMS.out; omega) h4s ?_)
      | (go_at_call 78; refine (KO.out _).mono ?_; rintro e w2 ⟨rfl, b3⟩; replace S2 := Lib.hid (S2.out.kept b3); clear b3 c3 c8 c6 f6; have c3 := S2.out.c3; have c8 := S2.out.c8; have c6 := S2.out.c6; have f6 := Go.Joins.unfrozen_of_block S2.out.h6 0))
  · intro v' w9 hown9 hgr9 hat9
    obtain ⟨w10, ew10⟩ : ∃ w10, w10 = w9.setCell ⟨w1.heap.size, 0, none⟩ v' := ⟨_, rfl⟩
    obtain ⟨h89, h8A, h6A, hoA, hbA⟩ := S4.out.push HF.out HCX.out HX4.out hown9 hgr9 hat9 ew10
    obtain ⟨av', cv', rfl⟩ := own_form hown9
    have c89 : w9.cell? ⟨w1.heap.size, 0, none⟩ = some (.slice av ms.length cv) := (Go.Joins.cell_of_block h89 0).trans rfl
    have f89 := Go.Joins.unfrozen_of_block h89 0
    have EW10 := Lib.hid ew10
    clear ew10 h89 hown9 hgr9 hat9 c8 f8
    (try dsimp only)
    go_wp2_with (rw [← EW10.out])
    clear c89 f89
    have c8 : w10.cell? ⟨w1.heap.size, 0, none⟩ = some (.slice av' (ms.length + 1) cv') := (Go.Joins.cell_of_block h8A 0).trans rfl
    have c6 : w10.cell? ⟨w.heap.size + 1 + 1, 0, none⟩ = some (.slice none 0 0) := (Go.Joins.cell_of_block h6A 0).trans rfl
    have f6 := Go.Joins.unfrozen_of_block h6A 0
    have hne : w.heap.size + 1 + 1 ≠ w1.heap.size := by have := S4.out.hX; have := S4.out.hu; omega
    have hne2 := hne.symm
    have D := Lib.hid (ad_done S4.out.hu h6A hoA hbA)
    clear h8A h6A hoA hbA
    go_region
    obtain ⟨zc, D1, D2⟩ := D.out
    have hml := map_len HMS.out
    have hmm : (ms ++ [newM f]).map ND.n = ns ++ [newN f] := by rw [List.map_append, HMS.out]; rfl
    have e1 : ((ms.length : Int) + 1) = (ns.length : Int) + 1 := by rw [hml]
    rw [e1]
    obtain ⟨w12, ew12⟩ : ∃ w12, w12 = (w10.setCell ⟨w.heap.size + 1 + 1, 0, none⟩ (.slice av' (ms.length + 1) cv')).drew := ⟨_, rfl⟩
    have zc' : w12.cell? ⟨w.heap.size + 1 + 1, 0, none⟩ = some (.slice av' (ms.length + 1) cv') := by rw [ew12]; exact zc
    have D1' : OwnN w.heap.size (.slice av' (ms.length + 1) cv') (ms ++ [newM f]) w12 := by rw [ew12]; exact D1.below (Below.refl _ _).drew
    have D2' : Below w.heap.size w w12 := by rw [ew12]; exact D2.drew
    rw [← ew12]
    clear ew12 zc D1 D2 D c8 c6 f6 hne hne2 e1
    go_wp2_with (fail)
    exact bodyPost_ret (v := .tuple #[.agg #[.slice av' (ms.length + 1) cv'], .int .i64 ((ns.length : Int) + 1)]) (by simp [results, Try.results33, go_sem, zc']) rfl ⟨_, _, hmm, rfl, D1', D2', HKCS.out.push (fun _ => ⟨none, rfl⟩)⟩
  all_goals
    have D := S2.out.done
    obtain ⟨w5, ew5⟩ : ∃ w5, w5 = w2.setCell ⟨w.heap.size + 1 + 1, 0, none⟩ (.slice av ms.length cv) := ⟨_, rfl⟩
    rw [← ew5] at D ⊢
    obtain ⟨zc, D1, D2⟩ := D
    exact bodyPost_ret (v := .tuple #[.agg #[.slice av ms.length cv], .int .i64 0]) (by simp [results, Try.results33, go_sem, zc]) rfl ⟨_, ms, HMS.out, rfl, D1, D2, HKCS.out⟩
theorem saddnode (a : Option Addr) (cap : Nat) (ns : List PN) (f : Nat → Int) (w : World) (hz : Nds w a ns) (hl : szS ns ≤ 1048576) (hf : InR f) :
    Calls Try.prog 33 #[.agg #[.slice a ns.length cap], .agg (sCells f)] w (ChPost (adN ns f) (adC ns f) w) :=
  (saddnodeK a cap ns f w hz hl hf).mono fun e w' h => h.ch e w'
end Go.Proofs.Ytckpjldenkjddaa
end

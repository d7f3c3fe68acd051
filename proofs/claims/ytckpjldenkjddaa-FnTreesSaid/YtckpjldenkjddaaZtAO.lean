import Derived.Deep.Upon
import Derived.Deep.AppendLies
import Derived.Test.YtckpjldenkjddaaZtAA
import Derived.Test.YtckpjldenkjddaaZtAC
import Derived.Test.YtckpjldenkjddaaZtAN
section
namespace Go.Proofs.Ytckpjldenkjddaa
open Go.ChangeShapes Go.WideShapes Go.ChangeAt Go.RowKit
set_option linter.unusedVariables false
set_option linter.unusedSimpArgs false
set_option maxRecDepth 8000

theorem rls_news {w : World} {a : Option Addr} {len : Nat} {zs : List Int} (h : Rls w a len zs) : (a = none ∧ len = 0) ∨ ∃ ad, a = some ad ∧ ∀ j u, (zs.map (Value.int .i64))[j]? = some u → w.cell? (ad.add j) = some u := by
  have hl := h.1
  rcases h.2.2 with h0 | ⟨b, off, rfl, _, hc⟩
  · cases a with
    | none => exact Or.inl ⟨rfl, h0⟩
    | some ad =>
      refine Or.inr ⟨ad, rfl, fun j u hu => ?_⟩
      rw [List.length_eq_zero_iff.1 (by omega : zs.length = 0)] at hu
      simp at hu
  · refine Or.inr ⟨_, rfl, fun j u hu => ?_⟩
    have hj : j < zs.length := by have := (List.getElem?_eq_some_iff.1 hu).1; simpa using this
    rw [Addr.add_mid, hc j (by omega)]
    rw [List.getElem?_map, List.getElem?_eq_getElem hj] at hu
    simp at hu
    rw [← hu, List.getD_eq_getElem?_getD, List.getElem?_eq_getElem hj]; rfl
/-- slices.Clone of ints -/
theorem iclone_i (a : Option Addr) (c : Nat) (zs : List Int) (w : World) (hz : Ints w a zs.length zs) (hl : zs.length ≤ 1048576) :
    Calls Try.prog 139 #[.slice a zs.length c] w fun e w' => ∃ v, e = .returned v ∧ KRow w.heap.size v zs w' ∧ Below w.heap.size w w' := by
  obtain ⟨i0, hi, hz0, hz1, hz2⟩ := info_parts info_intC
  cases a with
  | none =>
    have h0 : zs.length = 0 := by
      rcases hz.2.2 with h0 | ⟨b, off, e, _⟩
      · exact h0
      · cases e
    have hnil : zs = [] := List.length_eq_zero_iff.1 h0
    subst hnil
    have heq := eql_nil w none 0 c Try.underlying59
    go_enter Try.func139, Try.ntmps139
    go_wp2
    go_ret
    exact ⟨_, rfl, ⟨none, 0, rfl, Or.inl rfl⟩, Below.refl _ _⟩
  | some ad =>
    have hn := ints_news hz
    have hown : (w.alloc (.cells #[] 3)).ownsRow w.heap.size 3 1 (.slice (some ⟨w.heap.size, 0, none⟩) 0 0) 0 [] := World.ownsRow_lit w #[] 0 (Nat.le_refl _) (by unfold maxLen; omega) rfl
    have b1 := Go.Joins.below_alloc1 w (.cells #[] 3)
    have hn1 := ints_news (hz.below b1)
    have HO := Lib.hid hown
    have HN := Lib.hid hn1
    have heq := eql_nil w (some ad) zs.length c Try.underlying59
    clear hz hn hown hn1
    go_enter Try.func139, Try.ntmps139
    go_wp2_with (first
      | (at_builtin; refine list_append_any rfl _ _ 59 rfl w.heap.size 3 i0 (.int .i64 0) 1 8 Try.underlying59 hi hz0 hz1 hz2 rfl (by decide) _ 0 [] rfl HO.out (some ad) zs.length c (zs.map (Value.int .i64)) rfl (by simp) HN.out (ints_one' zs) (by unfold maxLen; omega) (by omega) (by simp) ?_)
      | fail)
    intro v' w3 hown3 hgr _
    have hk : KRow w.heap.size v' zs w3 := by
      obtain ⟨a', c', e⟩ := own_form hown3
      refine ⟨a', c', by simpa using e, Or.inr ?_⟩
      unfold RowI
      simpa using hown3
    have hb : Below w.heap.size w w3 := ((b1).grown hgr b1.size (fun k hk => by simp [Value.ownBlock] at hk; omega))
    clear hown3 hgr HO HN b1
    go_wp2
    go_ret
    exact ⟨_, rfl, hk, hb⟩
/-- slices.Clone of rules -/
theorem iclone_r (a : Option Addr) (len c : Nat) (zs : List Int) (w : World) (hz : Rls w a len zs) (hl : len ≤ 1048576) :
    Calls Try.prog 129 #[.slice a len c] w fun e w' => ∃ v, e = .returned v ∧ TRow w.heap.size v len zs w' ∧ Below w.heap.size w w' := by
  obtain ⟨i0, hi, hz0, hz1, hz2⟩ := info_parts info_rule
  cases a with
  | none =>
    have h0 : len = 0 := by
      rcases hz.2.2 with h0 | ⟨b, off, e, _⟩
      · exact h0
      · cases e
    subst h0
    have heq := eql_nil w none 0 c Try.underlying49
    go_enter Try.func129, Try.ntmps129
    go_wp2
    go_ret
    exact ⟨_, rfl, ⟨none, 0, rfl, Or.inl rfl⟩, Below.refl _ _⟩
  | some ad =>
    have hn := rls_news hz
    have hzl := hz.1
    have hown : (w.alloc (.cells #[] 137)).ownsRow w.heap.size 137 3 (.slice (some ⟨w.heap.size, 0, none⟩) 0 0) 0 [] := World.ownsRow_lit w #[] 0 (Nat.le_refl _) (by unfold maxLen; omega) rfl
    have b1 := Go.Joins.below_alloc1 w (.cells #[] 137)
    have hn1 := rls_news (hz.below b1)
    have HO := Lib.hid hown
    have HN := Lib.hid hn1
    have heq := eql_nil w (some ad) len c Try.underlying49
    clear hz hn hown hn1
    go_enter Try.func129, Try.ntmps129
    go_wp2_with (first
      | (at_builtin; refine list_append_any rfl _ _ 49 rfl w.heap.size 137 i0 (.agg #[.int .i64 0, .int .i64 0, .int .i64 0]) 3 24 Try.underlying49 hi hz0 hz1 hz2 rfl (by decide) _ 0 [] rfl HO.out (some ad) len c (zs.map (Value.int .i64)) rfl (by simp; exact hzl) HN.out (ints_one' zs) (by unfold maxLen; omega) (by omega) (by simp) ?_)
      | fail)
    intro v' w3 hown3 hgr _
    have hk : TRow w.heap.size v' len zs w3 := by
      obtain ⟨a', c', e⟩ := own_form hown3
      refine ⟨a', c', by simpa using e, Or.inr ?_⟩
      unfold RowR
      simpa using hown3
    have hb : Below w.heap.size w w3 := ((b1).grown hgr b1.size (fun k hk => by simp [Value.ownBlock] at hk; omega))
    clear hown3 hgr HO HN b1
    go_wp2
    go_ret
    exact ⟨_, rfl, hk, hb⟩
/-- impl.tableCopy -/
theorem itcopy (a : Option Addr) (len c : Nat) (zs : List Int) (w : World) (hz : Rls w a len zs) (hl : len ≤ 1048576) :
    Calls Try.prog 88 #[.agg #[.slice a len c]] w fun e w' => ∃ v, e = .returned (.agg #[v]) ∧ TRow w.heap.size v len zs w' ∧ Below w.heap.size w w' := by
  have bb := Go.Joins.below_alloc2 w (.cells #[.slice a len c] 51) (.cells #[.slice none 0 0] 51)
  have h2 := hp_new (w.alloc (.cells #[.slice a len c] 51)) (.cells #[.slice none 0 0] 51)
  have hsz : ((w.alloc (.cells #[.slice a len c] 51)).alloc (.cells #[.slice none 0 0] 51)).heap.size = w.heap.size + 1 + 1 := by simp
  simp only [World.size_alloc] at h2
  have HZ := Lib.hid (hz.below bb)
  clear hz
  go_enter Try.func88, Try.ntmps88
  go_wp2_with (fail)
  generalize ((w.alloc (.cells #[.slice a len c] 51)).alloc (.cells #[.slice none 0 0] 51)) = u at *
  refine (iclone_r a len c zs u HZ.out hl).mono ?_
  rintro e w1 ⟨v, rfl, ht, b1⟩
  have ht' := ht
  obtain ⟨a', c', rfl, _⟩ := ht'
  have g2 := hp_below h2 b1
  have z2 : w1.cell? ⟨w.heap.size + 1, 0, none⟩ = some (.slice none 0 0) := (Go.Joins.cell_of_block g2 0).trans rfl
  have F2 := Go.Joins.unfrozen_of_block g2 0
  have B1 := bb.trans (b1.mono bb.size)
  have T2 := Lib.hid ((ht.lower (lo' := w.heap.size + 2) (by omega)).kept (from_set (g := w.heap.size + 1) (by omega) 0 (.slice a' len c')))
  have B2 := Lib.hid (bl_set B1 (g := w.heap.size + 1) 0 (by omega) (.slice a' len c'))
  have g3 := Go.Joins.block_setCell (i := 0) g2 (.slice a' len c')
  have z3 := Go.Joins.cell_of_block g3 0
  simp at z3
  clear ht b1 g2 h2 bb B1 HZ g3 hsz
  dsimp only
  go_wp2
  refine bodyPost_ret (v := .agg #[.slice a' len c']) (by simp [results, Try.results88, go_sem, z3]) rfl ⟨_, rfl, T2.out.lower (by omega), B2.out⟩
set_option maxHeartbeats 2000000 in
/-- impl.nodeCopy -/
theorem indcopy (n : PN) (ka : Option Addr) (kc : Nat) (ta : Option Addr) (tc : Nat) (w : World) (hok : n.ok) (hk : Ints w ka n.kids.length n.kids) (ht : Rls w ta n.rl n.rules) (hk1 : n.kids.length ≤ 1048576) (ht1 : n.rl ≤ 1048576) :
    Calls Try.prog 106 #[.agg (nA n.up (.slice ka n.kids.length kc) n.sty n.meas (.slice ta n.rl tc))] w (ToNPost n w) := by
  obtain ⟨u, ks, f, m, rl, rs⟩ := n
  simp only at hk ht hk1 ht1 ⊢
  obtain ⟨u0, eu0⟩ : ∃ u0, u0 = w.alloc (.cells (nA u (.slice ka ks.length kc) f m (.slice ta rl tc)) 61) := ⟨_, rfl⟩
  obtain ⟨u1, eu1⟩ : ∃ u1, u1 = u0.alloc (.cells nZ 61) := ⟨_, rfl⟩
  have s0 : u0.heap.size = w.heap.size + 1 := by rw [eu0]; simp
  have s1 : u1.heap.size = w.heap.size + 1 + 1 := by rw [eu1]; simp [s0]
  have H0 : u1.heap[w.heap.size]? = some (.cells (nA u (.slice ka ks.length kc) f m (.slice ta rl tc)) 61) := by rw [eu1, eu0]; exact hp_on (hp_new w _) _
  have H1 : u1.heap[w.heap.size + 1]? = some (.cells nZ 61) := by rw [eu1, ← s0]; exact hp_new u0 _
  have BB : Below w.heap.size w u1 := by rw [eu1, eu0]; exact Go.Joins.below_alloc2 ..
  have c1 : u1.cell? ⟨w.heap.size, 1, none⟩ = some (.slice ka ks.length kc) := (Go.Joins.cell_of_block H0 1).trans rfl
  have HK := Lib.hid (hk.below BB)
  have HT := Lib.hid ht
  have A0 := Lib.hid H0
  have A1 := Lib.hid H1
  have AB := Lib.hid BB
  have EU0 := Lib.hid eu0
  have EU1 := Lib.hid eu1
  have S1 := Lib.hid s1
  have HOK := Lib.hid hok
  clear eu0 eu1 H0 H1 BB hk ht hok s0 s1
  go_enter Try.func106, Try.ntmps106
  go_wp2_with (first
    | ((with_reducible apply list_alloc_nd); exact rfl; exact rfl; simp only [World.size_alloc, Act.put, List.setIfInBounds_toArray, List.set_cons_succ, List.set_cons_zero])
    | (rw [← EU0.out])
    | (rw [← EU1.out])
    | fail)
  refine (iclone_i ka kc ks _ HK.out hk1).mono ?_
  rintro e w1 ⟨kv, rfl, rk, b1⟩
  have sw1 : w.heap.size + 1 + 1 ≤ w1.heap.size := by rw [← S1.out]; exact b1.size
  have hkb : ∀ b, blk kv ks.length = some b → w.heap.size + 1 + 1 ≤ b ∧ b < w1.heap.size := fun b hb => by
    obtain ⟨a', c', e', hr⟩ := rk
    unfold blk at hb
    split at hb
    · cases hb
    · rcases hr with h0 | hr
      · rename_i hne; rw [h0] at hne; exact absurd rfl hne
      · have := World.ownsRow.lt hr b hb
        rw [S1.out] at this
        exact this
  have rk1 : KRow (w.heap.size + 1 + 1) kv ks w1 := by rw [← S1.out]; exact rk
  obtain ⟨ka', kc', rfl, _⟩ := rk
  have H0 := hp_below A0.out b1
  have H1 := hp_below A1.out b1
  have BB := AB.out.trans (b1.mono AB.out.size)
  have z1 : w1.cell? ⟨w.heap.size, 1, none⟩ = some (.slice ka ks.length kc) := (Go.Joins.cell_of_block H0 1).trans rfl
  have f1 := Go.Joins.unfrozen_of_block H0 1
  obtain ⟨u4, eu4⟩ : ∃ u4, u4 = w1.setCell ⟨w.heap.size, 1, none⟩ (.slice ka' ks.length kc') := ⟨_, rfl⟩
  have F4 : From (w.heap.size + 1 + 1) w1 u4 := by rw [eu4]; exact from_set (by omega) _ _
  have s4 : u4.heap.size = w1.heap.size := by rw [eu4]; simp
  replace H1 := hp_set (g' := w.heap.size) H1 (by omega) 1 (.slice ka' ks.length kc')
  replace H0 := Go.Joins.block_setCell (i := 1) H0 (.slice ka' ks.length kc')
  rw [nA_put1] at H0
  replace BB := bl_set BB (g := w.heap.size) 1 (Nat.le_refl _) (.slice ka' ks.length kc')
  rw [← eu4] at H0 H1 BB
  have c63 : u4.cell? ⟨w.heap.size, 63, none⟩ = some (.slice ta rl tc) := (Go.Joins.cell_of_block H0 63).trans (by rw [nA, List.getElem?_toArray]; exact nL_tab)
  have ht4 := HT.out.below BB
  have EU4 := Lib.hid eu4
  have K0 := Lib.hid H0
  have K1 := Lib.hid H1
  have KB := Lib.hid BB
  have KT := Lib.hid ht4
  have KK := Lib.hid (rk1.kept F4)
  have HKB := Lib.hid hkb
  clear A0 A1 AB c1 H0 H1 BB ht4 rk1 eu4 F4 hkb b1 HT HK
  dsimp only
  go_wp2_with (first
    | (rw [← EU4.out])
    | fail)
  refine (itcopy ta rl tc rs u4 KT.out ht1).mono ?_
  rintro e w3 ⟨tv, rfl, rt, b3⟩
  have sw3 := b3.size
  have htb : ∀ b, blk tv rl = some b → w1.heap.size ≤ b := fun b hb => by
    obtain ⟨a', c', e', hr⟩ := rt
    unfold blk at hb
    split at hb
    · cases hb
    · rcases hr with h0 | hr
      · rename_i hne; exact absurd h0 hne
      · have := (World.ownsRow.lt hr b hb).1
        rw [s4] at this
        exact this
  have rt1 : TRow (w.heap.size + 1 + 1) tv rl rs w3 := rt.lower (by omega)
  obtain ⟨ta', tc', rfl, _⟩ := rt
  have H0 := hp_below K0.out b3
  have H1 := hp_below K1.out b3
  have BB := KB.out.trans (b3.mono (by omega))
  have rk := KK.out.kept (From.of_below b3)
  have z63 : w3.cell? ⟨w.heap.size, 63, none⟩ = some (.slice ta rl tc) := (Go.Joins.cell_of_block H0 63).trans (by rw [nA, List.getElem?_toArray]; exact nL_tab)
  have f63 := Go.Joins.unfrozen_of_block H0 63
  obtain ⟨u7, eu7⟩ : ∃ u7, u7 = w3.setCell ⟨w.heap.size, 63, none⟩ (.slice ta' rl tc') := ⟨_, rfl⟩
  have F7 : From (w.heap.size + 1 + 1) w3 u7 := by rw [eu7]; exact from_set (by omega) _ _
  replace H1 := hp_set (g' := w.heap.size) H1 (by omega) 63 (.slice ta' rl tc')
  replace H0 := Go.Joins.block_setCell (i := 63) H0 (.slice ta' rl tc')
  rw [nA_put63] at H0
  replace BB := bl_set BB (g := w.heap.size) 63 (Nat.le_refl _) (.slice ta' rl tc')
  rw [← eu7] at H0 H1 BB
  have RG1 : u7.rangeAt w.heap.size 0 (nL u (.slice ka' ks.length kc') f m (.slice ta' rl tc')) := range_block H0
  have RG := Lib.hid RG1
  have T1 := Lib.hid (there_block H1 0 64 (by show 0 + 64 ≤ nZ.size; rw [nZ, nA_size]; decide))
  obtain ⟨u8, eu8⟩ : ∃ u8, u8 = u7.setCells (w.heap.size + 1) 0 (nL u (.slice ka' ks.length kc') f m (.slice ta' rl tc')) := ⟨_, rfl⟩
  have F8 : From (w.heap.size + 1 + 1) u7 u8 := by rw [eu8]; exact from_cells (by omega) _ _ _
  replace H1 := hp_puts (nL u (.slice ka' ks.length kc') f m (.slice ta' rl tc')) 0 _ u7 H1
  rw [putA_all _ _ (by rw [nL_len]; exact (nA_size ..).symm)] at H1
  replace BB := below_cells (g := w.heap.size + 1) (by omega) (nL u (.slice ka' ks.length kc') f m (.slice ta' rl tc')) 0 u7 BB
  rw [← eu8] at H1 BB
  have H1 : u8.heap[w.heap.size + 1]? = some (.cells (nA u (.slice ka' ks.length kc') f m (.slice ta' rl tc')) 61) := H1
  have rk8 := Lib.hid (((rk.kept F7).kept F8).lower (show w.heap.size ≤ _ by omega))
  have rt8 := Lib.hid (((rt1.kept F7).kept F8).lower (show w.heap.size ≤ _ by omega))
  have EU7 := Lib.hid eu7
  have EU8 := Lib.hid eu8
  have G1 := Lib.hid H1
  have GB := Lib.hid BB
  have HTB := Lib.hid htb
  have hk1 : (Value.slice ka' ks.length kc').oneCell' = true := rfl
  have ht1' : (Value.slice ta' rl tc').oneCell' = true := rfl
  clear K0 K1 KB KT KK H0 H1 BB rk rt1 eu7 eu8 F7 F8 b3 c63 htb RG1 z1 f1 EU4
  dsimp only
  go_wp2_with (first
    | (rw [← EU7.out])
    | ((with_reducible apply list_load_nd); exact rfl; exact rfl; exact rfl; (with_reducible exact RG.out); simp only [Act.put, List.setIfInBounds_toArray, List.set_cons_succ, List.set_cons_zero])
    | ((with_reducible apply list_store_nd); exact rfl; exact rfl; exact rfl; exact rfl; (with_reducible exact T1.out); (with_reducible exact hk1); (with_reducible exact ht1'); simp only [Act.put, List.setIfInBounds_toArray, List.set_cons_succ, List.set_cons_zero])
    | (rw [← EU8.out])
    | fail)
  refine bodyPost_ret (results_nd rfl rfl G1.out) rfl ⟨(⟨⟨u, ks, f, m, rl, rs⟩, (.slice ka' ks.length kc'), (.slice ta' rl tc')⟩ : ND), rfl, rfl, ⟨HOK.out, rk8.out, rt8.out⟩, fun b hb hb' => ?_, GB.out⟩
  have h1 := (HKB.out b hb).2
  have h2 := HTB.out b hb'
  omega
/-- A node more. -/
theorem OwnN.push {lo : Nat} {v v' : Value} {ms : List ND} {m : ND} {w w' : World} (h : OwnN lo v ms w) (hm : m.own lo w)
    (hap : ∀ s b, m.comp s = some b → v.ownBlock ≠ some b ∧ b < w.heap.size ∧ ∀ mj ∈ ms, ∀ t, mj.comp t ≠ some b) (hin : ∀ b, m.comp true = some b → m.comp false ≠ some b)
    (hrow : w'.ownsRow lo 61 64 v' (ms.length + 1) (cellsN ms ++ m.cells)) (hg : w.grownBy w' v.ownBlock) (hb : v'.ownBlock = v.ownBlock ∨ v'.ownBlock = some w.heap.size) : OwnN lo v' (ms ++ [m]) w' := by
  have hlt : ∀ mj ∈ ms, ∀ t b, mj.comp t = some b → b < w.heap.size := fun mj hj t b hc => ((h.2.1 mj hj).1.lt t b hc).2
  have rowK : ∀ {e : TypeId} {size n : Nat} {x : Value} {xs : List Value}, w.ownsRow lo e size x n xs → (∀ b, x.ownBlock = some b → v.ownBlock ≠ some b) → w'.ownsRow lo e size x n xs := by
    intro e size n x xs hr hne
    refine World.ownsRow.kept hr hg ?_
    cases hx : x.ownBlock with
    | none => exact Or.inl rfl
    | some b => exact Or.inr fun e => hne b hx e.symm
  have ownK : ∀ q : ND, q.own lo w → (∀ s b, q.comp s = some b → v.ownBlock ≠ some b) → q.own lo w' := by
    intro q ⟨h1, ⟨a, c, e, hk⟩, ⟨a', c', e', ht⟩⟩ hne
    refine ⟨h1, ⟨a, c, e, ?_⟩, ⟨a', c', e', ?_⟩⟩
    · by_cases h0 : q.n.kids = []
      · exact Or.inl h0
      · exact Or.inr (rowK (hk.resolve_left h0) fun b hb => hne true b (by
          unfold ND.comp blk
          rw [if_pos rfl, if_neg (by simpa using h0)]; exact hb))
    · by_cases h0 : q.n.rl = 0
      · exact Or.inl h0
      · exact Or.inr (rowK (ht.resolve_left h0) fun b hb => hne false b (by
          unfold ND.comp blk
          rw [if_neg (by decide), if_neg h0]; exact hb))
  have newB : ∀ b, b < w.heap.size → v.ownBlock ≠ some b → v'.ownBlock ≠ some b := fun b h1 h2 => by
    rcases hb with e | e
    · rw [e]; exact h2
    · rw [e]; intro e'; simp at e'; omega
  refine ⟨by rw [List.length_append, cellsN_push]; exact hrow, fun q hq => ?_, fun i j mi mj s t b hi hj hs ht => ?_⟩
  · rcases List.mem_append.1 hq with hq | hq
    · exact ⟨ownK q (h.2.1 q hq).1 (h.2.1 q hq).2, fun s b hb => newB b (hlt q hq s b hb) ((h.2.1 q hq).2 s b hb)⟩
    · simp at hq
      subst hq
      exact ⟨ownK _ hm fun s b hb => (hap s b hb).1, fun s b hb => newB b (hap s b hb).2.1 (hap s b hb).1⟩
  · by_cases ei : i < ms.length
    · rw [List.getElem?_append_left ei] at hi
      by_cases ej : j < ms.length
      · rw [List.getElem?_append_left ej] at hj
        exact h.2.2 i j mi mj s t b hi hj hs ht
      · rw [List.getElem?_append_right (by omega)] at hj
        have hj0 : j - ms.length = 0 := by have := (List.getElem?_eq_some_iff.1 hj).1; simp at this; omega
        rw [hj0] at hj
        simp at hj
        subst hj
        exact absurd hs ((hap t b ht).2.2 mi (List.mem_of_getElem? hi) s)
    · rw [List.getElem?_append_right (by omega)] at hi
      have hi0 : i - ms.length = 0 := by have := (List.getElem?_eq_some_iff.1 hi).1; simp at this; omega
      rw [hi0] at hi
      simp at hi
      subst hi
      by_cases ej : j < ms.length
      · rw [List.getElem?_append_left ej] at hj
        exact absurd ht ((hap s b hs).2.2 mj (List.mem_of_getElem? hj) t)
      · rw [List.getElem?_append_right (by omega)] at hj
        have hj0 : j - ms.length = 0 := by have := (List.getElem?_eq_some_iff.1 hj).1; simp at this; omega
        rw [hj0] at hj
        simp at hj
        subst hj
        refine ⟨by omega, ?_⟩
        cases s <;> cases t
        · rfl
        · exact absurd hs (hin b ht)
        · exact absurd ht (hin b hs)
        · rfl
set_option linter.unusedVariables false
set_option linter.unusedSimpArgs false
set_option maxRecDepth 8000

theorem fold_put : ∀ (vs : List Value) (cs : Array Value) (o : Nat), (vs.zipIdx o).foldl (fun cs (cj : Value × Nat) => cs.setIfInBounds cj.2 cj.1) cs = putA cs o vs
  | [], _, _ => rfl
  | v :: vs, cs, o => by
    rw [List.zipIdx_cons, List.foldl_cons, fold_put vs, putA]
theorem run_bs_nd (w : World) (arr : Array Value) (ha : arr.size = 64) : (Instr.buildSlice 24 1 #[(0, .agg arr)]).run Try.prog w = .ok (.slice (some ⟨w.heap.size, 0, none⟩) 1 1) (w.alloc (.cells arr 61)) := by
  obtain ⟨i0, hi, hz0, hz1, hz2⟩ := info_parts info_node
  have hzz : (Value.agg nZ).cells = nZ := rfl
  have hcc : (Value.agg arr).cells = arr := rfl
  unfold Instr.buildSlice
  simp [Sem.run_bind, run_underlying Try.underlying24, sizeOf, typeInfo, hi, hz1, zeroValue, hz0, Instr.fill, hcc, ha, newRow, newObj]
  have hf : ∀ Z : Array Value, Z.size = 64 → Array.foldl (fun cs (x : Value × Nat) => cs.setIfInBounds x.snd x.fst) Z arr.zipIdx 0 64 = arr := fun Z hZ => by
    have h64 : (64 : Nat) = arr.zipIdx.size := by simp [ha]
    rw [h64, ← Array.foldl_toList, Array.toList_zipIdx, fold_put, putA_all _ _ (by simp [hZ, ha])]
  rw [hf _ (by simp)]
  rfl
theorem list_bs_nd {ops : Array Oper} {rest : List Oper} {op : Oper} {a : Act} {w : World} {Q : Exit → Act → World → Prop} {arr : Array Value} (hgd : op.guard = none) (x : Operand) (ho : op.op = .buildSlice 24 1 #[(0, x)]) (hx : a.eval x = .agg arr) (ha : arr.size = 64)
    (h : wpList Try.prog ops Q rest (a.put op.dst (.slice (some ⟨w.heap.size, 0, none⟩) 1 1)) (w.alloc (.cells arr 61))) : wpList Try.prog ops Q (op :: rest) a w := by
  refine wpList_plain hgd fun K hK => ?_
  unfold Oper.wp execOp
  simp only [ho, Sem.run_bind, List.map_toArray, List.map_cons, List.map_nil, hx, run_bs_nd w arr ha, Result.andThen_ok, Sem.run_pure]
  exact hK _ _ h
theorem wp_bs_nd {op : Oper} {a : Act} {w : World} {K : Act → World → Prop} {Q : Exit → Act → World → Prop} {arr : Array Value} (x : Operand) (ho : op.op = .buildSlice 24 1 #[(0, x)]) (hx : a.eval x = .agg arr) (ha : arr.size = 64)
    (h : K (a.put op.dst (.slice (some ⟨w.heap.size, 0, none⟩) 1 1)) (w.alloc (.cells arr 61))) : op.wp Try.prog a w K Q := by
  unfold Oper.wp execOp
  simp only [ho, Sem.run_bind, List.map_toArray, List.map_cons, List.map_nil, hx, run_bs_nd w arr ha, Result.andThen_ok, Sem.run_pure]
  exact h
set_option linter.unusedVariables false
set_option linter.unusedSimpArgs false
set_option maxRecDepth 8000

/-- A tree of the call's own comes back. -/
def CpPost (ns : List PN) (w : World) (e : Ending) (w' : World) : Prop :=
  ∃ (v : Value) (ms : List ND), ms.map ND.n = ns ∧ e = .returned (.agg #[v]) ∧ OwnN w.heap.size v ms w' ∧ Below w.heap.size w w'
theorem ownN_nil (lo : Nat) (w : World) : OwnN lo (.slice none 0 0) [] w := by
  refine ⟨World.ownsRow_nil _ _ _ _, ?_, ?_⟩
  · intro m hm; cases hm
  · intro i j mi mj s t b h; simp at h
theorem cp_nodep {b : Bool} {p : Prop} (hb : b = false) : b = true → p := fun h => by rw [hb] at h; cases h
theorem cp_grown {w w' : World} {g : Nat} {o : Obj} {row : Option Nat} (h : w.heap[g]? = some o) (hg : w.grownBy w' row) (hne : some g ≠ row) : w'.heap[g]? = some o := (hg.block g (hp_lt h) hne).trans h
theorem map_len {ms : List ND} {ns : List PN} (h : ms.map ND.n = ns) : ms.length = ns.length := by rw [← h]; simp
def TcRel (ns : List PN) (w : World) (i : Value) (wr : World) : Prop :=
  ∃ (k : Nat) (v : Value) (ms : List ND), k ≤ ns.length ∧ i = .int .i64 k ∧ ms.map ND.n = ns.take k ∧ wr.heap[w.heap.size + 2]? = some (.cells #[v] 26) ∧ wr.heap[w.heap.size + 1]? = some (.cells #[.slice none 0 0] 26) ∧
    OwnN (w.heap.size + 3) v ms wr ∧ Below w.heap.size w wr
set_option maxHeartbeats 4000000 in
theorem itrcopy (a : Option Addr) (cap : Nat) (ns : List PN) (w : World) (hz : Nds w a ns) (hl : szS ns ≤ 1048576) :
    Calls Try.prog 62 #[.agg #[.slice a ns.length cap]] w (CpPost ns w) := by
  obtain ⟨i0, hi0, hz0, hz1, hz2⟩ := info_parts info_node
  have hnl : ns.length ≤ 1048576 := by unfold szS at hl; omega
  have HL := Lib.hid hl
  have bb := below_three w (.cells #[.slice a ns.length cap] 26) (.cells #[.slice none 0 0] 26) (.cells #[.slice none 0 0] 26)
  have h0 := hp_on (hp_on (hp_new w (.cells #[.slice a ns.length cap] 26)) (.cells #[.slice none 0 0] 26)) (.cells #[.slice none 0 0] 26)
  have h1 := hp_on (hp_new (w.alloc (.cells #[.slice a ns.length cap] 26)) (.cells #[.slice none 0 0] 26)) (.cells #[.slice none 0 0] 26)
  have h2 := hp_new ((w.alloc (.cells #[.slice a ns.length cap] 26)).alloc (.cells #[.slice none 0 0] 26)) (.cells #[.slice none 0 0] 26)
  simp only [World.size_alloc] at h1 h2
  obtain ⟨u, eu⟩ : ∃ u, u = (((w.alloc (.cells #[.slice a ns.length cap] 26)).alloc (.cells #[.slice none 0 0] 26)).alloc (.cells #[.slice none 0 0] 26)) := ⟨_, rfl⟩
  rw [← eu] at bb h0 h1 h2
  have hs : u.heap.size = w.heap.size + 3 := by rw [eu]; simp
  have c0 : u.cell? ⟨w.heap.size, 0, none⟩ = some (.slice a ns.length cap) := (Go.Joins.cell_of_block h0 0).trans rfl
  have EU := Lib.hid eu
  have HZ := Lib.hid hz
  have HBB := Lib.hid bb
  have H1 := Lib.hid h1
  have H2 := Lib.hid h2
  clear hz eu bb h0 h1 h2 hl hs
  go_enter Try.func62, Try.ntmps62
  go_wp2_with (rw [← EU.out])
  go_loopw [5, 9] (fun _ iv wr => TcRel ns w iv wr) (fun _ i _ => ns.length - (intOf i).toNat)
  case atStart => exact ⟨0, .slice none 0 0, [], Nat.zero_le _, rfl, rfl, H2.out, H1.out, ownN_nil _ _, HBB.out⟩
  case round =>
    obtain ⟨k, v, ms, hk, rfl, hms, hb2, hb1, ho, hb⟩ := hrel
    clear c0 H1 H2 HBB
    by_cases hlt : k < ns.length
    · have hlo : (0 : Int) ≤ (k : Int) := Int.natCast_nonneg _
      have hhi : (k : Int) < (ns.length : Int) := by omega
      have hsz := szK_le hlt
      have hkl : ns[k].kids.length ≤ 1048576 := by have := HL.out; unfold szS at this; unfold szK at hsz; omega
      have htl : ns[k].rl ≤ 1048576 := by have := HL.out; unfold szS at this; unfold szK at hsz; omega
      have hok := HZ.out.1 ns[k] (List.getElem_mem hlt)
      obtain ⟨b, off, rfl, hbl, ⟨kv, tv, hrg, ⟨ka, kc, rfl, hki⟩, ⟨ta, tc, rfl, hti⟩⟩⟩ := (HZ.out.below hb).look hlt
      have htake : ns.take (k + 1) = ns.take k ++ [ns[k]] := List.take_succ_eq_append_getElem hlt
      have HTK := Lib.hid htake
      have hml : ms.length = k := by rw [map_len hms, List.length_take]; omega
      generalize ns[k] = n at *
      obtain ⟨v0, ev0⟩ : ∃ v0, v0 = wr.alloc (.cells nZ 61) := ⟨_, rfl⟩
      have b0 : Below wr.heap.size wr v0 := by rw [ev0]; exact Go.Joins.below_alloc1 _ _
      have hX0 : v0.heap[wr.heap.size]? = some (.cells nZ 61) := by rw [ev0]; exact hp_new wr _
      have RG := Lib.hid hrg
      have T1 := Lib.hid (there_block hX0 0 64 (by show 0 + 64 ≤ nZ.size; rw [nZ, nA_size]; decide))
      obtain ⟨v1, ev1⟩ : ∃ v1, v1 = v0.setCells wr.heap.size 0 (nL n.up (.slice ka n.kids.length kc) n.sty n.meas (.slice ta n.rl tc)) := ⟨_, rfl⟩
      have hX := hp_puts (nL n.up (.slice ka n.kids.length kc) n.sty n.meas (.slice ta n.rl tc)) 0 _ v0 hX0
      rw [putA_all _ _ (by rw [nL_len]; exact (nA_size ..).symm), ← ev1] at hX
      have bv : Below wr.heap.size wr v1 := by rw [ev1]; exact below_cells (Nat.le_refl _) _ _ _ b0
      have hRX : v1.rangeAt wr.heap.size 0 (nL n.up (.slice ka n.kids.length kc) n.sty n.meas (.slice ta n.rl tc)) := range_block hX
      have hb3 := hb.trans (bv.mono hb.size)
      have hb22 := hp_below hb2 bv
      have hb12 := hp_below hb1 bv
      have ho2 := ho.below bv
      have hsz2 : w.heap.size + 2 < v1.heap.size := hp_lt hb22
      have EV0 := Lib.hid ev0
      have EV1 := Lib.hid ev1
      have KI := Lib.hid (hki.below bv)
      have TI := Lib.hid (hti.below bv)
      have HMS := Lib.hid hms
      have HOK := Lib.hid hok
      have hk1 : (Value.slice ka n.kids.length kc).oneCell' = true := rfl
      have ht1 : (Value.slice ta n.rl tc).oneCell' = true := rfl
      clear ev0 ev1 hki hti hrg hX0 hX b0 bv hb hb2 hb1 ho hms hsz htake hok
      go_wp2_with (first
        | ((with_reducible apply list_load_nd); exact rfl; exact rfl; exact rfl; (with_reducible exact RG.out); simp only [Act.put, List.setIfInBounds_toArray, List.set_cons_succ, List.set_cons_zero])
        | ((with_reducible apply list_alloc_nd); exact rfl; exact rfl; simp only [World.size_alloc, Act.put, List.setIfInBounds_toArray, List.set_cons_succ, List.set_cons_zero])
        | (rw [← EV0.out])
        | ((with_reducible apply list_store_nd); exact rfl; exact rfl; exact rfl; exact rfl; (with_reducible exact T1.out); (with_reducible exact hk1); (with_reducible exact ht1); simp only [Act.put, List.setIfInBounds_toArray, List.set_cons_succ, List.set_cons_zero])
        | (rw [← EV1.out])
        | fail)
      obtain ⟨va, vc, ev⟩ := own_form ho2.1
      rw [hml] at ev
      subst ev
      have hbd : Below w.heap.size w v1.drew := hb3.drew
      have hd2 : v1.drew.heap[w.heap.size + 2]? = _ := hb22
      have hd1 : v1.drew.heap[w.heap.size + 1]? = _ := hb12
      have hod : OwnN (w.heap.size + 3) (.slice va k vc) ms v1.drew := ho2
      have hRXd : v1.drew.rangeAt wr.heap.size 0 (nL n.up (.slice ka n.kids.length kc) n.sty n.meas (.slice ta n.rl tc)) := hRX
      have KId : Ints v1.drew ka n.kids.length n.kids := KI.out
      have TId : Rls v1.drew ta n.rl n.rules := TI.out
      have hsd : w.heap.size + 2 < v1.drew.heap.size := hsz2
      have cT : v1.drew.cell? ⟨w.heap.size + 2, 0, none⟩ = some (.slice va k vc) := (Go.Joins.cell_of_block hd2 0).trans rfl
      clear hb3 hb22 hb12 ho2 hRX KI TI hsz2 EV0 EV1 RG T1
      refine wp_region_any (by kernel_rfl) ?_
      change wpAny _ _ _ _ 8 (Array.replicate 8 false) _ v1.drew
      generalize v1.drew = w2 at *
      generalize wr.heap.size = X at *
      refine wpAny_take (i := 0) (oi := ⟨some 13, Op.fieldAddr 26 (Operand.tmp 3) 0, _, _, _, _⟩) (v := .pointer (some ⟨w.heap.size + 2, 0, none⟩)) rfl (by kernel_rfl) (by kernel_rfl) (by kernel_rfl) (fun _ _ _ h => h) (Or.inl ⟨by rfl, fun W => by go_simp <;> with_reducible rfl⟩) ?_
      simp only [Act.put, List.setIfInBounds_toArray, List.set_cons_zero, List.set_cons_succ]
      refine wpAnyD_take (S := fun w' => w'.cell? ⟨w.heap.size + 2, 0, none⟩ = some (.slice va k vc)) (i := 1) (oi := ⟨some 14, Op.load 24 (Operand.tmp 13), _, _, _, _⟩) (v := .slice va k vc) rfl (by kernel_rfl) (by kernel_rfl) (by kernel_rfl) (by kernel_rfl) (fun _ _ _ h => h) (Or.inl ⟨by rfl, fun W hW => by go_simp <;> with_reducible rfl⟩) cT ?_
      simp only [Act.put, List.setIfInBounds_toArray, List.set_cons_zero, List.set_cons_succ]
      refine anyD_one 2 rfl (by kernel_rfl) rfl ?_
      refine wp_load_mid 61 _ rfl X 0 rfl _ _ hRXd nd_under rfl (nd_size ..) ?_
      simp only [Act.put, List.setIfInBounds_toArray, List.set_cons_zero, List.set_cons_succ]
      refine ⟨fun _ => cT, ?_⟩
      clear cT hRXd
      refine anyD_one 3 rfl (by kernel_rfl) rfl ?_
      go_wp2_with (fail)
      refine (indcopy n ka kc ta tc w2 HOK.out KId TId hkl htl).mono ?_
      rintro e w3 ⟨m, hmn, rfl, hmo, hap, b3⟩
      have hd23 := hp_below hd2 b3
      have hd13 := hp_below hd1 b3
      have ho3 := hod.below b3
      have hb3 := hbd.trans (b3.mono hbd.size)
      have hmc : ∀ s b, m.comp s = some b → w2.heap.size ≤ b ∧ b < w3.heap.size := fun s b h => hmo.lt s b h
      have hold : ∀ mj ∈ ms, ∀ t b, mj.comp t = some b → b < w2.heap.size := fun mj hj t b hc => ((hod.2.1 mj hj).1.lt t b hc).2
      have hvold : ∀ b, (Value.slice va k vc).ownBlock = some b → b < w2.heap.size := fun b h => (World.ownsRow.lt hod.1 b h).2
      have hs3 : w2.heap.size ≤ w3.heap.size := b3.size
      clear hbd hd2 hd1 hod KId TId b3
      (try dsimp only)
      refine ⟨fun _ => (Go.Joins.cell_of_block hd23 0).trans rfl, ?_⟩
      refine anyD_one 4 rfl (by kernel_rfl) rfl ?_
      refine wp_bs_nd _ rfl rfl (nA_size ..) ?_
      simp only [Act.put, List.setIfInBounds_toArray, List.set_cons_zero, List.set_cons_succ]
      have hcell : (nA n.up m.kv n.sty n.meas m.tv).toList = m.cells := by rw [← hmn]; rfl
      have b4 := Go.Joins.below_alloc1 w3 (.cells (nA n.up m.kv n.sty n.meas m.tv) 61)
      have hn4 := World.news_of_block (hp_new w3 (.cells (nA n.up m.kv n.sty n.meas m.tv) 61))
      rw [hcell] at hn4
      have hd24 := hp_below hd23 b4
      have hd14 := hp_below hd13 b4
      have ho4 := ho3.below b4
      have hb4 := hb3.trans (b4.mono hb3.size)
      have hmo4 := (hmo.kept (From.of_below b4)).lower (lo' := w.heap.size + 3) (by omega)
      have hs4 : (w3.alloc (.cells (nA n.up m.kv n.sty n.meas m.tv) 61)).heap.size = w3.heap.size + 1 := by simp
      clear hd23 hd13 ho3 hb3 hmo b4
      generalize w3.alloc (.cells (nA n.up m.kv n.sty n.meas m.tv) 61) = w4 at *
      refine ⟨fun _ => (Go.Joins.cell_of_block hd24 0).trans rfl, ?_⟩
      refine anyD_one 5 rfl (by kernel_rfl) rfl ?_
      have hrow4 := ho4.1
      rw [hml] at hrow4
      obtain ⟨o1, o2⟩ := hmo4.one
      refine wp_append_any _ _ 24 rfl (w.heap.size + 3) 61 i0 (.agg nZ) 64 536 Try.underlying24 hi0 hz0 hz1 hz2 (nA_size ..) (by decide) (.slice va k vc) k (cellsN ms) rfl hrow4 (some ⟨w3.heap.size, 0, none⟩) 1 1 m.cells rfl (by rw [ND.cells_len]) (Or.inr ⟨_, rfl, hn4⟩) (nL_one o1 o2) (by unfold maxLen; omega) (by omega) (by omega) ?_
      intro v' w8 hown8 hgrow8 hat8
      have ho8 : OwnN (w.heap.size + 3) v' (ms ++ [m]) w8 := ho4.push hmo4 (fun s b h => ⟨fun e => by have := hvold b e; have := (hmc s b h).1; omega, by have := (hmc s b h).2; omega, fun mj hj t hc => by have := hold mj hj t b hc; have := (hmc s b h).1; omega⟩) hap (by rw [hml]; exact hown8) hgrow8 hat8
      have hne8 : ∀ b, (Value.slice va k vc).ownBlock = some b → w.heap.size + 3 ≤ b := fun b h => (World.ownsRow.lt hrow4 b h).1
      have hd28 := cp_grown hd24 hgrow8 (fun e => by have := hne8 _ e.symm; omega)
      have hd18 := cp_grown hd14 hgrow8 (fun e => by have := hne8 _ e.symm; omega)
      have hb8 : Below w.heap.size w w8 := hb4.grown hgrow8 hb4.size (fun b h => by have := hne8 b h; omega)
      have hml8 : (ms ++ [m]).length = k + 1 := by rw [List.length_append, hml]; rfl
      obtain ⟨va8, vc8, ev8⟩ := own_form ho8.1
      rw [hml8] at ev8
      subst ev8
      clear hd24 hd14 ho4 hb4 hmo4 hrow4 hown8 hgrow8 hat8 hne8 hn4 o1 o2
      (try dsimp only)
      refine ⟨cp_nodep (by kernel_rfl), ?_⟩
      refine anyD_one 6 rfl (by kernel_rfl) rfl ?_
      go_wp2_with (fail)
      refine ⟨cp_nodep (by kernel_rfl), ?_⟩
      refine anyD_one 7 rfl (by kernel_rfl) rfl ?_
      have cT8 : w8.cell? ⟨w.heap.size + 2, 0, none⟩ = some (.slice va k vc) := (Go.Joins.cell_of_block hd28 0).trans rfl
      have fT8 := Go.Joins.unfrozen_of_block hd28 0
      have hd29 := Go.Joins.block_setCell (i := 0) hd28 (.slice va8 (k + 1) vc8)
      have hd29' : (w8.setCell ⟨w.heap.size + 2, 0, none⟩ (.slice va8 (k + 1) vc8)).heap[w.heap.size + 2]? = some (.cells #[.slice va8 (k + 1) vc8] 26) := by simpa using hd29
      have HD29 := Lib.hid hd29'
      have HD19 := Lib.hid (hp_set hd18 (show w.heap.size + 1 ≠ w.heap.size + 2 by omega) 0 (.slice va8 (k + 1) vc8))
      have HO9 := Lib.hid (ho8.kept (from_set (g := w.heap.size + 2) (by omega) 0 (.slice va8 (k + 1) vc8)))
      have HB9 := Lib.hid (bl_set hb8 (g := w.heap.size + 2) 0 (by omega) (.slice va8 (k + 1) vc8))
      have HMM := Lib.hid (show (ms ++ [m]).map ND.n = ns.take (k + 1) by rw [HTK.out, List.map_append, HMS.out, List.map_cons, List.map_nil, hmn])
      clear hd28 hd29 hd29' hd18 ho8 hb8
      go_wp2_with (fail)
      refine ⟨by kernel_rfl, ?_⟩
      refine anyD_done (by kernel_rfl) ?_ _
      clear cT8 fT8
      go_wp2
      go_roundw
      case rel => exact ⟨k + 1, _, ms ++ [m], by omega, by go_num, HMM.out, HD29.out, HD19.out, HO9.out, HB9.out⟩
      case measure => simp [intOf]; omega
    · obtain rfl : k = ns.length := by omega
      rw [List.take_length] at hms
      have z1 : wr.cell? ⟨w.heap.size + 1, 0, none⟩ = some (.slice none 0 0) := (Go.Joins.cell_of_block hb1 0).trans rfl
      have F1 := Go.Joins.unfrozen_of_block hb1 0
      obtain ⟨va, vc, rfl⟩ := own_form ho.1
      have z2 : wr.cell? ⟨w.heap.size + 2, 0, none⟩ = some (.slice va ms.length vc) := (Go.Joins.cell_of_block hb2 0).trans rfl
      have g3 := Go.Joins.block_setCell (i := 0) hb1 (.slice va ms.length vc)
      have z3 := Go.Joins.cell_of_block g3 0
      simp at z3
      have R2 := Lib.hid (ho.kept (from_set (g := w.heap.size + 1) (by omega) 0 (.slice va ms.length vc)))
      have B2 := Lib.hid (bl_set hb (g := w.heap.size + 1) 0 (by omega) (.slice va ms.length vc))
      have HMS := Lib.hid hms
      clear hb hb1 hb2 ho g3 hms
      go_wp2
      refine bodyPost_ret (v := .agg #[.slice va ms.length vc]) (by simp [results, Try.results62, go_sem, z3]) rfl ⟨_, ms, HMS.out, rfl, OwnN.lower R2.out (by omega), B2.out⟩
/-- Of a node without children the slice has no room. -/
def KCs (ms : List ND) : Prop := ∀ m ∈ ms, m.n.kids = [] → ∃ a, m.kv = .slice a 0 0
theorem KCs.push {ms : List ND} {m : ND} (h : KCs ms) (hm : m.n.kids = [] → ∃ a, m.kv = .slice a 0 0) : KCs (ms ++ [m]) := fun x hx => by
  rcases List.mem_append.1 hx with hx | hx
  · exact h x hx
  · simp at hx
    subst hx
    exact hm
theorem KCs.set {ms : List ND} {m : ND} {k : Nat} (h : KCs ms) (hm : m.n.kids = [] → ∃ a, m.kv = .slice a 0 0) : KCs (ms.set k m) := fun x hx => by
  rcases List.mem_or_eq_of_mem_set hx with hx | rfl
  · exact h x hx
  · exact hm
def CpPostK (ns : List PN) (w : World) (e : Ending) (w' : World) : Prop :=
  ∃ (v : Value) (ms : List ND), ms.map ND.n = ns ∧ e = .returned (.agg #[v]) ∧ OwnN w.heap.size v ms w' ∧ Below w.heap.size w w' ∧ KCs ms
def LcpRel (ns : List PN) (w u : World) (i : Value) (wr : World) : Prop :=
  ∃ (k : Nat) (v : Value) (ms : List ND), k ≤ ns.length ∧ i = .int .i64 k ∧ ms.map ND.n = ns.take k ∧ wr.heap[w.heap.size + 2]? = some (.cells #[v] 26) ∧ wr.heap[w.heap.size + 1]? = some (.cells #[.slice none 0 0] 26) ∧
    OwnN (w.heap.size + 3) v ms wr ∧ Below w.heap.size w wr ∧ Below (w.heap.size + 1) u wr ∧ KCs ms
set_option maxHeartbeats 4000000 in
theorem sl10copyK (a : Option Addr) (cap : Nat) (ns : List PN) (w : World) (hz : Nds w a ns) (hl : szS ns ≤ 1048576) :
    Calls Try.prog 68 #[.agg #[.slice a ns.length cap]] w (CpPostK ns w) := by
  obtain ⟨i0, hi0, hz0, hz1, hz2⟩ := info_parts info_node
  obtain ⟨j0, hj0, hjz0, hjz1, hjz2⟩ := info_parts info_intC
  obtain ⟨r0, hr0, hrz0, hrz1, hrz2⟩ := info_parts info_rule
  have hnl : ns.length ≤ 1048576 := by unfold szS at hl; omega
  have HL := Lib.hid hl
  have bb := below_three w (.cells #[.slice a ns.length cap] 26) (.cells #[.slice none 0 0] 26) (.cells #[.slice none 0 0] 26)
  have h0 := hp_on (hp_on (hp_new w (.cells #[.slice a ns.length cap] 26)) (.cells #[.slice none 0 0] 26)) (.cells #[.slice none 0 0] 26)
  have h1 := hp_on (hp_new (w.alloc (.cells #[.slice a ns.length cap] 26)) (.cells #[.slice none 0 0] 26)) (.cells #[.slice none 0 0] 26)
  have h2 := hp_new ((w.alloc (.cells #[.slice a ns.length cap] 26)).alloc (.cells #[.slice none 0 0] 26)) (.cells #[.slice none 0 0] 26)
  simp only [World.size_alloc] at h1 h2
  obtain ⟨u, eu⟩ : ∃ u, u = (((w.alloc (.cells #[.slice a ns.length cap] 26)).alloc (.cells #[.slice none 0 0] 26)).alloc (.cells #[.slice none 0 0] 26)) := ⟨_, rfl⟩
  rw [← eu] at bb h0 h1 h2
  have hs : u.heap.size = w.heap.size + 3 := by rw [eu]; simp
  have c0 : u.cell? ⟨w.heap.size, 0, none⟩ = some (.slice a ns.length cap) := (Go.Joins.cell_of_block h0 0).trans rfl
  have EU := Lib.hid eu
  have HZ := Lib.hid hz
  have H2s : (u.setCell ⟨w.heap.size + 1 + 1, 0, none⟩ (.slice none 0 0)).heap[w.heap.size + 2]? = some (.cells #[.slice none 0 0] 26) := Go.Joins.block_setCell (i := 0) h2 (.slice none 0 0)
  have H2 := Lib.hid H2s
  have H1 := Lib.hid (hp_set (g' := w.heap.size + 1 + 1) h1 (by omega) 0 (.slice none 0 0))
  have HBB := Lib.hid (bl_set bb (g := w.heap.size + 1 + 1) 0 (by omega) (.slice none 0 0))
  have HBU := Lib.hid (bl_set (Below.refl (w.heap.size + 1) u) (g := w.heap.size + 1 + 1) 0 (by omega) (.slice none 0 0))
  clear H2s
  have H0 := Lib.hid h0
  have SU := Lib.hid hs
  have z2 : u.cell? ⟨w.heap.size + 2, 0, none⟩ = some (.slice none 0 0) := (Go.Joins.cell_of_block h2 0).trans rfl
  have F2 := Go.Joins.unfrozen_of_block h2 0
  clear hz eu bb h0 h1 h2 hl hs
  go_enter Try.func68, Try.ntmps68
  go_wp2_with (rw [← EU.out])
  go_loopw [4, 5] (fun iv _ wr => LcpRel ns w u iv wr) (fun i _ _ => ns.length - (intOf i).toNat)
  case atStart => exact ⟨0, .slice none 0 0, [], Nat.zero_le _, rfl, rfl, H2.out, H1.out, ownN_nil _ _, HBB.out, HBU.out, fun m hm => by cases hm⟩
  case round =>
    obtain ⟨k, v, ms, hk, rfl, hms, hb2, hb1, ho, hb, hbu, hkcs⟩ := hrel
    have HKCS := Lib.hid hkcs
    clear hkcs
    have ctr : wr.cell? ⟨w.heap.size, 0, none⟩ = some (.slice a ns.length cap) := (hbu.cell (p := ⟨w.heap.size, 0, none⟩) (Nat.lt_succ_self _)).trans c0
    clear c0 H1 H2 HBB HBU z2 F2
    by_cases hlt : k < ns.length
    · have hlo : (0 : Int) ≤ (k : Int) := Int.natCast_nonneg _
      have hhi : (k : Int) < (ns.length : Int) := by omega
      have hsz := szK_le hlt
      have hkl : ns[k].kids.length ≤ 1048576 := by have := HL.out; unfold szS at this; unfold szK at hsz; omega
      have htl : ns[k].rl ≤ 1048576 := by have := HL.out; unfold szS at this; unfold szK at hsz; omega
      have hok := HZ.out.1 ns[k] (List.getElem_mem hlt)
      obtain ⟨b, off, rfl, hbl, ⟨kv, tv, hrg, ⟨ka, kc, rfl, hki⟩, ⟨ta, tc, rfl, hti⟩⟩⟩ := (HZ.out.below hb).look hlt
      have htake : ns.take (k + 1) = ns.take k ++ [ns[k]] := List.take_succ_eq_append_getElem hlt
      have HTK := Lib.hid htake
      have hml : ms.length = k := by rw [map_len hms, List.length_take]; omega
      generalize ns[k] = n at *
      obtain ⟨v0, ev0⟩ : ∃ v0, v0 = wr.alloc (.cells nZ 61) := ⟨_, rfl⟩
      have b0 : Below wr.heap.size wr v0 := by rw [ev0]; exact Go.Joins.below_alloc1 _ _
      have hX0 : v0.heap[wr.heap.size]? = some (.cells nZ 61) := by rw [ev0]; exact hp_new wr _
      have RG := Lib.hid hrg
      have T1 := Lib.hid (there_block hX0 0 64 (by show 0 + 64 ≤ nZ.size; rw [nZ, nA_size]; decide))
      obtain ⟨v1, ev1⟩ : ∃ v1, v1 = v0.setCells wr.heap.size 0 (nL n.up (.slice ka n.kids.length kc) n.sty n.meas (.slice ta n.rl tc)) := ⟨_, rfl⟩
      have hX := hp_puts (nL n.up (.slice ka n.kids.length kc) n.sty n.meas (.slice ta n.rl tc)) 0 _ v0 hX0
      rw [putA_all _ _ (by rw [nL_len]; exact (nA_size ..).symm), ← ev1] at hX
      have bv : Below wr.heap.size wr v1 := by rw [ev1]; exact below_cells (Nat.le_refl _) _ _ _ b0
      have hRX : v1.rangeAt wr.heap.size 0 (nL n.up (.slice ka n.kids.length kc) n.sty n.meas (.slice ta n.rl tc)) := range_block hX
      have hb3 := hb.trans (bv.mono hb.size)
      have hb22 := hp_below hb2 bv
      have hb12 := hp_below hb1 bv
      have ho2 := ho.below bv
      have hsz2 : w.heap.size + 2 < v1.heap.size := hp_lt hb22
      have EV0 := Lib.hid ev0
      have EV1 := Lib.hid ev1
      have KI := Lib.hid (hki.below bv)
      have TI := Lib.hid (hti.below bv)
      have HMS := Lib.hid hms
      have HOK := Lib.hid hok
      have hk1 : (Value.slice ka n.kids.length kc).oneCell' = true := rfl
      have ht1 : (Value.slice ta n.rl tc).oneCell' = true := rfl
      have HBU := Lib.hid hbu
      have TIW := Lib.hid hti
      have OW := Lib.hid ho
      have DW2 := Lib.hid hb2
      have DW1 := Lib.hid hb1
      have BWW := Lib.hid hb
      clear ev0 ev1 hrg hX0 b0 hb hms hsz htake hok hki hti hb2 hb1 ho
      obtain ⟨X, eX⟩ : ∃ X, X = wr.heap.size := ⟨_, rfl⟩
      rw [← eX] at hX hRX bv T1 EV1
      have hXs : X < v1.heap.size := hp_lt hX
      -- the children
      obtain ⟨v2, ev2⟩ : ∃ v2, v2 = v1.alloc (.cells #[] 3) := ⟨_, rfl⟩
      have b2 : Below v1.heap.size v1 v2 := by rw [ev2]; exact Go.Joins.below_alloc1 _ _
      have hown2 : v2.ownsRow v1.heap.size 3 1 (.slice (some ⟨v1.heap.size, 0, none⟩) 0 0) 0 [] := by rw [ev2]; exact World.ownsRow_lit v1 #[] 0 (Nat.le_refl _) (by unfold maxLen; omega) rfl
      have s2 : v2.heap.size = v1.heap.size + 1 := by rw [ev2]; simp
      have hX2 := hp_below hX b2
      have cX1 : v2.cell? ⟨X, 1, none⟩ = some (.slice ka n.kids.length kc) := (Go.Joins.cell_of_block hX2 1).trans rfl
      have HN2 := Lib.hid (ints_news (KI.out.below b2))
      have HO2 := Lib.hid hown2
      have EV2 := Lib.hid ev2
      have S2 := Lib.hid s2
      have HX2 := Lib.hid hX2
      have HB2 := Lib.hid b2
      have HBV := Lib.hid bv
      have HD2 := Lib.hid hb22
      have HD1 := Lib.hid hb12
      have HO := Lib.hid ho2
      have HBW := Lib.hid hb3
      have EX := Lib.hid eX
      clear ev2 b2 hown2 s2 hX2 hX bv hb22 hb12 ho2 hb3 eX hRX hbu
      go_wp2_with (first
        | ((with_reducible apply list_load_nd); exact rfl; exact rfl; exact rfl; (with_reducible exact RG.out); simp only [Act.put, List.setIfInBounds_toArray, List.set_cons_succ, List.set_cons_zero])
        | ((with_reducible apply list_alloc_nd); exact rfl; exact rfl; simp only [World.size_alloc, Act.put, List.setIfInBounds_toArray, List.set_cons_succ, List.set_cons_zero])
        | (rw [← EV0.out, ← EX.out])
        | (rw [← EV0.out])
        | ((with_reducible apply list_store_nd); exact rfl; exact rfl; exact rfl; exact rfl; (with_reducible exact T1.out); (with_reducible exact hk1); (with_reducible exact ht1); simp only [Act.put, List.setIfInBounds_toArray, List.set_cons_succ, List.set_cons_zero])
        | (rw [← EV1.out])
        | (rw [← EV2.out])
        | (at_builtin; refine list_append_anyZ rfl _ _ 59 rfl v1.heap.size 3 j0 (.int .i64 0) 1 8 Try.underlying59 hj0 hjz0 hjz1 hjz2 rfl (by decide) _ 0 [] rfl HO2.out ka n.kids.length kc (n.kids.map (Value.int .i64)) rfl (by simp) HN2.out (ints_one' n.kids) (by unfold maxLen; omega) (by omega) (by have := S2.out; omega) ?_)
        | fail)
      intro kv' w3 hown3 hgr3 _ hzz
      have hkc : n.kids = [] → ∃ a, kv' = .slice a 0 0 := fun e => ⟨_, hzz (by rw [e])⟩
      have HKC := Lib.hid hkc
      clear hkc hzz
      obtain ⟨ka', kc', ekv⟩ := own_form hown3
      subst ekv
      have hs3 := hgr3.size
      have hXw3 : X < w3.heap.size := by have := S2.out; omega
      have hv1w3 : v1.heap.size < w3.heap.size := by have := S2.out; omega
      have b3 : Below v1.heap.size v2 w3 := (Below.refl v1.heap.size v2).grown hgr3 (by have := S2.out; omega) (fun q hq => by simp [Value.ownBlock] at hq; omega)
      have hX3 := (hgr3.block X (by have := S2.out; omega) (by simp [Value.ownBlock]; omega)).trans HX2.out
      have rk3 : KRow v1.heap.size (.slice ka' n.kids.length kc') n.kids w3 := ⟨ka', kc', rfl, Or.inr (by unfold RowI; simpa using hown3)⟩
      have hkb : ∀ q, blk (.slice ka' n.kids.length kc') n.kids.length = some q → v1.heap.size ≤ q ∧ q < w3.heap.size := fun q hq => by
        unfold blk at hq
        split at hq
        · cases hq
        · exact World.ownsRow.lt hown3 q hq
      have z1 : w3.cell? ⟨X, 1, none⟩ = some (.slice ka n.kids.length kc) := (Go.Joins.cell_of_block hX3 1).trans rfl
      have f1 := Go.Joins.unfrozen_of_block hX3 1
      obtain ⟨v4, ev4⟩ : ∃ v4, v4 = w3.setCell ⟨X, 1, none⟩ (.slice ka' n.kids.length kc') := ⟨_, rfl⟩
      have s4 : v4.heap.size = w3.heap.size := by rw [ev4]; simp
      have hX4 := Go.Joins.block_setCell (i := 1) hX3 (.slice ka' n.kids.length kc')
      rw [← ev4] at hX4
      have hX4' : v4.heap[X]? = some (.cells (nA n.up (.slice ka' n.kids.length kc') n.sty n.meas (.slice ta n.rl tc)) 61) := by rw [hX4]; exact congrArg (fun q => some (Obj.cells q 61)) (nA_put1 _)
      have rk4 : KRow v1.heap.size (.slice ka' n.kids.length kc') n.kids v4 := rk3.kept (by rw [ev4]; exact from_set (by omega) _ _)
      have BX4 : Below X v1 v4 := by rw [ev4]; exact bl_set (((HB2.out.mono (by omega)).trans (b3.mono (by omega)))) 1 (Nat.le_refl _) _
      -- the rules
      obtain ⟨v5, ev5⟩ : ∃ v5, v5 = v4.alloc (.cells #[] 137) := ⟨_, rfl⟩
      have b5 : Below v4.heap.size v4 v5 := by rw [ev5]; exact Go.Joins.below_alloc1 _ _
      have hown5 : v5.ownsRow v4.heap.size 137 3 (.slice (some ⟨v4.heap.size, 0, none⟩) 0 0) 0 [] := by rw [ev5]; exact World.ownsRow_lit v4 #[] 0 (Nat.le_refl _) (by unfold maxLen; omega) rfl
      have s5 : v5.heap.size = w3.heap.size + 1 := by rw [ev5, ← s4]; simp
      rw [s4] at hown5
      have hX5 := hp_below hX4' b5
      have cX63 : v5.cell? ⟨X, 63, none⟩ = some (.slice ta n.rl tc) := (Go.Joins.cell_of_block hX5 63).trans (by rw [nA, List.getElem?_toArray]; exact nL_tab)
      have BW5 : Below X wr v5 := (HBV.out.trans BX4).trans (b5.mono (by have := BX4.size; omega))
      have TI5 : Rls v5 ta n.rl n.rules := TIW.out.below (by rw [← EX.out]; exact BW5)
      have HN5 := Lib.hid (rls_news TI5)
      have HO5 := Lib.hid hown5
      have EV4 := Lib.hid ev4
      have EV5 := Lib.hid ev5
      have S5 := Lib.hid s5
      have HX5 := Lib.hid hX5
      have RK5 := Lib.hid (rk4.kept (From.of_below b5))
      have HKB := Lib.hid hkb
      have BW5h := Lib.hid BW5
      have hrl3 : n.rules.length = n.rl * 3 := TI5.1
      clear ev4 ev5 b5 hown5 s5 hX5 rk3 rk4 hX4 hX4' hX3 b3 hown3 hgr3 hkb TI5 BX4 BW5 cX1 HO2 HN2
      (try dsimp only)
      go_wp2_with (first
        | (rw [← EV4.out])
        | (rw [← EV5.out])
        | (at_builtin; refine list_append_any rfl _ _ 49 rfl w3.heap.size 137 r0 (.agg #[.int .i64 0, .int .i64 0, .int .i64 0]) 3 24 Try.underlying49 hr0 hrz0 hrz1 hrz2 rfl (by decide) _ 0 [] rfl HO5.out ta n.rl tc (n.rules.map (Value.int .i64)) rfl (by simp; exact hrl3) HN5.out (ints_one' n.rules) (by unfold maxLen; omega) (by omega) (by have := S5.out; omega) ?_)
        | fail)
      intro tv' w6 hown6 hgr6 _
      obtain ⟨ta', tc', etv⟩ := own_form hown6
      subst etv
      have hs6 := hgr6.size
      have hw36 : w3.heap.size < w6.heap.size := by have := S5.out; omega
      have b6 : Below w3.heap.size v5 w6 := (Below.refl w3.heap.size v5).grown hgr6 (by have := S5.out; omega) (fun q hq => by simp [Value.ownBlock] at hq; omega)
      have hX6 := (hgr6.block X (by have := S5.out; omega) (by simp [Value.ownBlock]; omega)).trans HX5.out
      have rt6 : TRow w3.heap.size (.slice ta' n.rl tc') n.rl n.rules w6 := ⟨ta', tc', rfl, Or.inr (by unfold RowR; simpa using hown6)⟩
      have htb : ∀ q, blk (.slice ta' n.rl tc') n.rl = some q → w3.heap.size ≤ q ∧ q < w6.heap.size := fun q hq => by
        unfold blk at hq
        split at hq
        · cases hq
        · exact World.ownsRow.lt hown6 q hq
      have rk6 : KRow v1.heap.size (.slice ka' n.kids.length kc') n.kids w6 := by
        obtain ⟨a1, c1, e1, hr1⟩ := RK5.out
        by_cases h0 : n.kids = []
        · exact ⟨a1, c1, e1, Or.inl h0⟩
        · refine ⟨a1, c1, e1, Or.inr (World.ownsRow.kept (hr1.resolve_left h0) hgr6 ?_)⟩
          cases hq : (Value.slice ka' n.kids.length kc').ownBlock with
          | none => exact Or.inl rfl
          | some q =>
            refine Or.inr fun e => ?_
            have h1 := (HKB.out q (by unfold blk; rw [if_neg (by simpa using h0)]; exact hq)).2
            simp [Value.ownBlock] at e
            omega
      have BW6 : Below X wr w6 := BW5h.out.trans (b6.mono (by omega))
      have z63 : w6.cell? ⟨X, 63, none⟩ = some (.slice ta n.rl tc) := (Go.Joins.cell_of_block hX6 63).trans (by rw [nA, List.getElem?_toArray]; exact nL_tab)
      have f63 := Go.Joins.unfrozen_of_block hX6 63
      obtain ⟨v7, ev7⟩ : ∃ v7, v7 = w6.setCell ⟨X, 63, none⟩ (.slice ta' n.rl tc') := ⟨_, rfl⟩
      have s7 : v7.heap.size = w6.heap.size := by rw [ev7]; simp
      have hX7 := Go.Joins.block_setCell (i := 63) hX6 (.slice ta' n.rl tc')
      rw [nA_put63, ← ev7] at hX7
      have F7 : From (X + 1) w6 v7 := by rw [ev7]; exact from_set (by omega) _ _
      have rk7 := (rk6.lower (show X + 1 ≤ _ by omega)).kept F7
      have rt7 := (rt6.lower (show X + 1 ≤ _ by omega)).kept F7
      have BW7 : Below X wr v7 := by rw [ev7]; exact bl_set BW6 63 (Nat.le_refl _) _
      have hRG7 : v7.rangeAt X 0 (nL n.up (.slice ka' n.kids.length kc') n.sty n.meas (.slice ta' n.rl tc')) := range_block hX7
      have BW7' : Below wr.heap.size wr v7 := by rw [← EX.out]; exact BW7
      -- the node itself
      obtain ⟨m, em⟩ : ∃ m : ND, m = ⟨n, .slice ka' n.kids.length kc', .slice ta' n.rl tc'⟩ := ⟨_, rfl⟩
      have hmcells : m.cells = nL n.up (.slice ka' n.kids.length kc') n.sty n.meas (.slice ta' n.rl tc') := by rw [em]; rfl
      have hmn : m.n = n := by rw [em]
      have HKM := Lib.hid (HKCS.out.push (m := m) (by rw [em]; exact HKC.out))
      have hmo : m.own (X + 1) v7 := by rw [em]; exact ⟨HOK.out, rk7, rt7⟩
      have hmc : ∀ s q, m.comp s = some q → v1.heap.size ≤ q ∧ q < w6.heap.size := fun s q h => by
        rw [em] at h
        cases s with
        | true => have := HKB.out q h; omega
        | false => have := htb q h; omega
      have hin : ∀ q, m.comp true = some q → m.comp false ≠ some q := fun q h1 h2 => by
        rw [em] at h1 h2
        have := (HKB.out q h1).2
        have := (htb q h2).1
        omega
      obtain ⟨v8, ev8⟩ : ∃ v8, v8 = v7.alloc (.cells (nA n.up (.slice ka' n.kids.length kc') n.sty n.meas (.slice ta' n.rl tc')) 61) := ⟨_, rfl⟩
      have b8 : Below v7.heap.size v7 v8 := by rw [ev8]; exact Go.Joins.below_alloc1 _ _
      have s8 : v8.heap.size = v7.heap.size + 1 := by rw [ev8]; simp
      have hn8 := World.news_of_block (hp_new v7 (.cells (nA n.up (.slice ka' n.kids.length kc') n.sty n.meas (.slice ta' n.rl tc')) 61))
      rw [nA_list, ← hmcells, ← ev8] at hn8
      have BW8 : Below wr.heap.size wr v8 := BW7'.trans (b8.mono BW7'.size)
      have ho8 := OW.out.below BW8
      have hd28 := hp_below DW2.out BW8
      have hd18 := hp_below DW1.out BW8
      have hb8 := BWW.out.trans (BW8.mono BWW.out.size)
      have hbu8 := HBU.out.trans (BW8.mono (by have := HBU.out.size; have := SU.out; omega))
      have hmo8 := (hmo.kept (From.of_below b8)).lower (lo' := w.heap.size + 3) (by have := hp_lt DW2.out; have := EX.out; omega)
      obtain ⟨va, vc, ev⟩ := own_form ho8.1
      rw [hml] at ev
      subst ev
      have hrow8 := ho8.1
      rw [hml] at hrow8
      have c28 : v7.cell? ⟨w.heap.size + 1 + 1, 0, none⟩ = some (.slice va k vc) := (Go.Joins.cell_of_block (hp_below DW2.out BW7') 0).trans rfl
      obtain ⟨o1, o2⟩ := hmo8.one
      have hold : ∀ mj ∈ ms, ∀ t q, mj.comp t = some q → q < X := fun mj hj t q hc => by rw [EX.out]; exact ((OW.out.2.1 mj hj).1.lt t q hc).2
      have hvold : ∀ q, (Value.slice va k vc).ownBlock = some q → w.heap.size + 3 ≤ q ∧ q < X := fun q h => by rw [EX.out]; exact World.ownsRow.lt OW.out.1 q h
      have RG7 := Lib.hid hRG7
      have EV7 := Lib.hid ev7
      have EV8 := Lib.hid ev8
      have HR8 := Lib.hid hrow8
      have HN8 := Lib.hid hn8
      have O1 := Lib.hid (show ∀ u ∈ m.cells, u.oneCell' = true from nL_one o1 o2)
      have S8 := Lib.hid s8
      have S7 := Lib.hid s7
      have HO8 := Lib.hid ho8
      have HM8 := Lib.hid hmo8
      have HD28 := Lib.hid hd28
      have HD18 := Lib.hid hd18
      have HB8 := Lib.hid hb8
      have HBU8 := Lib.hid hbu8
      clear ev7 ev8 em hRG7 rk6 rt6 rk7 rt7 F7 BW6 BW7 BW7' hX6 hX7 b6 b8 hn8 hrow8 ho8 hd28 hd18 hb8 hbu8 hmo hmo8 o1 o2 s8 s7 BW8 hown6 hgr6 htb cX63 HO5 HN5 z1 f1
      (try dsimp only)
      go_wp2_with (first
        | (rw [← EV7.out])
        | ((with_reducible apply list_load_nd); exact rfl; exact rfl; exact rfl; (with_reducible exact RG7.out); simp only [Act.put, List.setIfInBounds_toArray, List.set_cons_succ, List.set_cons_zero])
        | ((with_reducible apply list_bs_nd); exact rfl; exact rfl; exact rfl; (with_reducible exact nA_size ..); simp only [Act.put, List.setIfInBounds_toArray, List.set_cons_succ, List.set_cons_zero])
        | (rw [← EV8.out])
        | (at_builtin; refine list_append_any rfl _ _ 24 rfl (w.heap.size + 3) 61 i0 (.agg nZ) 64 536 Try.underlying24 hi0 hz0 hz1 hz2 (nA_size ..) (by decide) (.slice va k vc) k (cellsN ms) rfl HR8.out (some ⟨v7.heap.size, 0, none⟩) 1 1 m.cells rfl (by rw [ND.cells_len]) (Or.inr ⟨_, rfl, HN8.out⟩) O1.out (by unfold maxLen; omega) (by omega) (by have := S8.out; have := S7.out; omega) ?_)
        | fail)
      intro v' w9 hown9 hgr9 hat9
      rw [← hmcells] at hown9
      have hwX : w.heap.size + 2 < X := by rw [EX.out]; exact hp_lt DW2.out
      have hv8 : w6.heap.size < v8.heap.size := by have := S8.out; have := S7.out; omega
      have ho9 : OwnN (w.heap.size + 3) v' (ms ++ [m]) w9 := HO8.out.push HM8.out (fun s q h => ⟨fun e => by have := (hvold q e).2; have := (hmc s q h).1; omega, by have := (hmc s q h).2; omega, fun mj hj t hc => by have := hold mj hj t q hc; have := (hmc s q h).1; omega⟩) hin (by rw [hml]; exact hown9) hgr9 hat9
      have hd29 := cp_grown HD28.out hgr9 (fun e => by have := (hvold _ e.symm).1; omega)
      have hd19 := cp_grown HD18.out hgr9 (fun e => by have := (hvold _ e.symm).1; omega)
      have hb9 : Below w.heap.size w w9 := HB8.out.grown hgr9 HB8.out.size (fun q h => by have := (hvold q h).1; omega)
      have hbu9 : Below (w.heap.size + 1) u w9 := HBU8.out.grown hgr9 (by omega) (fun q h => by have := (hvold q h).1; omega)
      have hml9 : (ms ++ [m]).length = k + 1 := by rw [List.length_append, hml]; rfl
      obtain ⟨va9, vc9, ev9⟩ := own_form ho9.1
      rw [hml9] at ev9
      subst ev9
      have cT9 : w9.cell? ⟨w.heap.size + 1 + 1, 0, none⟩ = some (.slice va k vc) := (Go.Joins.cell_of_block hd29 0).trans rfl
      have fT9 := Go.Joins.unfrozen_of_block hd29 0
      have hd39 := Go.Joins.block_setCell (i := 0) hd29 (.slice va9 (k + 1) vc9)
      have hd39' : (w9.setCell ⟨w.heap.size + 1 + 1, 0, none⟩ (.slice va9 (k + 1) vc9)).heap[w.heap.size + 2]? = some (.cells #[.slice va9 (k + 1) vc9] 26) := by simpa using hd39
      have HD29 := Lib.hid hd39'
      have HD19 := Lib.hid (hp_set (g' := w.heap.size + 1 + 1) hd19 (by omega) 0 (.slice va9 (k + 1) vc9))
      have HO9 := Lib.hid (ho9.kept (from_set (g := w.heap.size + 1 + 1) (by omega) 0 (.slice va9 (k + 1) vc9)))
      have HB9 := Lib.hid (bl_set hb9 (g := w.heap.size + 1 + 1) 0 (by omega) (.slice va9 (k + 1) vc9))
      have HBU9 := Lib.hid (bl_set hbu9 (g := w.heap.size + 1 + 1) 0 (by omega) (.slice va9 (k + 1) vc9))
      have HMM := Lib.hid (show (ms ++ [m]).map ND.n = ns.take (k + 1) by rw [HTK.out, List.map_append, HMS.out, List.map_cons, List.map_nil, hmn])
      clear hd29 hd39 hd39' hd19 ho9 hb9 hbu9 hown9 hgr9 hat9 c28
      (try dsimp only)
      go_wp2_with (fail)
      go_roundw
      case rel => exact ⟨k + 1, _, ms ++ [m], by omega, by go_num, HMM.out, HD29.out, HD19.out, HO9.out, HB9.out, HBU9.out, HKM.out⟩
      case measure => simp [intOf]; omega
    · obtain rfl : k = ns.length := by omega
      rw [List.take_length] at hms
      have z1 : wr.cell? ⟨w.heap.size + 1, 0, none⟩ = some (.slice none 0 0) := (Go.Joins.cell_of_block hb1 0).trans rfl
      have F1 := Go.Joins.unfrozen_of_block hb1 0
      obtain ⟨va, vc, rfl⟩ := own_form ho.1
      have z2 : wr.cell? ⟨w.heap.size + 2, 0, none⟩ = some (.slice va ms.length vc) := (Go.Joins.cell_of_block hb2 0).trans rfl
      have g3 := Go.Joins.block_setCell (i := 0) hb1 (.slice va ms.length vc)
      have z3 := Go.Joins.cell_of_block g3 0
      simp at z3
      have R2 := Lib.hid (ho.kept (from_set (g := w.heap.size + 1) (by omega) 0 (.slice va ms.length vc)))
      have B2 := Lib.hid (bl_set hb (g := w.heap.size + 1) 0 (by omega) (.slice va ms.length vc))
      have HMS := Lib.hid hms
      clear hb hb1 hb2 ho g3 hms
      go_wp2
      refine bodyPost_ret (v := .agg #[.slice va ms.length vc]) (by simp [results, Try.results62, go_sem, z3]) rfl ⟨_, ms, HMS.out, rfl, OwnN.lower R2.out (by omega), B2.out, HKCS.out⟩
end Go.Proofs.Ytckpjldenkjddaa
end

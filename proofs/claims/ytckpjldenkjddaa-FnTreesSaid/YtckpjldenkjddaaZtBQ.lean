import Derived.Test.YtckpjldenkjddaaZtBC
import Derived.Test.YtckpjldenkjddaaZtBE
import Derived.Test.YtckpjldenkjddaaZtBH
import Derived.Test.YtckpjldenkjddaaZtBI
import Derived.Test.YtckpjldenkjddaaZtBL
import Derived.Test.YtckpjldenkjddaaZtBP
section
namespace Go.Proofs.Ytckpjldenkjddaa
open Go.ChangeShapes Go.WideShapes Go.ChangeAt Go.RowKit
set_option linter.unusedVariables false
set_option linter.unusedSimpArgs false
set_option maxRecDepth 8000

theorem adN_facts (ns : List PN) (f : Nat → Int) (hl : ns.length ≤ 12) : (adN ns f).length ≤ 12 ∧ ns.length ≤ (adN ns f).length ∧ szS (adN ns f) ≤ szS ns + 1 ∧ (ns = [] → styOk f = true → (adN ns f).length = 1) := by
  have h0 : ns = [] → treeB ns = true := fun e => by subst e; exact tree_good (by simp) (fun i hi => absurd hi (Nat.not_lt_zero _))
  unfold adN adB
  split
  · rename_i h
    simp only [Bool.and_eq_true, decide_eq_true_eq] at h
    refine ⟨by simp; omega, by simp, ?_, fun e _ => by subst e; rfl⟩
    unfold szS szL
    simp [szK, newN]
    omega
  · rename_i h
    refine ⟨hl, Nat.le_refl _, by omega, fun e hs => ?_⟩
    rw [h0 e, hs, e] at h
    exact absurd rfl h
theorem ikN_facts (ns : List PN) (z y a : Int) : (ikN ns z y a).length = ns.length ∧ (szS (ikN ns z y a) ≤ 228 ∨ szS (ikN ns z y a) = szS ns) := by
  unfold ikN
  split
  · split
    · rename_i ht
      exact ⟨by simp [insSet, insK], Or.inl (treeB_sz ht)⟩
    · exact ⟨rfl, Or.inr rfl⟩
  · exact ⟨rfl, Or.inr rfl⟩
theorem stN_facts (ns : List PN) (z : Int) (rl : Nat) (rs : List Int) (hr : rl ≤ 7) : (stN ns z rl rs).length = ns.length ∧ szS (stN ns z rl rs) ≤ szS ns + 19 := by
  unfold stN
  split
  · rename_i h
    split
    · exact ⟨rfl, by omega⟩
    · obtain ⟨h1, h2⟩ := Bool.and_eq_true_iff.1 h
      have h3 := nIn_iff.1 h1
      obtain ⟨i, rfl⟩ : ∃ k : Nat, z = (k : Int) + 1 := ⟨(z - 1).toNat, by omega⟩
      have hi : i < ns.length := by omega
      have hk := kids_few h2 hi
      unfold tabSet
      refine ⟨List.length_set, Nat.le_trans (szS_set _ _ _) ?_⟩
      unfold szK
      rw [ndAt_nat hi]
      show szS ns + (ns[i].kids.length + rl) ≤ szS ns + 19
      omega
  · exact ⟨rfl, by omega⟩
/-- What stands while a tree is drawn: the tree so far in the second block, the result's in the first. -/
structure TD (w : World) (cb : Nat) (a : Option Addr) (len cap : Nat) (ms : List ND) (v : Value) (wr : World) : Prop where
  here : wr.heap[w.heap.size + 1]? = some (.cells #[v] 26)
  res : wr.heap[w.heap.size]? = some (.cells #[.slice none 0 0] 26)
  cur : Cur cb a len cap wr
  gro : w.grownBy wr (some cb)
  own : OwnN (w.heap.size + 2) v ms wr
  kc : KCs ms
structure TDw (w : World) (cb : Nat) (a : Option Addr) (len : Nat) : Prop where
  ltc : cb < w.heap.size
  code : 0 < len → ∀ b off, a = some ⟨b, off, none⟩ → b < w.heap.size
section
variable {w wr w' : World} {cb : Nat} {a : Option Addr} {len cap : Nat} {ms : List ND} {v : Value}
theorem TD.lt (h : TD w cb a len cap ms v wr) (W : TDw w cb a len) : cb < wr.heap.size := Nat.lt_of_lt_of_le W.ltc h.gro.size
theorem TD.code (h : TD w cb a len cap ms v wr) (W : TDw w cb a len) : 0 < len → ∀ b off, a = some ⟨b, off, none⟩ → b < wr.heap.size := fun h0 b off e => Nat.lt_of_lt_of_le (W.code h0 b off e) h.gro.size
theorem TD.draw (h : TD w cb a len cap ms v wr) (W : TDw w cb a len) (g : wr.grownBy w' (some cb)) (c : Cur cb a len cap w') : TD w cb a len cap ms v w' :=
  ⟨blk_kept h.here g (by have := W.ltc; omega), blk_kept h.res g (by have := W.ltc; omega), c, gr_trans h.gro g, h.own.kept ⟨g.size, fun k h1 h2 => g.block k h2 (by have := W.ltc; simp; omega)⟩, h.kc⟩
theorem TD.drew (h : TD w cb a len cap ms v wr) (W : TDw w cb a len) : TD w cb a len cap ms v wr.drew :=
  h.draw W ⟨rfl, rfl, rfl, Nat.le_refl _, fun _ _ _ => rfl⟩ (h.cur.kept (h.lt W) (row := none) ⟨rfl, rfl, rfl, Nat.le_refl _, fun _ _ _ => rfl⟩ (fun k hk => by cases hk))
theorem TD.below (h : TD w cb a len cap ms v wr) (W : TDw w cb a len) (b : Below wr.heap.size wr w') : TD w cb a len cap ms v w' :=
  h.draw W (gr_below b _) (h.cur.kept (h.lt W) (gr_below b none) (fun k hk => by cases hk))
theorem TD.call {ms' : List ND} {v' : Value} {w2 w3 : World} (h : TD w cb a len cap ms v wr) (W : TDw w cb a len) (ho : OwnN wr.heap.size v' ms' w2) (b : Below wr.heap.size wr w2) (e : w3 = w2.setCell ⟨w.heap.size + 1, 0, none⟩ v') (hk : KCs ms') : TD w cb a len cap ms' v' w3 := by
  have h2 := h.below W b
  have hlt := hp_lt h.here
  subst e
  refine ⟨Go.Joins.block_setCell (i := 0) h2.here v', hp_set h2.res (by omega) 0 v', h2.cur.stored (h2.lt W) (by have := W.ltc; omega) (fun h0 b off e => by have := W.code h0 b off e; omega) v', gr_store h2.gro (by omega), (ho.lower (by omega)).kept (from_set (by omega) 0 v'), hk⟩
theorem TD.again (h : TD w cb a len cap ms v wr) (W : TDw w cb a len) (e : w' = wr.setCell ⟨w.heap.size + 1, 0, none⟩ v) : TD w cb a len cap ms v w' := by
  subst e
  exact ⟨Go.Joins.block_setCell (i := 0) h.here v, hp_set h.res (by omega) 0 v, h.cur.stored (h.lt W) (by have := W.ltc; omega) (fun h0 b off e => by have := W.code h0 b off e; omega) v, gr_store h.gro (by omega), h.own.kept (from_set (by omega) 0 v), h.kc⟩
theorem TD.fin (h : TD w cb a len cap ms v wr) (W : TDw w cb a len) (e : w' = wr.setCell ⟨w.heap.size, 0, none⟩ v) : w'.cell? ⟨w.heap.size, 0, none⟩ = some v ∧ OwnN w.heap.size v ms w' ∧ Cur cb a len cap w' ∧ w.grownBy w' (some cb) := by
  subst e
  exact ⟨c_of (Go.Joins.block_setCell (i := 0) h.res v), (h.own.kept (from_set (by omega) 0 v)).lower (by omega), h.cur.stored (h.lt W) W.ltc W.code v, gr_store h.gro (Nat.le_refl _)⟩
theorem TD.cellK {g vc p : Nat} (h : TD w cb a len cap ms (.slice (some ⟨g, 0, none⟩) ms.length vc) wr) (hp : p < ms.length) : wr.cell? ⟨g, p * 64 + 1, none⟩ = some ms[p].kv := by
  rw [World.ownsRow.cellAt h.own.1 (p * 64 + 1) (by omega), cellsN_at ms p 1 (by omega), List.getElem?_eq_getElem hp]
  exact nL_kids
theorem TD.ptr {va : Option Addr} {vc : Nat} (h : TD w cb a len cap ms (.slice va ms.length vc) wr) (hm : 0 < ms.length) : ∃ g, va = some ⟨g, 0, none⟩ := by
  rcases h.own.1.2 with ⟨h1, h2⟩ | ⟨g, cap, cur, h1, _⟩
  · omega
  · simp at h1; exact ⟨g, h1.1⟩
theorem TD.kform {v : Value} {p : Nat} (h : TD w cb a len cap ms v wr) (hp : p < ms.length) : ∃ ka kc, ms[p].kv = .slice ka ms[p].n.kids.length kc := by
  obtain ⟨ka, kc, e, _⟩ := (h.own.2.1 ms[p] (List.getElem_mem hp)).1.2.1
  exact ⟨ka, kc, e⟩
theorem kl_le {ms : List ND} {p : Nat} (hp : p < ms.length) : ms[p].n.kids.length ≤ szS (ms.map ND.n) := by
  have h := szK_le (ns := ms.map ND.n) (i := p) (by simpa using hp)
  rw [List.getElem_map] at h
  unfold szS
  unfold szK at h
  omega
end
/-- What a draw of a tree leaves. -/
def TrDrew (B cb : Nat) (a : Option Addr) (len cap : Nat) (w : World) (e : Ending) (w' : World) : Prop :=
  ∃ (va : Option Addr) (vc : Nat) (ms : List ND), e = .returned (.agg #[.slice va ms.length vc]) ∧ OwnN w.heap.size (.slice va ms.length vc) ms w' ∧ 1 ≤ ms.length ∧ ms.length ≤ B ∧ szS (ms.map ND.n) ≤ 1000 ∧ Cur cb a len cap w' ∧ w.grownBy w' (some cb) ∧ KCs ms
def TLRel (w : World) (cb : Nat) (a : Option Addr) (len cap : Nat) (i : Value) (wr : World) : Prop :=
  ∃ (k : Nat) (ms : List ND) (va : Option Addr) (vc : Nat), k ≤ 8 ∧ i = .int .i64 k ∧ TD w cb a len cap ms (.slice va ms.length vc) wr ∧ (1 ≤ k → 1 ≤ ms.length) ∧ (k = 0 → ms = []) ∧ szS (ms.map ND.n) ≤ 228 + k ∧ ms.length ≤ 12
def TSRel (w : World) (cb : Nat) (a : Option Addr) (len cap : Nat) (i : Value) (wr : World) : Prop :=
  ∃ (k : Nat) (ms : List ND) (va : Option Addr) (vc : Nat), 1 ≤ k ∧ i = .int .i64 k ∧ TD w cb a len cap ms (.slice va ms.length vc) wr ∧ 1 ≤ ms.length ∧ szS (ms.map ND.n) ≤ 240 + 19 * k ∧ ms.length ≤ 12 ∧ k ≤ ms.length + 1
set_option maxHeartbeats 8000000 in
theorem l10t_any (cb : Nat) (a : Option Addr) (len cap : Nat) (w : World) (hcb : cb < w.heap.size) (hlt : 0 < len → ∀ b off, a = some ⟨b, off, none⟩ → b < w.heap.size) (hc : Cur cb a len cap w) :
    Calls Try.prog 101 #[.pointer (some ⟨cb, 0, none⟩)] w (TrDrew 12 cb a len cap w) := by
  have WW := Lib.hid (show TDw w cb a len from ⟨hcb, hlt⟩)
  have h0 : TD w cb a len cap [] (.slice none 0 0) ((w.alloc (.cells #[.slice none 0 0] 26)).alloc (.cells #[.slice none 0 0] 26)) := by
    refine ⟨?_, hp_on (hp_new w _) _, ?_, gr_trans (gr_new w _ cb) (gr_new _ _ cb), ownN_nil _ _, fun m hm => by cases hm⟩
    · have := hp_new (w.alloc (.cells #[.slice none 0 0] 26)) (.cells #[.slice none 0 0] 26)
      rwa [World.size_alloc] at this
    · exact (hc.kept hcb (World.grownBy_alloc w (.cells #[.slice none 0 0] 26) none) (fun k hk => by cases hk)).kept (by simp; omega) (World.grownBy_alloc _ (.cells #[.slice none 0 0] 26) none) (fun k hk => by cases hk)
  obtain ⟨u, eu⟩ : ∃ u, u = (w.alloc (.cells #[.slice none 0 0] 26)).alloc (.cells #[.slice none 0 0] 26) := ⟨_, rfl⟩
  rw [← eu] at h0
  have H0 := Lib.hid h0
  have EU := Lib.hid eu
  clear h0 hlt hc hcb eu
  go_enter Try.func101, Try.ntmps101
  have zt := c_of H0.out.here
  have ft := Go.Joins.unfrozen_of_block H0.out.here 0
  obtain ⟨u1, eu1⟩ : ∃ q, q = u.setCell ⟨w.heap.size + 1, 0, none⟩ (.slice none 0 0) := ⟨_, rfl⟩
  have H1 := Lib.hid (H0.out.again WW.out eu1)
  have EU1 := Lib.hid eu1
  clear eu1
  go_wp2_with (first | (rw [← EU.out]) | (rw [← EU1.out]) | fail)
  clear zt ft EU EU1 H0
  go_loopw [4] (TLRel w cb a len cap) (fun i _ => 8 - (intOf i).toNat)
  case atStart => exact ⟨0, [], none, 0, by omega, rfl, H1.out, fun h => by omega, fun _ => rfl, by simp [szS, szL], by simp⟩
  case round =>
    obtain ⟨k, ms, va, vc, hk, rfl, hT, hk1, hk0, hsz, hl12⟩ := hrel
    have T0 := Lib.hid hT
    clear H1 hT
    go_wp2_with (fail)
    refine (below_pos 8 cb a len cap wr (by omega) (by omega) T0.out.cur).mono ?_
    rintro e w1 ⟨x, rfl, x0, x1, c1, g1, _⟩
    have T1 := Lib.hid (T0.out.draw WW.out g1 c1)
    clear g1 c1 T0
    by_cases hkx : (k : Int) ≤ x
    · (try dsimp only)
      go_wp2_with (fail)
      refine wp_region_L (S := fun w' => w'.heap[w.heap.size + 1]? = some (.cells #[.slice va ms.length vc] 26)) 7 (by kernel_rfl) ?_
      change wpAnyL _ _ _ _ 7 _ 8 (Array.replicate 8 false) _ _
      have T2 := Lib.hid (T1.out.drew WW.out)
      have HS := T2.out.here
      refine wpAnyL_take (i := 0) (oi := ⟨some 16, Op.load 26 (Operand.tmp 3), _, _, _, _⟩) (v := .agg #[.slice va ms.length vc]) rfl (by kernel_rfl) (by kernel_rfl) (by kernel_rfl) (by kernel_rfl) (by kernel_rfl) (fun _ _ _ h => h) (yields_row rfl rfl rfl im_tree (im_tree1 _) (fun w' hw' => hw')) HS ?_
      simp only [World.size_alloc, Act.put, List.setIfInBounds_toArray, List.set_cons_succ, List.set_cons_zero]
      refine wpAnyL_pure (i := 1) (oi := ⟨some 17, Op.move (Operand.tmp 0), _, _, _, _⟩) (v := .pointer (some ⟨cb, 0, none⟩)) rfl (by kernel_rfl) (by kernel_rfl) (by kernel_rfl) (by decide) (fun _ _ _ h => h) (Or.inl ⟨rfl, fun W hW => by rfl⟩) (fun _ => HS) ?_
      simp only [World.size_alloc, Act.put, List.setIfInBounds_toArray, List.set_cons_succ, List.set_cons_zero]
      refine anyL_one 2 rfl (by kernel_rfl) rfl ?_
      go_wp2_with (fail)
      refine (drawsty_ok cb a len cap _ (T2.out.lt WW.out) (T2.out.code WW.out) T2.out.cur).mono ?_
      rintro e e1 ⟨f, rfl, hf, c1, g1⟩
      (try dsimp only)
      have T3 := Lib.hid (T2.out.draw WW.out g1 c1)
      have OKF := Lib.hid hf
      clear g1 c1 T2 hf
      first | refine ⟨T3.out.here, ?_⟩ | refine ⟨fun _ => T3.out.here, ?_⟩
      refine anyL_one 3 rfl (by kernel_rfl) rfl ?_
      go_wp2_with (fail)
      have hN := T3.out.own.ndsR' rfl
      have hq := (saddnodeK va vc (ms.map ND.n) f e1 hN (by omega) OKF.out.inr)
      rw [List.length_map] at hq
      refine hq.mono ?_
      clear hq hN
      rintro e e2 ⟨v', ms', hms', rfl, ho', b', hk'⟩
      have HK2 := Lib.hid hk'
      clear hk'
      obtain ⟨va', vc', rfl⟩ := own_form ho'.1
      (try dsimp only)
      have HS2 := (T3.out.below WW.out b').here
      first | refine ⟨HS2, ?_⟩ | refine ⟨fun _ => HS2, ?_⟩
      refine wpAnyL_pure (i := 4) (oi := ⟨some 15, Op.move (Operand.tmp 19), _, _, _, _⟩) (v := .tuple #[.agg #[.slice va' ms'.length vc'], .int .i64 (adC (ms.map ND.n) f)]) rfl (by kernel_rfl) (by kernel_rfl) (by kernel_rfl) (by decide) (fun _ _ _ h => h) (Or.inl ⟨rfl, fun W hW => by rfl⟩) (fun _ => HS2) ?_
      simp only [World.size_alloc, Act.put, List.setIfInBounds_toArray, List.set_cons_succ, List.set_cons_zero]
      refine wpAnyL_pure (i := 5) (oi := ⟨some 20, Op.extract (Operand.tmp 15) 0, _, _, _, _⟩) (v := .agg #[.slice va' ms'.length vc']) rfl (by kernel_rfl) (by kernel_rfl) (by kernel_rfl) (by decide) (fun _ _ _ h => h) (Or.inl ⟨rfl, fun W hW => by rfl⟩) (fun _ => HS2) ?_
      simp only [World.size_alloc, Act.put, List.setIfInBounds_toArray, List.set_cons_succ, List.set_cons_zero]
      refine wpAnyL_pure (i := 6) (oi := ⟨some 21, Op.extract (Operand.tmp 15) 1, _, _, _, _⟩) (v := .int .i64 (adC (ms.map ND.n) f)) rfl (by kernel_rfl) (by kernel_rfl) (by kernel_rfl) (by decide) (fun _ _ _ h => h) (Or.inl ⟨rfl, fun W hW => by rfl⟩) (fun _ => HS2) ?_
      simp only [World.size_alloc, Act.put, List.setIfInBounds_toArray, List.set_cons_succ, List.set_cons_zero]
      refine anyL_one 7 rfl (by kernel_rfl) rfl ?_
      have zt := c_of HS2
      have ft := Go.Joins.unfrozen_of_block HS2 0
      go_wp2_with (fail)
      (try dsimp only)
      obtain ⟨e3, ee3⟩ : ∃ q, q = e2.setCell ⟨w.heap.size + 1, 0, none⟩ (.slice va' ms'.length vc') := ⟨_, rfl⟩
      rw [← ee3]
      have T4 := Lib.hid (T3.out.call WW.out ho' b' ee3 HK2.out)
      clear ee3 ho' b' zt ft T3
      first | refine anyL_done (by kernel_rfl) ?_ _ | (refine ⟨lastdone (by kernel_rfl), ?_⟩; refine anyL_done (by kernel_rfl) ?_ _)
      have hfa := adN_facts (ms.map ND.n) f (by rw [List.length_map]; exact hl12)
      rw [← hms', List.length_map, List.length_map] at hfa
      have hm1 : 1 ≤ ms'.length := by
        by_cases hk9 : k = 0
        · have := hfa.2.2.2 (by rw [hk0 hk9]; rfl) OKF.out.ok; omega
        · have := hk1 (by omega); omega
      have hm2 : ms'.length ≤ 12 := hfa.1
      have hm3 : szS (ms'.map ND.n) ≤ 228 + k + 1 := by omega
      clear hfa hms' OKF HS2
      have zt := c_of T4.out.here
      by_cases hn : 1 < ms'.length
      · have hn1 : (1 : Int) < (ms'.length : Int) := (by omega)
        (try dsimp only)
        go_wp2_with (fail)
        refine (once_any 12 cb a len cap _ (by omega) (by omega) T4.out.cur).mono ?_
        rintro e w5 ⟨t, rfl, c5, g5⟩
        have T5 := Lib.hid (T4.out.draw WW.out g5 c5)
        clear c5 g5 zt T4
        cases t
        · have hwn : IntKind.i64.wrap ((ms'.length : Int) - 1) = (ms'.length : Int) - 1 := IntWalk.i64_in _ (by omega)
          (try dsimp only)
          go_wp2_with (fail)
          refine (below_pos ((ms'.length : Int) - 1) cb a len cap _ (by omega) (by omega) T5.out.cur).mono ?_
          rintro e w6 ⟨y, rfl, y0, y1, c6, g6, _⟩
          have T6 := Lib.hid (T5.out.draw WW.out g6 c6)
          clear c6 g6 T5
          obtain ⟨p, rfl⟩ := Int.eq_ofNat_of_zero_le y0
          have hwy : IntKind.i64.wrap (1 + (p : Int)) = 1 + (p : Int) := IntWalk.i64_in _ (by omega)
          (try dsimp only)
          go_wp2_with (fail)
          refine (once_any 2 cb a len cap _ (by omega) (by omega) T6.out.cur).mono ?_
          rintro e w7 ⟨t2, rfl, c7, g7⟩
          have T7 := Lib.hid (T6.out.draw WW.out g7 c7)
          clear c7 g7 T6
          cases t2
          · (try dsimp only)
            go_wp2_with (fail)
            obtain ⟨g, eg⟩ := T7.out.ptr (by omega)
            subst eg
            have hpl : p < ms'.length := (by omega)
            obtain ⟨ka, kc, ekv⟩ := T7.out.kform hpl
            have hkb := kl_le hpl
            obtain ⟨kl, ekl⟩ : ∃ q, q = (ms'[p]'hpl).n.kids.length := ⟨_, rfl⟩
            rw [← ekl] at ekv hkb
            have CK := Lib.hid (fun (wz : World) (h : TD w cb a len cap ms' (.slice (some ⟨g, 0, none⟩) ms'.length vc') wz) => (h.cellK hpl).trans (congrArg some ekv))
            clear ekv ekl
            have hwk : IntKind.i64.wrap ((kl : Int) + 1) = (kl : Int) + 1 := IntWalk.i64_in _ (by omega)
            have hwp : IntKind.i64.wrap ((1 + (p : Int)) - 1) = (p : Int) := (by rw [show ((1 + (p : Int)) : Int) - 1 = (p : Int) by omega]; exact IntWalk.i64_in _ (by omega))
            have hw0 : IntKind.i64.wrap 0 = 0 := IntWalk.i64_in _ (by omega)
            have hp0 : (0 : Int) ≤ (p : Int) := (by omega)
            have hp1 : (p : Int) < (ms'.length : Int) := (by omega)
            refine wp_region_L (S := fun w' => w'.heap[w.heap.size + 1]? = some (.cells #[.slice (some ⟨g, 0, none⟩) ms'.length vc'] 26) ∧ w'.cell? ⟨g, p * 64 + 1, none⟩ = some (.slice ka kl kc)) 18 (by kernel_rfl) ?_
            change wpAnyL _ _ _ _ 18 _ 19 (Array.replicate 19 false) _ _
            have T8 := Lib.hid (T7.out.drew WW.out)
            have HS := And.intro T8.out.here (CK.out _ T8.out)
            refine wpAnyL_take (i := 0) (oi := ⟨some 40, Op.load 26 (Operand.tmp 3), _, _, _, _⟩) (v := .agg #[.slice (some ⟨g, 0, none⟩) ms'.length vc']) rfl (by kernel_rfl) (by kernel_rfl) (by kernel_rfl) (by kernel_rfl) (by kernel_rfl) (fun _ _ _ h => h) (yields_row rfl rfl rfl im_tree (im_tree1 _) (fun w' hw' => hw'.1)) HS ?_
            simp only [World.size_alloc, Act.put, List.setIfInBounds_toArray, List.set_cons_succ, List.set_cons_zero]
            refine wpAnyL_pure (i := 1) (oi := ⟨some 41, Op.move (Operand.tmp 6), _, _, _, _⟩) (v := .int .i64 (1 + (p : Int))) rfl (by kernel_rfl) (by kernel_rfl) (by kernel_rfl) (by decide) (fun _ _ _ h => h) (Or.inl ⟨rfl, fun W hW => by rfl⟩) (fun _ => HS) ?_
            simp only [World.size_alloc, Act.put, List.setIfInBounds_toArray, List.set_cons_succ, List.set_cons_zero]
            refine wpAnyL_pure (i := 2) (oi := ⟨some 42, Op.move (Operand.tmp 5), _, _, _, _⟩) (v := .int .i64 (ms'.length : Int)) rfl (by kernel_rfl) (by kernel_rfl) (by kernel_rfl) (by decide) (fun _ _ _ h => h) (Or.inl ⟨rfl, fun W hW => by rfl⟩) (fun _ => HS) ?_
            simp only [World.size_alloc, Act.put, List.setIfInBounds_toArray, List.set_cons_succ, List.set_cons_zero]
            refine wpAnyL_pure (i := 3) (oi := ⟨some 43, Op.move (Operand.tmp 0), _, _, _, _⟩) (v := .pointer (some ⟨cb, 0, none⟩)) rfl (by kernel_rfl) (by kernel_rfl) (by kernel_rfl) (by decide) (fun _ _ _ h => h) (Or.inl ⟨rfl, fun W hW => by rfl⟩) (fun _ => HS) ?_
            simp only [World.size_alloc, Act.put, List.setIfInBounds_toArray, List.set_cons_succ, List.set_cons_zero]
            refine wpAnyL_pure (i := 4) (oi := ⟨some 44, Op.fieldAddr 26 (Operand.tmp 3) 0, _, _, _, _⟩) (v := .pointer (some ⟨w.heap.size + 1, 0, none⟩)) rfl (by kernel_rfl) (by kernel_rfl) (by kernel_rfl) (by decide) (fun _ _ _ h => h) (Or.inl ⟨by rfl, fun W hW => by (try dsimp only at hW); go_simp <;> with_reducible rfl⟩) (fun _ => HS) ?_
            simp only [World.size_alloc, Act.put, List.setIfInBounds_toArray, List.set_cons_succ, List.set_cons_zero]
            have ct : ∀ (W : World), (fun w' => w'.heap[w.heap.size + 1]? = some (.cells #[.slice (some ⟨g, 0, none⟩) ms'.length vc'] 26) ∧ w'.cell? ⟨g, p * 64 + 1, none⟩ = some (.slice ka kl kc)) W → W.cell? ⟨w.heap.size + 1, 0, none⟩ = some (.slice (some ⟨g, 0, none⟩) ms'.length vc') := fun W hW => c_of hW.1
            refine wpAnyL_take (i := 5) (oi := ⟨some 45, Op.load 24 (Operand.tmp 44), _, _, _, _⟩) (v := .slice (some ⟨g, 0, none⟩) ms'.length vc') rfl (by kernel_rfl) (by kernel_rfl) (by kernel_rfl) (by kernel_rfl) (by kernel_rfl) (fun _ _ _ h => h) (Or.inl ⟨by rfl, fun W hW => by have c9 := ct W hW; clear hW; go_simp <;> with_reducible rfl⟩) HS ?_
            simp only [World.size_alloc, Act.put, List.setIfInBounds_toArray, List.set_cons_succ, List.set_cons_zero]
            refine wpAnyL_pure (i := 6) (oi := ⟨some 46, Op.move (Operand.tmp 6), _, _, _, _⟩) (v := .int .i64 (1 + (p : Int))) rfl (by kernel_rfl) (by kernel_rfl) (by kernel_rfl) (by decide) (fun _ _ _ h => h) (Or.inl ⟨rfl, fun W hW => by rfl⟩) (fun _ => HS) ?_
            simp only [World.size_alloc, Act.put, List.setIfInBounds_toArray, List.set_cons_succ, List.set_cons_zero]
            refine wpAnyL_pure (i := 7) (oi := ⟨some 47, Op.binOp BinOp.sub 3 (Operand.tmp 46) (Operand.const (Value.int IntKind.i64 1)) 3, _, _, _, _⟩) (v := .int .i64 (p : Int)) rfl (by kernel_rfl) (by kernel_rfl) (by kernel_rfl) (by decide) (fun _ _ _ h => h) (Or.inl ⟨by rfl, fun W hW => by (try dsimp only at hW); go_simp <;> with_reducible rfl⟩) (fun _ => HS) ?_
            simp only [World.size_alloc, Act.put, List.setIfInBounds_toArray, List.set_cons_succ, List.set_cons_zero]
            refine wpAnyL_pure (i := 8) (oi := ⟨some 48, Op.indexAddr 24 (Operand.tmp 45) (Operand.tmp 47), _, _, _, _⟩) (v := .pointer (some ⟨g, p * 64, none⟩)) rfl (by kernel_rfl) (by kernel_rfl) (by kernel_rfl) (by decide) (fun _ _ _ h => h) (Or.inl ⟨by rfl, fun W hW => by (try dsimp only at hW); go_simp <;> with_reducible rfl⟩) (fun _ => HS) ?_
            simp only [World.size_alloc, Act.put, List.setIfInBounds_toArray, List.set_cons_succ, List.set_cons_zero]
            refine wpAnyL_pure (i := 9) (oi := ⟨some 49, Op.fieldAddr 61 (Operand.tmp 48) 1, _, _, _, _⟩) (v := .pointer (some ⟨g, p * 64 + 1, none⟩)) rfl (by kernel_rfl) (by kernel_rfl) (by kernel_rfl) (by decide) (fun _ _ _ h => h) (Or.inl ⟨by rfl, fun W hW => by (try dsimp only at hW); go_simp <;> with_reducible rfl⟩) (fun _ => HS) ?_
            simp only [World.size_alloc, Act.put, List.setIfInBounds_toArray, List.set_cons_succ, List.set_cons_zero]
            refine wpAnyL_take (i := 10) (oi := ⟨some 50, Op.load 59 (Operand.tmp 49), _, _, _, _⟩) (v := .slice ka kl kc) rfl (by kernel_rfl) (by kernel_rfl) (by kernel_rfl) (by kernel_rfl) (by kernel_rfl) (fun _ _ _ h => h) (Or.inl ⟨by rfl, fun W hW => by have c9 := hW.2; clear hW; go_simp <;> with_reducible rfl⟩) HS ?_
            simp only [World.size_alloc, Act.put, List.setIfInBounds_toArray, List.set_cons_succ, List.set_cons_zero]
            refine wpAnyL_pure (i := 11) (oi := ⟨some 51, Op.call { callee := .builtin .len, args := #[Operand.tmp 50], argTypes := #[59] }, _, _, _, _⟩) (v := .int .i64 (kl : Int)) rfl (by kernel_rfl) (by kernel_rfl) (by kernel_rfl) (by decide) (fun _ _ _ h => h) (Or.inl ⟨by rfl, fun W hW => by (try dsimp only at hW); go_simp <;> with_reducible rfl⟩) (fun _ => HS) ?_
            simp only [World.size_alloc, Act.put, List.setIfInBounds_toArray, List.set_cons_succ, List.set_cons_zero]
            refine wpAnyL_pure (i := 12) (oi := ⟨some 52, Op.binOp BinOp.add 3 (Operand.tmp 51) (Operand.const (Value.int IntKind.i64 1)) 3, _, _, _, _⟩) (v := .int .i64 ((kl : Int) + 1)) rfl (by kernel_rfl) (by kernel_rfl) (by kernel_rfl) (by decide) (fun _ _ _ h => h) (Or.inl ⟨by rfl, fun W hW => by (try dsimp only at hW); go_simp <;> with_reducible rfl⟩) (fun _ => HS) ?_
            simp only [World.size_alloc, Act.put, List.setIfInBounds_toArray, List.set_cons_succ, List.set_cons_zero]
            clear ct HS
            refine anyL_one 13 rfl (by kernel_rfl) rfl ?_
            go_wp2_with (fail)
            refine (below_pos ((kl : Int) + 1) cb a len cap _ (by omega) (by omega) T8.out.cur).mono ?_
            rintro e e8 ⟨x3, rfl, p3, q3, c8, g8, _⟩
            (try dsimp only)
            have T9 := Lib.hid (T8.out.draw WW.out g8 c8)
            clear g8 c8 T8
            have HS := And.intro T9.out.here (CK.out _ T9.out)
            first | refine ⟨HS, ?_⟩ | refine ⟨fun _ => HS, ?_⟩
            refine anyL_one 14 rfl (by kernel_rfl) rfl ?_
            go_wp2_with (fail)
            have hN := T9.out.own.ndsR' rfl
            have hq := (sinsertkidK (some ⟨g, 0, none⟩) vc' (ms'.map ND.n) (1 + (p : Int)) (ms'.length : Int) x3 e8 hN (by omega) ⟨by omega, by omega⟩ ⟨by omega, by omega⟩ ⟨by omega, by omega⟩ T9.out.own.kcap)
            rw [List.length_map] at hq
            refine hq.mono ?_
            clear hq hN
            rintro e e9 ⟨v9, ms9, hms9, rfl, ho9, b9, hk9⟩
            have HK9 := Lib.hid hk9
            clear hk9
            obtain ⟨va9, vc9, rfl⟩ := own_form ho9.1
            (try dsimp only)
            have T9b := T9.out.below WW.out b9
            have HS2 := And.intro T9b.here (CK.out _ T9b)
            clear T9b
            first | refine ⟨HS2, ?_⟩ | refine ⟨fun _ => HS2, ?_⟩
            refine wpAnyL_pure (i := 15) (oi := ⟨some 39, Op.move (Operand.tmp 54), _, _, _, _⟩) (v := .tuple #[.agg #[.slice va9 ms9.length vc9], .int .i64 (ikC (ms'.map ND.n) (1 + (p : Int)) (ms'.length : Int) x3)]) rfl (by kernel_rfl) (by kernel_rfl) (by kernel_rfl) (by decide) (fun _ _ _ h => h) (Or.inl ⟨rfl, fun W hW => by rfl⟩) (fun _ => HS2) ?_
            simp only [World.size_alloc, Act.put, List.setIfInBounds_toArray, List.set_cons_succ, List.set_cons_zero]
            refine wpAnyL_pure (i := 16) (oi := ⟨some 55, Op.extract (Operand.tmp 39) 0, _, _, _, _⟩) (v := .agg #[.slice va9 ms9.length vc9]) rfl (by kernel_rfl) (by kernel_rfl) (by kernel_rfl) (by decide) (fun _ _ _ h => h) (Or.inl ⟨rfl, fun W hW => by rfl⟩) (fun _ => HS2) ?_
            simp only [World.size_alloc, Act.put, List.setIfInBounds_toArray, List.set_cons_succ, List.set_cons_zero]
            refine wpAnyL_pure (i := 17) (oi := ⟨some 56, Op.extract (Operand.tmp 39) 1, _, _, _, _⟩) (v := .int .i64 (ikC (ms'.map ND.n) (1 + (p : Int)) (ms'.length : Int) x3)) rfl (by kernel_rfl) (by kernel_rfl) (by kernel_rfl) (by decide) (fun _ _ _ h => h) (Or.inl ⟨rfl, fun W hW => by rfl⟩) (fun _ => HS2) ?_
            simp only [World.size_alloc, Act.put, List.setIfInBounds_toArray, List.set_cons_succ, List.set_cons_zero]
            refine anyL_one 18 rfl (by kernel_rfl) rfl ?_
            have zt := c_of HS2.1
            have ft := Go.Joins.unfrozen_of_block HS2.1 0
            go_wp2_with (fail)
            (try dsimp only)
            obtain ⟨e10, ee10⟩ : ∃ q, q = e9.setCell ⟨w.heap.size + 1, 0, none⟩ (.slice va9 ms9.length vc9) := ⟨_, rfl⟩
            rw [← ee10]
            have T10 := Lib.hid (T9.out.call WW.out ho9 b9 ee10 HK9.out)
            clear ee10 ho9 b9 zt ft T9 HS HS2 CK
            first | refine anyL_done (by kernel_rfl) ?_ _ | (refine ⟨lastdone (by kernel_rfl), ?_⟩; refine anyL_done (by kernel_rfl) ?_ _)
            have hfa := ikN_facts (ms'.map ND.n) (1 + (p : Int)) (ms'.length : Int) x3
            rw [← hms9, List.length_map, List.length_map] at hfa
            clear hms9
            (try dsimp only)
            go_wp2_with (fail)
            go_roundw
            case rel => exact ⟨k + 1, ms9, va9, vc9, by omega, by go_num, T10.out, fun _ => by omega, fun h => by omega, by omega, by omega⟩
            case measure => simp [intOf]; omega
          · (try dsimp only)
            go_wp2_with (fail)
            obtain ⟨g, eg⟩ := T7.out.ptr (by omega)
            subst eg
            have hpl : 0 < ms'.length := (by omega)
            obtain ⟨ka, kc, ekv⟩ := T7.out.kform hpl
            have hkb := kl_le hpl
            obtain ⟨kl, ekl⟩ : ∃ q, q = (ms'[0]'hpl).n.kids.length := ⟨_, rfl⟩
            rw [← ekl] at ekv hkb
            have CK := Lib.hid (fun (wz : World) (h : TD w cb a len cap ms' (.slice (some ⟨g, 0, none⟩) ms'.length vc') wz) => (h.cellK hpl).trans (congrArg some ekv))
            clear ekv ekl
            have hwk : IntKind.i64.wrap ((kl : Int) + 1) = (kl : Int) + 1 := IntWalk.i64_in _ (by omega)
            have hwp : IntKind.i64.wrap ((1 : Int) - 1) = (0 : Int) := (by rw [show ((1 : Int) : Int) - 1 = (0 : Int) by omega]; exact IntWalk.i64_in _ (by omega))
            have hw0 : IntKind.i64.wrap 0 = 0 := IntWalk.i64_in _ (by omega)
            have hp0 : (0 : Int) ≤ (0 : Int) := (by omega)
            have hp1 : (0 : Int) < (ms'.length : Int) := (by omega)
            refine wp_region_L (S := fun w' => w'.heap[w.heap.size + 1]? = some (.cells #[.slice (some ⟨g, 0, none⟩) ms'.length vc'] 26) ∧ w'.cell? ⟨g, 0 * 64 + 1, none⟩ = some (.slice ka kl kc)) 18 (by kernel_rfl) ?_
            change wpAnyL _ _ _ _ 18 _ 19 (Array.replicate 19 false) _ _
            have T8 := Lib.hid (T7.out.drew WW.out)
            have HS := And.intro T8.out.here (CK.out _ T8.out)
            refine wpAnyL_take (i := 0) (oi := ⟨some 40, Op.load 26 (Operand.tmp 3), _, _, _, _⟩) (v := .agg #[.slice (some ⟨g, 0, none⟩) ms'.length vc']) rfl (by kernel_rfl) (by kernel_rfl) (by kernel_rfl) (by kernel_rfl) (by kernel_rfl) (fun _ _ _ h => h) (yields_row rfl rfl rfl im_tree (im_tree1 _) (fun w' hw' => hw'.1)) HS ?_
            simp only [World.size_alloc, Act.put, List.setIfInBounds_toArray, List.set_cons_succ, List.set_cons_zero]
            refine wpAnyL_pure (i := 1) (oi := ⟨some 41, Op.move (Operand.tmp 6), _, _, _, _⟩) (v := .int .i64 (1 : Int)) rfl (by kernel_rfl) (by kernel_rfl) (by kernel_rfl) (by decide) (fun _ _ _ h => h) (Or.inl ⟨rfl, fun W hW => by rfl⟩) (fun _ => HS) ?_
            simp only [World.size_alloc, Act.put, List.setIfInBounds_toArray, List.set_cons_succ, List.set_cons_zero]
            refine wpAnyL_pure (i := 2) (oi := ⟨some 42, Op.move (Operand.tmp 5), _, _, _, _⟩) (v := .int .i64 (ms'.length : Int)) rfl (by kernel_rfl) (by kernel_rfl) (by kernel_rfl) (by decide) (fun _ _ _ h => h) (Or.inl ⟨rfl, fun W hW => by rfl⟩) (fun _ => HS) ?_
            simp only [World.size_alloc, Act.put, List.setIfInBounds_toArray, List.set_cons_succ, List.set_cons_zero]
            refine wpAnyL_pure (i := 3) (oi := ⟨some 43, Op.move (Operand.tmp 0), _, _, _, _⟩) (v := .pointer (some ⟨cb, 0, none⟩)) rfl (by kernel_rfl) (by kernel_rfl) (by kernel_rfl) (by decide) (fun _ _ _ h => h) (Or.inl ⟨rfl, fun W hW => by rfl⟩) (fun _ => HS) ?_
            simp only [World.size_alloc, Act.put, List.setIfInBounds_toArray, List.set_cons_succ, List.set_cons_zero]
            refine wpAnyL_pure (i := 4) (oi := ⟨some 44, Op.fieldAddr 26 (Operand.tmp 3) 0, _, _, _, _⟩) (v := .pointer (some ⟨w.heap.size + 1, 0, none⟩)) rfl (by kernel_rfl) (by kernel_rfl) (by kernel_rfl) (by decide) (fun _ _ _ h => h) (Or.inl ⟨by rfl, fun W hW => by (try dsimp only at hW); go_simp <;> with_reducible rfl⟩) (fun _ => HS) ?_
            simp only [World.size_alloc, Act.put, List.setIfInBounds_toArray, List.set_cons_succ, List.set_cons_zero]
            have ct : ∀ (W : World), (fun w' => w'.heap[w.heap.size + 1]? = some (.cells #[.slice (some ⟨g, 0, none⟩) ms'.length vc'] 26) ∧ w'.cell? ⟨g, 0 * 64 + 1, none⟩ = some (.slice ka kl kc)) W → W.cell? ⟨w.heap.size + 1, 0, none⟩ = some (.slice (some ⟨g, 0, none⟩) ms'.length vc') := fun W hW => c_of hW.1
            refine wpAnyL_take (i := 5) (oi := ⟨some 45, Op.load 24 (Operand.tmp 44), _, _, _, _⟩) (v := .slice (some ⟨g, 0, none⟩) ms'.length vc') rfl (by kernel_rfl) (by kernel_rfl) (by kernel_rfl) (by kernel_rfl) (by kernel_rfl) (fun _ _ _ h => h) (Or.inl ⟨by rfl, fun W hW => by have c9 := ct W hW; clear hW; go_simp <;> with_reducible rfl⟩) HS ?_
            simp only [World.size_alloc, Act.put, List.setIfInBounds_toArray, List.set_cons_succ, List.set_cons_zero]
            refine wpAnyL_pure (i := 6) (oi := ⟨some 46, Op.move (Operand.tmp 6), _, _, _, _⟩) (v := .int .i64 (1 : Int)) rfl (by kernel_rfl) (by kernel_rfl) (by kernel_rfl) (by decide) (fun _ _ _ h => h) (Or.inl ⟨rfl, fun W hW => by rfl⟩) (fun _ => HS) ?_
            simp only [World.size_alloc, Act.put, List.setIfInBounds_toArray, List.set_cons_succ, List.set_cons_zero]
            refine wpAnyL_pure (i := 7) (oi := ⟨some 47, Op.binOp BinOp.sub 3 (Operand.tmp 46) (Operand.const (Value.int IntKind.i64 1)) 3, _, _, _, _⟩) (v := .int .i64 (0 : Int)) rfl (by kernel_rfl) (by kernel_rfl) (by kernel_rfl) (by decide) (fun _ _ _ h => h) (Or.inl ⟨by rfl, fun W hW => by (try dsimp only at hW); go_simp <;> with_reducible rfl⟩) (fun _ => HS) ?_
            simp only [World.size_alloc, Act.put, List.setIfInBounds_toArray, List.set_cons_succ, List.set_cons_zero]
            refine wpAnyL_pure (i := 8) (oi := ⟨some 48, Op.indexAddr 24 (Operand.tmp 45) (Operand.tmp 47), _, _, _, _⟩) (v := .pointer (some ⟨g, 0 * 64, none⟩)) rfl (by kernel_rfl) (by kernel_rfl) (by kernel_rfl) (by decide) (fun _ _ _ h => h) (Or.inl ⟨by rfl, fun W hW => by (try dsimp only at hW); go_simp <;> with_reducible rfl⟩) (fun _ => HS) ?_
            simp only [World.size_alloc, Act.put, List.setIfInBounds_toArray, List.set_cons_succ, List.set_cons_zero]
            refine wpAnyL_pure (i := 9) (oi := ⟨some 49, Op.fieldAddr 61 (Operand.tmp 48) 1, _, _, _, _⟩) (v := .pointer (some ⟨g, 0 * 64 + 1, none⟩)) rfl (by kernel_rfl) (by kernel_rfl) (by kernel_rfl) (by decide) (fun _ _ _ h => h) (Or.inl ⟨by rfl, fun W hW => by (try dsimp only at hW); go_simp <;> with_reducible rfl⟩) (fun _ => HS) ?_
            simp only [World.size_alloc, Act.put, List.setIfInBounds_toArray, List.set_cons_succ, List.set_cons_zero]
            refine wpAnyL_take (i := 10) (oi := ⟨some 50, Op.load 59 (Operand.tmp 49), _, _, _, _⟩) (v := .slice ka kl kc) rfl (by kernel_rfl) (by kernel_rfl) (by kernel_rfl) (by kernel_rfl) (by kernel_rfl) (fun _ _ _ h => h) (Or.inl ⟨by rfl, fun W hW => by have c9 := hW.2; clear hW; go_simp <;> with_reducible rfl⟩) HS ?_
            simp only [World.size_alloc, Act.put, List.setIfInBounds_toArray, List.set_cons_succ, List.set_cons_zero]
            refine wpAnyL_pure (i := 11) (oi := ⟨some 51, Op.call { callee := .builtin .len, args := #[Operand.tmp 50], argTypes := #[59] }, _, _, _, _⟩) (v := .int .i64 (kl : Int)) rfl (by kernel_rfl) (by kernel_rfl) (by kernel_rfl) (by decide) (fun _ _ _ h => h) (Or.inl ⟨by rfl, fun W hW => by (try dsimp only at hW); go_simp <;> with_reducible rfl⟩) (fun _ => HS) ?_
            simp only [World.size_alloc, Act.put, List.setIfInBounds_toArray, List.set_cons_succ, List.set_cons_zero]
            refine wpAnyL_pure (i := 12) (oi := ⟨some 52, Op.binOp BinOp.add 3 (Operand.tmp 51) (Operand.const (Value.int IntKind.i64 1)) 3, _, _, _, _⟩) (v := .int .i64 ((kl : Int) + 1)) rfl (by kernel_rfl) (by kernel_rfl) (by kernel_rfl) (by decide) (fun _ _ _ h => h) (Or.inl ⟨by rfl, fun W hW => by (try dsimp only at hW); go_simp <;> with_reducible rfl⟩) (fun _ => HS) ?_
            simp only [World.size_alloc, Act.put, List.setIfInBounds_toArray, List.set_cons_succ, List.set_cons_zero]
            clear ct HS
            refine anyL_one 13 rfl (by kernel_rfl) rfl ?_
            go_wp2_with (fail)
            refine (below_pos ((kl : Int) + 1) cb a len cap _ (by omega) (by omega) T8.out.cur).mono ?_
            rintro e e8 ⟨x3, rfl, p3, q3, c8, g8, _⟩
            (try dsimp only)
            have T9 := Lib.hid (T8.out.draw WW.out g8 c8)
            clear g8 c8 T8
            have HS := And.intro T9.out.here (CK.out _ T9.out)
            first | refine ⟨HS, ?_⟩ | refine ⟨fun _ => HS, ?_⟩
            refine anyL_one 14 rfl (by kernel_rfl) rfl ?_
            go_wp2_with (fail)
            have hN := T9.out.own.ndsR' rfl
            have hq := (sinsertkidK (some ⟨g, 0, none⟩) vc' (ms'.map ND.n) (1 : Int) (ms'.length : Int) x3 e8 hN (by omega) ⟨by omega, by omega⟩ ⟨by omega, by omega⟩ ⟨by omega, by omega⟩ T9.out.own.kcap)
            rw [List.length_map] at hq
            refine hq.mono ?_
            clear hq hN
            rintro e e9 ⟨v9, ms9, hms9, rfl, ho9, b9, hk9⟩
            have HK9 := Lib.hid hk9
            clear hk9
            obtain ⟨va9, vc9, rfl⟩ := own_form ho9.1
            (try dsimp only)
            have T9b := T9.out.below WW.out b9
            have HS2 := And.intro T9b.here (CK.out _ T9b)
            clear T9b
            first | refine ⟨HS2, ?_⟩ | refine ⟨fun _ => HS2, ?_⟩
            refine wpAnyL_pure (i := 15) (oi := ⟨some 39, Op.move (Operand.tmp 54), _, _, _, _⟩) (v := .tuple #[.agg #[.slice va9 ms9.length vc9], .int .i64 (ikC (ms'.map ND.n) (1 : Int) (ms'.length : Int) x3)]) rfl (by kernel_rfl) (by kernel_rfl) (by kernel_rfl) (by decide) (fun _ _ _ h => h) (Or.inl ⟨rfl, fun W hW => by rfl⟩) (fun _ => HS2) ?_
            simp only [World.size_alloc, Act.put, List.setIfInBounds_toArray, List.set_cons_succ, List.set_cons_zero]
            refine wpAnyL_pure (i := 16) (oi := ⟨some 55, Op.extract (Operand.tmp 39) 0, _, _, _, _⟩) (v := .agg #[.slice va9 ms9.length vc9]) rfl (by kernel_rfl) (by kernel_rfl) (by kernel_rfl) (by decide) (fun _ _ _ h => h) (Or.inl ⟨rfl, fun W hW => by rfl⟩) (fun _ => HS2) ?_
            simp only [World.size_alloc, Act.put, List.setIfInBounds_toArray, List.set_cons_succ, List.set_cons_zero]
            refine wpAnyL_pure (i := 17) (oi := ⟨some 56, Op.extract (Operand.tmp 39) 1, _, _, _, _⟩) (v := .int .i64 (ikC (ms'.map ND.n) (1 : Int) (ms'.length : Int) x3)) rfl (by kernel_rfl) (by kernel_rfl) (by kernel_rfl) (by decide) (fun _ _ _ h => h) (Or.inl ⟨rfl, fun W hW => by rfl⟩) (fun _ => HS2) ?_
            simp only [World.size_alloc, Act.put, List.setIfInBounds_toArray, List.set_cons_succ, List.set_cons_zero]
            refine anyL_one 18 rfl (by kernel_rfl) rfl ?_
            have zt := c_of HS2.1
            have ft := Go.Joins.unfrozen_of_block HS2.1 0
            go_wp2_with (fail)
            (try dsimp only)
            obtain ⟨e10, ee10⟩ : ∃ q, q = e9.setCell ⟨w.heap.size + 1, 0, none⟩ (.slice va9 ms9.length vc9) := ⟨_, rfl⟩
            rw [← ee10]
            have T10 := Lib.hid (T9.out.call WW.out ho9 b9 ee10 HK9.out)
            clear ee10 ho9 b9 zt ft T9 HS HS2 CK
            first | refine anyL_done (by kernel_rfl) ?_ _ | (refine ⟨lastdone (by kernel_rfl), ?_⟩; refine anyL_done (by kernel_rfl) ?_ _)
            have hfa := ikN_facts (ms'.map ND.n) (1 : Int) (ms'.length : Int) x3
            rw [← hms9, List.length_map, List.length_map] at hfa
            clear hms9
            (try dsimp only)
            go_wp2_with (fail)
            go_roundw
            case rel => exact ⟨k + 1, ms9, va9, vc9, by omega, by go_num, T10.out, fun _ => by omega, fun h => by omega, by omega, by omega⟩
            case measure => simp [intOf]; omega
        · (try dsimp only)
          go_wp2_with (fail)
          go_roundw
          case rel => exact ⟨k + 1, ms', va', vc', by omega, by go_num, T5.out, fun _ => hm1, fun h => by omega, by omega, hm2⟩
          case measure => simp [intOf]; omega
      · have hn1 : ¬ ((1 : Int) < (ms'.length : Int)) := (by omega)
        (try dsimp only)
        go_wp2_with (fail)
        go_roundw
        case rel => exact ⟨k + 1, ms', va', vc', by omega, by go_num, T4.out, fun _ => hm1, fun h => by omega, by omega, hm2⟩
        case measure => simp [intOf]; omega
    · have hkx' : ¬ ((k : Int) ≤ x) := hkx
      have hm0 : 1 ≤ ms.length := hk1 (by omega)
      (try dsimp only)
      go_wp2_with (fail)
      go_loopw [7] (TSRel w cb a len cap) (fun i _ => 14 - (intOf i).toNat)
      case atStart => exact ⟨1, ms, va, vc, by omega, rfl, T1.out, hm0, by omega, hl12, by omega⟩
      case round =>
        clear hm0 hk1 hk0 hsz hl12 T1 hkx hk x0 x1
        obtain ⟨k, ms, va, vc, hk1, rfl, hT, hm0, hsz, hl12, hkl⟩ := hrel
        have T1 := Lib.hid hT
        clear hT
        have zt := c_of T1.out.here
        by_cases hkn : k ≤ ms.length
        · have hkn' : (k : Int) ≤ (ms.length : Int) := (by omega)
          go_wp2_with (fail)
          refine (once_any 2 cb a len cap _ (by omega) (by omega) T1.out.cur).mono ?_
          rintro e w2 ⟨t, rfl, c2, g2⟩
          have T2 := Lib.hid (T1.out.draw WW.out g2 c2)
          clear c2 g2 T1 zt
          cases t
          · (try dsimp only)
            go_wp2_with (fail)
            go_roundw
            case rel => exact ⟨k + 1, ms, va, vc, by omega, by go_num, T2.out, hm0, by omega, hl12, by omega⟩
            case measure => simp [intOf]; omega
          · (try dsimp only)
            go_wp2_with (fail)
            refine wp_region_L (S := fun w' => w'.heap[w.heap.size + 1]? = some (.cells #[.slice va ms.length vc] 26)) 8 (by kernel_rfl) ?_
            change wpAnyL _ _ _ _ 8 _ 9 (Array.replicate 9 false) _ _
            have T3 := Lib.hid (T2.out.drew WW.out)
            have HS := T3.out.here
            refine wpAnyL_take (i := 0) (oi := ⟨some 67, Op.load 26 (Operand.tmp 3), _, _, _, _⟩) (v := .agg #[.slice va ms.length vc]) rfl (by kernel_rfl) (by kernel_rfl) (by kernel_rfl) (by kernel_rfl) (by kernel_rfl) (fun _ _ _ h => h) (yields_row rfl rfl rfl im_tree (im_tree1 _) (fun w' hw' => hw')) HS ?_
            simp only [World.size_alloc, Act.put, List.setIfInBounds_toArray, List.set_cons_succ, List.set_cons_zero]
            refine wpAnyL_pure (i := 1) (oi := ⟨some 68, Op.move (Operand.tmp 7), _, _, _, _⟩) (v := .int .i64 (k : Int)) rfl (by kernel_rfl) (by kernel_rfl) (by kernel_rfl) (by decide) (fun _ _ _ h => h) (Or.inl ⟨rfl, fun W hW => by rfl⟩) (fun _ => HS) ?_
            simp only [World.size_alloc, Act.put, List.setIfInBounds_toArray, List.set_cons_succ, List.set_cons_zero]
            refine wpAnyL_pure (i := 2) (oi := ⟨some 69, Op.move (Operand.tmp 0), _, _, _, _⟩) (v := .pointer (some ⟨cb, 0, none⟩)) rfl (by kernel_rfl) (by kernel_rfl) (by kernel_rfl) (by decide) (fun _ _ _ h => h) (Or.inl ⟨rfl, fun W hW => by rfl⟩) (fun _ => HS) ?_
            simp only [World.size_alloc, Act.put, List.setIfInBounds_toArray, List.set_cons_succ, List.set_cons_zero]
            refine anyL_one 3 rfl (by kernel_rfl) rfl ?_
            go_wp2_with (fail)
            refine (l09t_any cb a len cap _ (T3.out.lt WW.out) (T3.out.code WW.out) T3.out.cur).mono ?_
            rintro e e1 ⟨v1, rl, zs, rfl, hr1, hr2, hzA, hRR, c1, g1⟩
            obtain ⟨b1, bc1, rfl, hRl⟩ := hRR.slice hzA
            (try dsimp only)
            have T4 := Lib.hid (T3.out.draw WW.out g1 c1)
            clear g1 c1 T3 HS
            have HS := T4.out.here
            first | refine ⟨HS, ?_⟩ | refine ⟨fun _ => HS, ?_⟩
            refine anyL_one 4 rfl (by kernel_rfl) rfl ?_
            go_wp2_with (fail)
            have hN := T4.out.own.ndsR' rfl
            have hq := (ssettableK va vc (ms.map ND.n) (k : Int) b1 rl bc1 zs e1 hN (by omega) hRl (by omega) ⟨by omega, by omega⟩)
            rw [List.length_map] at hq
            refine hq.mono ?_
            clear hq hN
            rintro e e9 ⟨v9, ms9, hms9, rfl, ho9, b9, hk9⟩
            have HK9 := Lib.hid hk9
            clear hk9
            obtain ⟨va9, vc9, rfl⟩ := own_form ho9.1
            (try dsimp only)
            have HS2 := (T4.out.below WW.out b9).here
            first | refine ⟨HS2, ?_⟩ | refine ⟨fun _ => HS2, ?_⟩
            refine wpAnyL_pure (i := 5) (oi := ⟨some 66, Op.move (Operand.tmp 71), _, _, _, _⟩) (v := .tuple #[.agg #[.slice va9 ms9.length vc9], .int .i64 (stC (ms.map ND.n) (k : Int) rl zs)]) rfl (by kernel_rfl) (by kernel_rfl) (by kernel_rfl) (by decide) (fun _ _ _ h => h) (Or.inl ⟨rfl, fun W hW => by rfl⟩) (fun _ => HS2) ?_
            simp only [World.size_alloc, Act.put, List.setIfInBounds_toArray, List.set_cons_succ, List.set_cons_zero]
            refine wpAnyL_pure (i := 6) (oi := ⟨some 72, Op.extract (Operand.tmp 66) 0, _, _, _, _⟩) (v := .agg #[.slice va9 ms9.length vc9]) rfl (by kernel_rfl) (by kernel_rfl) (by kernel_rfl) (by decide) (fun _ _ _ h => h) (Or.inl ⟨rfl, fun W hW => by rfl⟩) (fun _ => HS2) ?_
            simp only [World.size_alloc, Act.put, List.setIfInBounds_toArray, List.set_cons_succ, List.set_cons_zero]
            refine wpAnyL_pure (i := 7) (oi := ⟨some 73, Op.extract (Operand.tmp 66) 1, _, _, _, _⟩) (v := .int .i64 (stC (ms.map ND.n) (k : Int) rl zs)) rfl (by kernel_rfl) (by kernel_rfl) (by kernel_rfl) (by decide) (fun _ _ _ h => h) (Or.inl ⟨rfl, fun W hW => by rfl⟩) (fun _ => HS2) ?_
            simp only [World.size_alloc, Act.put, List.setIfInBounds_toArray, List.set_cons_succ, List.set_cons_zero]
            refine anyL_one 8 rfl (by kernel_rfl) rfl ?_
            have zt := c_of HS2
            have ft := Go.Joins.unfrozen_of_block HS2 0
            go_wp2_with (fail)
            (try dsimp only)
            obtain ⟨e10, ee10⟩ : ∃ q, q = e9.setCell ⟨w.heap.size + 1, 0, none⟩ (.slice va9 ms9.length vc9) := ⟨_, rfl⟩
            rw [← ee10]
            have T10 := Lib.hid (T4.out.call WW.out ho9 b9 ee10 HK9.out)
            clear ee10 ho9 b9 zt ft T4 HS HS2
            first | refine anyL_done (by kernel_rfl) ?_ _ | (refine ⟨lastdone (by kernel_rfl), ?_⟩; refine anyL_done (by kernel_rfl) ?_ _)
            have hfa := stN_facts (ms.map ND.n) (k : Int) rl zs (by omega)
            rw [← hms9, List.length_map, List.length_map] at hfa
            clear hms9
            (try dsimp only)
            go_wp2_with (fail)
            go_roundw
            case rel => exact ⟨k + 1, ms9, va9, vc9, by omega, by go_num, T10.out, by omega, by omega, by omega, by omega⟩
            case measure => simp [intOf]; omega
        · have hkn' : ¬ ((k : Int) ≤ (ms.length : Int)) := (by omega)
          have zr := c_of T1.out.res
          have fr := Go.Joins.unfrozen_of_block T1.out.res 0
          go_wp2_with (fail)
          obtain ⟨u9, eu9⟩ : ∃ q, q = wr.setCell ⟨w.heap.size, 0, none⟩ (.slice va ms.length vc) := ⟨_, rfl⟩
          rw [← eu9]
          obtain ⟨zc, D1, D2, D3⟩ := T1.out.fin WW.out eu9
          exact bodyPost_ret (v := .agg #[.slice va ms.length vc]) (by simp [results, Try.results101, go_sem, zc]) rfl ⟨va, vc, ms, rfl, D1, hm0, hl12, by omega, D2, D3, T1.out.kc⟩
end Go.Proofs.Ytckpjldenkjddaa
end

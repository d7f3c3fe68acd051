/-
  The laws' helpers markNodeS and markTree on a tree of the call's own: walked over a symbolic frame (598 slots). Conditions: no list of more than 2097152.
-/
import Derived.Test.YtbfhipfflomokaaSym
namespace Go.Proofs.Ytbfhipfflomokaa
open Go.ChangeShapes Go.WideShapes Go.ChangeAt Go.RowKit
set_option linter.unusedVariables false
set_option linter.unusedSimpArgs false
set_option maxRecDepth 8000

theorem then_n {next : Act → World → Prop} {Q : Exit → Act → World → Prop} {a : Act} {w : World} (h : next a w) : Exit.then next Q .normal a w := h
theorem then_x {next : Act → World → Prop} {Q : Exit → Act → World → Prop} {a : Act} {w : World} {i : Nat} (h : Q (.exit i) a w) : Exit.then next Q (.exit i) a w := h
theorem inb_x {id : Nat} {Q : Exit → Act → World → Prop} {a : Act} {w : World} (h : Q .normal a w) : Exit.inBlock id Q (.exit id) a w := by show (if id = id then Q .normal a w else Q (.exit id) a w); rw [if_pos rfl]; exact h
theorem inb_n {id : Nat} {Q : Exit → Act → World → Prop} {a : Act} {w : World} (h : Q .normal a w) : Exit.inBlock id Q .normal a w := h
theorem mkV_i (B j : Nat) (h : ¬ (j = 6 ∨ j = 7 ∨ j = 60)) : Value.int .i64 ((B + j : Nat) : Int) = mkV B j := by unfold mkV; rw [if_neg h, Int.natCast_add]
theorem mkV_b (B j : Nat) (h : j = 6 ∨ j = 7 ∨ j = 60) : Value.bool (Int.tmod ((B + j : Nat) : Int) 3 == 0) = mkV B j := by unfold mkV; rw [if_pos h, Int.natCast_add]
theorem mksI_all {k n : Nat} (h : k + n ≤ 4611686018427387904) : AllI (mksI k n) := fun z hz => by
  obtain ⟨j, hj, rfl⟩ := List.mem_map.1 hz
  have := List.mem_range.1 hj
  omega
theorem mkF_all {B : Nat} (h : B ≤ 4600000000) : InR (mkF B) := fun j => by
  unfold mkF
  split
  · split <;> omega
  · split <;> omega
theorem HU35 : Try.prog.underlying 35 = some (.struct (Try.prog.fieldsOf 35)) := by kernel_rfl
theorem HU37 : Try.prog.underlying 37 = some (.struct (Try.prog.fieldsOf 37)) := by kernel_rfl
theorem HU39 : Try.prog.underlying 39 = some (.struct (Try.prog.fieldsOf 39)) := by kernel_rfl
section
variable {Q : Exit → Act → World → Prop} {a : Act} {u : World} {g cap n N k s id : Nat} {v : Value}
/-- 'i++' -/
theorem rg_inc5 {T1 T2 T3 : TypeId} {p1 p2 p3 : String} {f1 f2 f3} {v : Value} (F : Fr N (.slice (some ⟨g, 0, none⟩) n cap) v (.int .i64 k) a) (h0 : (0 : Int) ≤ k) (h1 : (k : Int) ≤ 4611686018427387904) (hs : s + 2 ≤ N) (hs0 : 6 ≤ s)
    (h : ∀ a', Fr N (.slice (some ⟨g, 0, none⟩) n cap) v (.int .i64 ((k : Int) + 1)) a' → Q .normal a' u) :
    (Code.region id #[⟨some s, .move (.tmp 5), T1, p1, f1, none⟩, ⟨some (s + 1), .binOp .add 3 (.tmp s) (.const (.int .i64 1)) 3, T2, p2, f2, none⟩, ⟨some 5, .assign (.tmp (s + 1)), T3, p3, f3, none⟩] false).wp Try.prog Q a u := by
  refine wp_region_list ?_
  have hN := F.size
  refine s_move F.e5 ?_
  refine s_add1 (z := k) (by rw [evs _ _ _ (by omega)]) h0 h1 ?_
  refine s_assign (v := .int .i64 ((k : Int) + 1)) (by rw [evs _ _ _ (by rw [szp]; omega)]) ?_
  refine wpList_nil ?_
  refine h _ ?_
  refine ⟨?_, ?_, ?_, ?_, ?_⟩
  · simp only [szp]; exact hN
  · rw [evn _ _ _ _ (by omega), evn _ _ _ _ (by omega), evn _ _ _ _ (by omega)]; exact F.e0
  · rw [evn _ _ _ _ (by omega), evn _ _ _ _ (by omega), evn _ _ _ _ (by omega)]; exact F.e1
  · rw [evs _ _ _ (by simp only [szp]; omega)]
  · simp only [dfp]; exact F.defers
/-- 'return k' -/
theorem rg_ret {ao : Option Addr} {T1 T2 : TypeId} {p1 p2 : String} {f1 f2} {z : Int} (F : Fr N (.slice ao n cap) (.int .i64 z) v a) (hs : s + 1 ≤ N) (hs0 : 6 ≤ s)
    (h : ∀ a', a'.defers = [] → a'.eval (.tmp 4) = .int .i64 z → Q .normal a' u) :
    (Code.region id #[⟨some s, .move (.tmp 1), T1, p1, f1, none⟩, ⟨some 4, .assign (.tmp s), T2, p2, f2, none⟩] false).wp Try.prog Q a u := by
  refine wp_region_list ?_
  have hN := F.size
  refine s_move F.e1 ?_
  refine s_assign (v := .int .i64 z) (by rw [evs _ _ _ (by omega)]) ?_
  refine wpList_nil ?_
  refine h _ ?_ ?_
  · simp only [dfp]; exact F.defers
  · rw [evs _ _ _ (by simp only [szp]; omega)]
/-- 'i < len(a)' -/
theorem rg_cond {ao : Option Addr} {T1 T2 T3 T4 : TypeId} {p1 p2 p3 p4 : String} {f1 f2 f3 f4} {v : Value} (F : Fr N (.slice ao n cap) v (.int .i64 k) a) (hs : s + 4 ≤ N) (hs0 : 6 ≤ s)
    (h : ∀ a', Fr N (.slice ao n cap) v (.int .i64 k) a' → a'.eval (.tmp (s + 3)) = .bool (decide ((k : Int) < (n : Int))) → Q .normal a' u) :
    (Code.region id #[⟨some s, .move (.tmp 5), T1, p1, f1, none⟩, ⟨some (s + 1), .move (.tmp 0), T2, p2, f2, none⟩, ⟨some (s + 2), .call { callee := .builtin .len, args := #[.tmp (s + 1)], argTypes := #[24] }, T3, p3, f3, none⟩, ⟨some (s + 3), .binOp .lss 3 (.tmp s) (.tmp (s + 2)) 3, T4, p4, f4, none⟩] false).wp Try.prog Q a u := by
  refine wp_region_list ?_
  have hN := F.size
  refine s_move F.e5 ?_
  refine s_move (v := .slice ao n cap) (by rw [evn _ _ _ _ (by omega)]; exact F.e0) ?_
  refine s_len (ao := ao) (n := n) (c := cap) (by rw [evs _ _ _ (by rw [szp]; omega)]) ?_
  refine s_lss (z1 := k) (z2 := n) (by rw [evn _ _ _ _ (by omega), evn _ _ _ _ (by omega), evs _ _ _ (by omega)]) (by rw [evs _ _ _ (by simp only [szp]; omega)]) ?_
  refine wpList_nil ?_
  refine h _ ?_ ?_
  · refine ⟨?_, ?_, ?_, ?_, ?_⟩
    · simp only [szp]; exact hN
    · rw [evn _ _ _ _ (by omega), evn _ _ _ _ (by omega), evn _ _ _ _ (by omega), evn _ _ _ _ (by omega)]; exact F.e0
    · rw [evn _ _ _ _ (by omega), evn _ _ _ _ (by omega), evn _ _ _ _ (by omega), evn _ _ _ _ (by omega)]; exact F.e1
    · rw [evn _ _ _ _ (by omega), evn _ _ _ _ (by omega), evn _ _ _ _ (by omega), evn _ _ _ _ (by omega)]; exact F.e5
    · simp only [dfp]; exact F.defers
  · rw [evs _ _ _ (by simp only [szp]; omega)]
end
def MnI (lo g cap hi K : Nat) (ms0 : List ND) (w : World) (a : Act) (wr : World) : Prop :=
  ∃ k : Nat, k ≤ ms0.length ∧ Fr 598 (.slice (some ⟨g, 0, none⟩) ms0.length cap) (.int .i64 (nxL K (ms0.take k) : Nat)) (.int .i64 k) a ∧ OwnN lo (.slice (some ⟨g, 0, none⟩) ms0.length cap) (mkL K (ms0.take k) ++ ms0.drop k) wr ∧ MkFr lo hi w wr
set_option maxHeartbeats 16000000 in
theorem markns_any (lo g cap hi K : Nat) (ms0 : List ND) (w : World) (h : OwnN lo (.slice (some ⟨g, 0, none⟩) ms0.length cap) ms0 w) (hg : lo ≤ g ∧ g < hi) (hb : ∀ m ∈ ms0, ∀ s b, m.comp s = some b → lo ≤ b ∧ b < hi) (hsz : szS (ms0.map ND.n) ≤ 2097152) (hK : K ≤ 1) :
    Calls Try.prog 83 #[.slice (some ⟨g, 0, none⟩) ms0.length cap, .int .i64 K] w fun e w' => e = .returned (.int .i64 (nxL K ms0 : Nat)) ∧ OwnN lo (.slice (some ⟨g, 0, none⟩) ms0.length cap) (mkL K ms0) w' ∧ MkFr lo hi w w' := by
  have HB := Lib.hid hb
  have HG := Lib.hid hg
  have HSZ := Lib.hid hsz
  have HH := Lib.hid h
  have hnl : ms0.length ≤ 2097152 := by unfold szS at hsz; simp at hsz; omega
  clear h hb hg hsz
  go_enter Try.func83, Try.ntmps83
  go_wp2_with (fail)
  refine wp_loop (MnI lo g cap hi K ms0 w) (fun a _ => ms0.length - (intOf (a.eval (.tmp 5))).toNat) ?h0 ?round
  case h0 => exact ⟨0, Nat.zero_le _, ⟨rfl, rfl, rfl, rfl, rfl⟩, HH.out, MkFr.refl _ _ _⟩
  case round =>
    intro a0 wr hI
    obtain ⟨k, hk, F0, ho, hf⟩ := hI
    have F := F0
    repeat refine wp_seq ?_
    refine rg_cond (s := 6) (N := 598) F (by decide) (by decide) ?_
    intro a F hcond
    refine then_n ?_
    by_cases hlt : k < ms0.length
    · refine wp_cond (t := true) (by rw [hcond, decide_eq_true (by omega)]) ?_
      refine wp_skip ?_
      refine then_n ?_
      repeat refine wp_seq ?_
      refine wp_block ?_
      · skip
        have hlo : (0 : Int) ≤ (k : Int) := Int.natCast_nonneg _
        have hhi : (k : Int) < (ms0.length : Int) := by omega
        obtain ⟨ms, ems⟩ : ∃ ms, ms = mkL K (ms0.take k) ++ ms0.drop k := ⟨_, rfl⟩
        have hml : ms.length = ms0.length := by rw [ems, List.length_append, mkL_len, List.length_take, List.length_drop]; omega
        have hmi : ms[k]? = some ms0[k] := by
          rw [ems, List.getElem?_append_right (by rw [mkL_len, List.length_take]; omega), mkL_len, List.length_take, Nat.min_eq_left (by omega), Nat.sub_self, List.getElem?_drop, Nat.add_zero, List.getElem?_eq_getElem hlt]
        have hnext : ms.set k (mkM (nxL K (ms0.take k)) ms0[k]) = mkL K (ms0.take (k + 1)) ++ ms0.drop (k + 1) := by
          rw [List.take_succ_eq_append_getElem hlt, (mkL_snoc K (ms0.take k) ms0[k]).1, ems, List.append_assoc, List.singleton_append, List.set_append_right _ _ (by rw [mkL_len, List.length_take]; omega), mkL_len, List.length_take, Nat.min_eq_left (by omega), Nat.sub_self, List.drop_eq_getElem_cons hlt, List.set_cons_zero]
        have hnx : nxL K (ms0.take (k + 1)) = nxN (nxL K (ms0.take k)) ms0[k].n := by rw [List.take_succ_eq_append_getElem hlt, (mkL_snoc K (ms0.take k) ms0[k]).2]
        have hq1 := nxL_le K (ms0.take k)
        have hq2 : szS ((ms0.take k).map ND.n) ≤ 2097152 := by
          have h1 := HSZ.out
          unfold szS at h1 ⊢
          simp only [List.length_map, List.length_take] at h1 ⊢
          have h2 := szL_take_le (ms0.map ND.n) k
          rw [List.map_take]
          omega
        have hmem := HH.out.2.1 ms0[k] (List.getElem_mem hlt)
        have hmb := HB.out ms0[k] (List.getElem_mem hlt)
        have hszk : szK ms0[k].n ≤ 2097152 := by
          have h1 := szK_le (ns := ms0.map ND.n) (i := k) (by simpa using hlt)
          have h2 := HSZ.out
          unfold szS at h2
          simp at h1
          omega
        rw [← ems, ← hml] at ho
        have hown := (ho.2.1 ms0[k] (List.mem_of_getElem? hmi)).1
        have hgne := (ho.2.1 ms0[k] (List.mem_of_getElem? hmi)).2
        have HNEXT := Lib.hid hnext
        have HNX := Lib.hid hnx
        generalize ms0[k] = m at *
        generalize nxL K (ms0.take k) = KK at *
        have hKK : KK ≤ 4000000000 := by omega
        have hkl : m.n.kids.length ≤ 2097152 := by unfold szK at hszk; omega
        have htl : m.n.rl ≤ 2097152 := by unfold szK at hszk; omega
        -- the parent's number
        have hrow := ho.1
        have hcl := cellsN_len ms
        have hc := fun j (hj : j < 64) => cellsN_at ms k j hj
        rw [hmi] at hc
        have hthere : wr.there g (k * 64) 1 := fun q hq => by
          obtain rfl : q = 0 := by omega
          refine ⟨?_, World.ownsRow.frozenAt hrow _⟩
          rw [Nat.add_zero, World.ownsRow.cellAt hrow (k * 64) (by omega), List.getElem?_eq_getElem (by omega)]
          rfl
        have c0 : ∃ x, wr.cell? ⟨g, k * 64, none⟩ = some x := by
          rw [World.ownsRow.cellAt hrow (k * 64) (by omega)]
          exact ⟨_, List.getElem?_eq_getElem (by omega)⟩
        obtain ⟨x0, c0⟩ := c0
        have f0 := World.ownsRow.frozenAt hrow (k * 64)
        obtain ⟨w1, ew1⟩ : ∃ w1, w1 = wr.setCell ⟨g, k * 64, none⟩ (.int .i64 (KK : Int)) := ⟨_, rfl⟩
        have hrow1 := (World.ownsRow.stored hrow (k * 64) (.int .i64 (KK : Int))).1
        have g1 : wr.grownBy w1 (some g) := by rw [ew1]; exact gr_set (World.grownBy.refl _ _)
        rw [← ew1] at hrow1
        have ck : w1.cell? ⟨g, k * 64 + 1, none⟩ = some m.kv := by
          rw [World.ownsRow.cellAt hrow1 (k * 64 + 1) (by omega), List.getElem?_set_ne (by omega), hc 1 (by omega)]; rfl
        have hF1 := hf.grown g1 (fun b hb => by cases hb; exact HG.out)
        have rowK : ∀ {e : TypeId} {size n : Nat} {x : Value} {xs : List Value}, wr.ownsRow lo e size x n xs → (∀ b, x.ownBlock = some b → b ≠ g) → w1.ownsRow lo e size x n xs := fun hr hne => World.ownsRow.kept hr g1 (by
          rename_i x xs
          cases hx : x.ownBlock with
          | none => exact Or.inl rfl
          | some b => exact Or.inr fun e => hne b hx (by simpa using e))
        have hkr : KRow lo m.kv m.n.kids w1 := by
          obtain ⟨a, c, e, hr⟩ := hown.2.1
          by_cases h0 : m.n.kids = []
          · exact ⟨a, c, e, Or.inl h0⟩
          · exact ⟨a, c, e, Or.inr (rowK (hr.resolve_left h0) fun b hb e => hgne true b (by unfold ND.comp blk; rw [if_pos rfl, if_neg (by simpa using h0)]; exact hb) (by rw [e]; rfl))⟩
        have htr : TRow lo m.tv m.n.rl m.n.rules w1 := by
          obtain ⟨a, c, e, hr⟩ := hown.2.2
          by_cases h0 : m.n.rl = 0
          · exact ⟨a, c, e, Or.inl h0⟩
          · exact ⟨a, c, e, Or.inr (rowK (hr.resolve_left h0) fun b hb e => hgne false b (by unfold ND.comp blk; rw [if_neg (by decide), if_neg h0]; exact hb) (by rw [e]; rfl))⟩
        have EW1 := Lib.hid ew1
        have HKR := Lib.hid hkr
        have HTR := Lib.hid htr
        have HR1 := Lib.hid hrow1
        have G1 := Lib.hid g1
        have HO := Lib.hid ho
        have HGN := Lib.hid hgne
        have HF1 := Lib.hid hF1
        have HC := Lib.hid hc
        have HMB := Lib.hid hmb
        have HIN := Lib.hid (p := ∀ b, m.comp true = some b → m.comp false = some b → False) (fun b h1 h2 => absurd (ho.2.2 k k m m true false b hmi hmi h1 h2).2 (by decide))
        have HOWN := Lib.hid hown
        clear ew1 hkr htr hrow1 hrow g1 ho hgne hF1 hc rowK hmb hown hf hmem ems hnext hnx hszk hq1 hq2
        repeat refine wp_seq ?_
        refine rg_up (s := 12) (N := 598) nd_under 0 (by kernel_rfl) F (by decide) (by decide) hlt hnl hthere ?_
        intro a F
        rw [← EW1.out]
        refine then_n ?_
        repeat refine wp_seq ?_
        refine rg_inc (s := 17) (N := 598) F (by omega) (by omega) (by decide) (by decide) ?_
        intro a F
        refine then_n ?_
        repeat refine wp_seq ?_
        refine rg_kids (s := 19) (N := 598) (R := fun r w' => r = .int .i64 ((KK : Int) + 1 + (m.n.kids.length : Int)) ∧ KRow lo m.kv (mksI (KK + 1) m.n.kids.length) w' ∧ w1.grownBy w' (m.comp true)) (fun _ _ => by kernel_rfl) nd_under 0 (by kernel_rfl) F (by decide) (by decide) hlt hnl ck ?_ ?_
        · exact (markK lo (KK + 1) ((KK : Int) + 1) m.kv m.n.kids w1 hkl (by omega) (by omega) HKR.out).mono fun e w' ⟨he, h1, h2⟩ => ⟨_, he, rfl, h1, h2⟩
        intro a r w2 ⟨hr, hkr2, g2⟩ F
        subst hr
        -- the rest of the cells
        have hrow2 : w2.ownsRow lo 61 64 (.slice (some ⟨g, 0, none⟩) ms.length cap) ms.length ((cellsN ms).set (k * 64) (.int .i64 (KK : Int))) := World.ownsRow.kept HR1.out g2 (Or.inr fun e => HGN.out true g e.symm rfl)
        have htr2 : TRow lo m.tv m.n.rl m.n.rules w2 := by
          obtain ⟨a, c, e, hr⟩ := HTR.out
          by_cases h0 : m.n.rl = 0
          · exact ⟨a, c, e, Or.inl h0⟩
          · refine ⟨a, c, e, Or.inr (World.ownsRow.kept (hr.resolve_left h0) g2 ?_)⟩
            cases hx : m.tv.ownBlock with
            | none => exact Or.inl rfl
            | some b => exact Or.inr fun e => HIN.out b e.symm (by unfold ND.comp blk; rw [if_neg (by decide), if_neg h0]; exact hx)
        obtain ⟨B, eB⟩ : ∃ B : Nat, B = KK + 1 + m.n.kids.length := ⟨_, rfl⟩
        have hBi : ((KK : Int) + 1 + (m.n.kids.length : Int)) = ((B + 0 : Nat) : Int) := by omega
        have hBb : B ≤ 4100000000 := by omega
        have hP : MkP lo g cap ms0.length (k * 64 + 2) B ((cellsN ms).set (k * 64) (.int .i64 (KK : Int))) w2 0 w2 := ⟨by rw [← hml]; exact hrow2, World.grownBy.refl _ _⟩
        rw [hBi] at F
        refine then_n ?_
        repeat refine wp_seq ?_
        refine rg_i2 (s := 26) (N := 598) (j := 0) (d0 := 2) (d1 := 0) nd_under 59 (by kernel_rfl) sty_under 0 (by kernel_rfl) F (by decide) (by decide) hlt hnl hP (by omega) (by omega) (mkV_i B 0 (by decide)) ?_
        intro a u F hP
        refine then_n ?_
        repeat refine wp_seq ?_
        refine rg_inc (s := 32) (N := 598) F (by omega) (by omega) (by decide) (by decide) ?_
        intro a F
        rw [show ((B + 0 : Nat) : Int) + 1 = ((B + 1 : Nat) : Int) by omega] at F
        refine then_n ?_
        repeat refine wp_seq ?_
        refine rg_i2 (s := 34) (N := 598) (j := 1) (d0 := 2) (d1 := 1) nd_under 59 (by kernel_rfl) sty_under 0 (by kernel_rfl) F (by decide) (by decide) hlt hnl hP (by omega) (by omega) (mkV_i B 1 (by decide)) ?_
        intro a u F hP
        refine then_n ?_
        repeat refine wp_seq ?_
        refine rg_inc (s := 40) (N := 598) F (by omega) (by omega) (by decide) (by decide) ?_
        intro a F
        rw [show ((B + 1 : Nat) : Int) + 1 = ((B + 2 : Nat) : Int) by omega] at F
        refine then_n ?_
        repeat refine wp_seq ?_
        refine rg_i2 (s := 42) (N := 598) (j := 2) (d0 := 2) (d1 := 2) nd_under 59 (by kernel_rfl) sty_under 0 (by kernel_rfl) F (by decide) (by decide) hlt hnl hP (by omega) (by omega) (mkV_i B 2 (by decide)) ?_
        intro a u F hP
        refine then_n ?_
        repeat refine wp_seq ?_
        refine rg_inc (s := 48) (N := 598) F (by omega) (by omega) (by decide) (by decide) ?_
        intro a F
        rw [show ((B + 2 : Nat) : Int) + 1 = ((B + 3 : Nat) : Int) by omega] at F
        refine then_n ?_
        repeat refine wp_seq ?_
        refine rg_i2 (s := 50) (N := 598) (j := 3) (d0 := 2) (d1 := 3) nd_under 59 (by kernel_rfl) sty_under 0 (by kernel_rfl) F (by decide) (by decide) hlt hnl hP (by omega) (by omega) (mkV_i B 3 (by decide)) ?_
        intro a u F hP
        refine then_n ?_
        repeat refine wp_seq ?_
        refine rg_inc (s := 56) (N := 598) F (by omega) (by omega) (by decide) (by decide) ?_
        intro a F
        rw [show ((B + 3 : Nat) : Int) + 1 = ((B + 4 : Nat) : Int) by omega] at F
        refine then_n ?_
        repeat refine wp_seq ?_
        refine rg_i2 (s := 58) (N := 598) (j := 4) (d0 := 2) (d1 := 4) nd_under 59 (by kernel_rfl) sty_under 0 (by kernel_rfl) F (by decide) (by decide) hlt hnl hP (by omega) (by omega) (mkV_i B 4 (by decide)) ?_
        intro a u F hP
        refine then_n ?_
        repeat refine wp_seq ?_
        refine rg_inc (s := 64) (N := 598) F (by omega) (by omega) (by decide) (by decide) ?_
        intro a F
        rw [show ((B + 4 : Nat) : Int) + 1 = ((B + 5 : Nat) : Int) by omega] at F
        refine then_n ?_
        repeat refine wp_seq ?_
        refine rg_i2 (s := 66) (N := 598) (j := 5) (d0 := 2) (d1 := 5) nd_under 59 (by kernel_rfl) sty_under 0 (by kernel_rfl) F (by decide) (by decide) hlt hnl hP (by omega) (by omega) (mkV_i B 5 (by decide)) ?_
        intro a u F hP
        refine then_n ?_
        repeat refine wp_seq ?_
        refine rg_inc (s := 72) (N := 598) F (by omega) (by omega) (by decide) (by decide) ?_
        intro a F
        rw [show ((B + 5 : Nat) : Int) + 1 = ((B + 6 : Nat) : Int) by omega] at F
        refine then_n ?_
        repeat refine wp_seq ?_
        refine rg_b2 (s := 74) (N := 598) (j := 6) (d0 := 2) (d1 := 6) nd_under 59 (by kernel_rfl) sty_under 0 (by kernel_rfl) F (by omega) (by omega) (by decide) (by decide) hlt hnl hP (by omega) (by omega) (mkV_b B 6 (by decide)) ?_
        intro a u F hP
        refine then_n ?_
        repeat refine wp_seq ?_
        refine rg_inc (s := 82) (N := 598) F (by omega) (by omega) (by decide) (by decide) ?_
        intro a F
        rw [show ((B + 6 : Nat) : Int) + 1 = ((B + 7 : Nat) : Int) by omega] at F
        refine then_n ?_
        repeat refine wp_seq ?_
        refine rg_b2 (s := 84) (N := 598) (j := 7) (d0 := 2) (d1 := 7) nd_under 59 (by kernel_rfl) sty_under 0 (by kernel_rfl) F (by omega) (by omega) (by decide) (by decide) hlt hnl hP (by omega) (by omega) (mkV_b B 7 (by decide)) ?_
        intro a u F hP
        refine then_n ?_
        repeat refine wp_seq ?_
        refine rg_inc (s := 92) (N := 598) F (by omega) (by omega) (by decide) (by decide) ?_
        intro a F
        rw [show ((B + 7 : Nat) : Int) + 1 = ((B + 8 : Nat) : Int) by omega] at F
        refine then_n ?_
        repeat refine wp_seq ?_
        refine rg_i2 (s := 94) (N := 598) (j := 8) (d0 := 2) (d1 := 8) nd_under 59 (by kernel_rfl) sty_under 0 (by kernel_rfl) F (by decide) (by decide) hlt hnl hP (by omega) (by omega) (mkV_i B 8 (by decide)) ?_
        intro a u F hP
        refine then_n ?_
        repeat refine wp_seq ?_
        refine rg_inc (s := 100) (N := 598) F (by omega) (by omega) (by decide) (by decide) ?_
        intro a F
        rw [show ((B + 8 : Nat) : Int) + 1 = ((B + 9 : Nat) : Int) by omega] at F
        refine then_n ?_
        repeat refine wp_seq ?_
        refine rg_i2 (s := 102) (N := 598) (j := 9) (d0 := 2) (d1 := 9) nd_under 59 (by kernel_rfl) sty_under 0 (by kernel_rfl) F (by decide) (by decide) hlt hnl hP (by omega) (by omega) (mkV_i B 9 (by decide)) ?_
        intro a u F hP
        refine then_n ?_
        repeat refine wp_seq ?_
        refine rg_inc (s := 108) (N := 598) F (by omega) (by omega) (by decide) (by decide) ?_
        intro a F
        rw [show ((B + 9 : Nat) : Int) + 1 = ((B + 10 : Nat) : Int) by omega] at F
        refine then_n ?_
        repeat refine wp_seq ?_
        refine rg_i2 (s := 110) (N := 598) (j := 10) (d0 := 2) (d1 := 10) nd_under 59 (by kernel_rfl) sty_under 0 (by kernel_rfl) F (by decide) (by decide) hlt hnl hP (by omega) (by omega) (mkV_i B 10 (by decide)) ?_
        intro a u F hP
        refine then_n ?_
        repeat refine wp_seq ?_
        refine rg_inc (s := 116) (N := 598) F (by omega) (by omega) (by decide) (by decide) ?_
        intro a F
        rw [show ((B + 10 : Nat) : Int) + 1 = ((B + 11 : Nat) : Int) by omega] at F
        refine then_n ?_
        repeat refine wp_seq ?_
        refine rg_i3 (s := 118) (N := 598) (j := 11) (d0 := 2) (d1 := 11) (d2 := 0) nd_under 59 (by kernel_rfl) sty_under 1 (by kernel_rfl) HU35 0 (by kernel_rfl) F (by decide) (by decide) hlt hnl hP (by omega) (by omega) (mkV_i B 11 (by decide)) ?_
        intro a u F hP
        refine then_n ?_
        repeat refine wp_seq ?_
        refine rg_inc (s := 125) (N := 598) F (by omega) (by omega) (by decide) (by decide) ?_
        intro a F
        rw [show ((B + 11 : Nat) : Int) + 1 = ((B + 12 : Nat) : Int) by omega] at F
        refine then_n ?_
        repeat refine wp_seq ?_
        refine rg_i3 (s := 127) (N := 598) (j := 12) (d0 := 2) (d1 := 11) (d2 := 1) nd_under 59 (by kernel_rfl) sty_under 1 (by kernel_rfl) HU35 0 (by kernel_rfl) F (by decide) (by decide) hlt hnl hP (by omega) (by omega) (mkV_i B 12 (by decide)) ?_
        intro a u F hP
        refine then_n ?_
        repeat refine wp_seq ?_
        refine rg_inc (s := 134) (N := 598) F (by omega) (by omega) (by decide) (by decide) ?_
        intro a F
        rw [show ((B + 12 : Nat) : Int) + 1 = ((B + 13 : Nat) : Int) by omega] at F
        refine then_n ?_
        repeat refine wp_seq ?_
        refine rg_i3 (s := 136) (N := 598) (j := 13) (d0 := 2) (d1 := 13) (d2 := 0) nd_under 59 (by kernel_rfl) sty_under 1 (by kernel_rfl) HU35 0 (by kernel_rfl) F (by decide) (by decide) hlt hnl hP (by omega) (by omega) (mkV_i B 13 (by decide)) ?_
        intro a u F hP
        refine then_n ?_
        repeat refine wp_seq ?_
        refine rg_inc (s := 143) (N := 598) F (by omega) (by omega) (by decide) (by decide) ?_
        intro a F
        rw [show ((B + 13 : Nat) : Int) + 1 = ((B + 14 : Nat) : Int) by omega] at F
        refine then_n ?_
        repeat refine wp_seq ?_
        refine rg_i3 (s := 145) (N := 598) (j := 14) (d0 := 2) (d1 := 13) (d2 := 1) nd_under 59 (by kernel_rfl) sty_under 1 (by kernel_rfl) HU35 0 (by kernel_rfl) F (by decide) (by decide) hlt hnl hP (by omega) (by omega) (mkV_i B 14 (by decide)) ?_
        intro a u F hP
        refine then_n ?_
        repeat refine wp_seq ?_
        refine rg_inc (s := 152) (N := 598) F (by omega) (by omega) (by decide) (by decide) ?_
        intro a F
        rw [show ((B + 14 : Nat) : Int) + 1 = ((B + 15 : Nat) : Int) by omega] at F
        refine then_n ?_
        repeat refine wp_seq ?_
        refine rg_i3 (s := 154) (N := 598) (j := 15) (d0 := 2) (d1 := 15) (d2 := 0) nd_under 59 (by kernel_rfl) sty_under 1 (by kernel_rfl) HU35 0 (by kernel_rfl) F (by decide) (by decide) hlt hnl hP (by omega) (by omega) (mkV_i B 15 (by decide)) ?_
        intro a u F hP
        refine then_n ?_
        repeat refine wp_seq ?_
        refine rg_inc (s := 161) (N := 598) F (by omega) (by omega) (by decide) (by decide) ?_
        intro a F
        rw [show ((B + 15 : Nat) : Int) + 1 = ((B + 16 : Nat) : Int) by omega] at F
        refine then_n ?_
        repeat refine wp_seq ?_
        refine rg_i3 (s := 163) (N := 598) (j := 16) (d0 := 2) (d1 := 15) (d2 := 1) nd_under 59 (by kernel_rfl) sty_under 1 (by kernel_rfl) HU35 0 (by kernel_rfl) F (by decide) (by decide) hlt hnl hP (by omega) (by omega) (mkV_i B 16 (by decide)) ?_
        intro a u F hP
        refine then_n ?_
        repeat refine wp_seq ?_
        refine rg_inc (s := 170) (N := 598) F (by omega) (by omega) (by decide) (by decide) ?_
        intro a F
        rw [show ((B + 16 : Nat) : Int) + 1 = ((B + 17 : Nat) : Int) by omega] at F
        refine then_n ?_
        repeat refine wp_seq ?_
        refine rg_i3 (s := 172) (N := 598) (j := 17) (d0 := 2) (d1 := 17) (d2 := 0) nd_under 59 (by kernel_rfl) sty_under 1 (by kernel_rfl) HU35 0 (by kernel_rfl) F (by decide) (by decide) hlt hnl hP (by omega) (by omega) (mkV_i B 17 (by decide)) ?_
        intro a u F hP
        refine then_n ?_
        repeat refine wp_seq ?_
        refine rg_inc (s := 179) (N := 598) F (by omega) (by omega) (by decide) (by decide) ?_
        intro a F
        rw [show ((B + 17 : Nat) : Int) + 1 = ((B + 18 : Nat) : Int) by omega] at F
        refine then_n ?_
        repeat refine wp_seq ?_
        refine rg_i3 (s := 181) (N := 598) (j := 18) (d0 := 2) (d1 := 17) (d2 := 1) nd_under 59 (by kernel_rfl) sty_under 1 (by kernel_rfl) HU35 0 (by kernel_rfl) F (by decide) (by decide) hlt hnl hP (by omega) (by omega) (mkV_i B 18 (by decide)) ?_
        intro a u F hP
        refine then_n ?_
        repeat refine wp_seq ?_
        refine rg_inc (s := 188) (N := 598) F (by omega) (by omega) (by decide) (by decide) ?_
        intro a F
        rw [show ((B + 18 : Nat) : Int) + 1 = ((B + 19 : Nat) : Int) by omega] at F
        refine then_n ?_
        repeat refine wp_seq ?_
        refine rg_i3 (s := 190) (N := 598) (j := 19) (d0 := 2) (d1 := 19) (d2 := 0) nd_under 59 (by kernel_rfl) sty_under 1 (by kernel_rfl) HU35 0 (by kernel_rfl) F (by decide) (by decide) hlt hnl hP (by omega) (by omega) (mkV_i B 19 (by decide)) ?_
        intro a u F hP
        refine then_n ?_
        repeat refine wp_seq ?_
        refine rg_inc (s := 197) (N := 598) F (by omega) (by omega) (by decide) (by decide) ?_
        intro a F
        rw [show ((B + 19 : Nat) : Int) + 1 = ((B + 20 : Nat) : Int) by omega] at F
        refine then_n ?_
        repeat refine wp_seq ?_
        refine rg_i3 (s := 199) (N := 598) (j := 20) (d0 := 2) (d1 := 19) (d2 := 1) nd_under 59 (by kernel_rfl) sty_under 1 (by kernel_rfl) HU35 0 (by kernel_rfl) F (by decide) (by decide) hlt hnl hP (by omega) (by omega) (mkV_i B 20 (by decide)) ?_
        intro a u F hP
        refine then_n ?_
        repeat refine wp_seq ?_
        refine rg_inc (s := 206) (N := 598) F (by omega) (by omega) (by decide) (by decide) ?_
        intro a F
        rw [show ((B + 20 : Nat) : Int) + 1 = ((B + 21 : Nat) : Int) by omega] at F
        refine then_n ?_
        repeat refine wp_seq ?_
        refine rg_i3 (s := 208) (N := 598) (j := 21) (d0 := 2) (d1 := 21) (d2 := 0) nd_under 59 (by kernel_rfl) sty_under 1 (by kernel_rfl) HU35 0 (by kernel_rfl) F (by decide) (by decide) hlt hnl hP (by omega) (by omega) (mkV_i B 21 (by decide)) ?_
        intro a u F hP
        refine then_n ?_
        repeat refine wp_seq ?_
        refine rg_inc (s := 215) (N := 598) F (by omega) (by omega) (by decide) (by decide) ?_
        intro a F
        rw [show ((B + 21 : Nat) : Int) + 1 = ((B + 22 : Nat) : Int) by omega] at F
        refine then_n ?_
        repeat refine wp_seq ?_
        refine rg_i3 (s := 217) (N := 598) (j := 22) (d0 := 2) (d1 := 21) (d2 := 1) nd_under 59 (by kernel_rfl) sty_under 1 (by kernel_rfl) HU35 0 (by kernel_rfl) F (by decide) (by decide) hlt hnl hP (by omega) (by omega) (mkV_i B 22 (by decide)) ?_
        intro a u F hP
        refine then_n ?_
        repeat refine wp_seq ?_
        refine rg_inc (s := 224) (N := 598) F (by omega) (by omega) (by decide) (by decide) ?_
        intro a F
        rw [show ((B + 22 : Nat) : Int) + 1 = ((B + 23 : Nat) : Int) by omega] at F
        refine then_n ?_
        repeat refine wp_seq ?_
        refine rg_i3 (s := 226) (N := 598) (j := 23) (d0 := 2) (d1 := 23) (d2 := 0) nd_under 59 (by kernel_rfl) sty_under 1 (by kernel_rfl) HU35 0 (by kernel_rfl) F (by decide) (by decide) hlt hnl hP (by omega) (by omega) (mkV_i B 23 (by decide)) ?_
        intro a u F hP
        refine then_n ?_
        repeat refine wp_seq ?_
        refine rg_inc (s := 233) (N := 598) F (by omega) (by omega) (by decide) (by decide) ?_
        intro a F
        rw [show ((B + 23 : Nat) : Int) + 1 = ((B + 24 : Nat) : Int) by omega] at F
        refine then_n ?_
        repeat refine wp_seq ?_
        refine rg_i3 (s := 235) (N := 598) (j := 24) (d0 := 2) (d1 := 23) (d2 := 1) nd_under 59 (by kernel_rfl) sty_under 1 (by kernel_rfl) HU35 0 (by kernel_rfl) F (by decide) (by decide) hlt hnl hP (by omega) (by omega) (mkV_i B 24 (by decide)) ?_
        intro a u F hP
        refine then_n ?_
        repeat refine wp_seq ?_
        refine rg_inc (s := 242) (N := 598) F (by omega) (by omega) (by decide) (by decide) ?_
        intro a F
        rw [show ((B + 24 : Nat) : Int) + 1 = ((B + 25 : Nat) : Int) by omega] at F
        refine then_n ?_
        repeat refine wp_seq ?_
        refine rg_i2 (s := 244) (N := 598) (j := 25) (d0 := 2) (d1 := 25) nd_under 59 (by kernel_rfl) sty_under 0 (by kernel_rfl) F (by decide) (by decide) hlt hnl hP (by omega) (by omega) (mkV_i B 25 (by decide)) ?_
        intro a u F hP
        refine then_n ?_
        repeat refine wp_seq ?_
        refine rg_inc (s := 250) (N := 598) F (by omega) (by omega) (by decide) (by decide) ?_
        intro a F
        rw [show ((B + 25 : Nat) : Int) + 1 = ((B + 26 : Nat) : Int) by omega] at F
        refine then_n ?_
        repeat refine wp_seq ?_
        refine rg_i4 (s := 252) (N := 598) (j := 26) (d0 := 2) (d1 := 26) (d2 := 0) (d3 := 0) nd_under 59 (by kernel_rfl) sty_under 11 (by kernel_rfl) HU37 1 (by kernel_rfl) HU35 0 (by kernel_rfl) F (by decide) (by decide) hlt hnl hP (by omega) (by omega) (mkV_i B 26 (by decide)) ?_
        intro a u F hP
        refine then_n ?_
        repeat refine wp_seq ?_
        refine rg_inc (s := 260) (N := 598) F (by omega) (by omega) (by decide) (by decide) ?_
        intro a F
        rw [show ((B + 26 : Nat) : Int) + 1 = ((B + 27 : Nat) : Int) by omega] at F
        refine then_n ?_
        repeat refine wp_seq ?_
        refine rg_i4 (s := 262) (N := 598) (j := 27) (d0 := 2) (d1 := 26) (d2 := 0) (d3 := 1) nd_under 59 (by kernel_rfl) sty_under 11 (by kernel_rfl) HU37 1 (by kernel_rfl) HU35 0 (by kernel_rfl) F (by decide) (by decide) hlt hnl hP (by omega) (by omega) (mkV_i B 27 (by decide)) ?_
        intro a u F hP
        refine then_n ?_
        repeat refine wp_seq ?_
        refine rg_inc (s := 270) (N := 598) F (by omega) (by omega) (by decide) (by decide) ?_
        intro a F
        rw [show ((B + 27 : Nat) : Int) + 1 = ((B + 28 : Nat) : Int) by omega] at F
        refine then_n ?_
        repeat refine wp_seq ?_
        refine rg_i4 (s := 272) (N := 598) (j := 28) (d0 := 2) (d1 := 26) (d2 := 2) (d3 := 0) nd_under 59 (by kernel_rfl) sty_under 11 (by kernel_rfl) HU37 1 (by kernel_rfl) HU35 0 (by kernel_rfl) F (by decide) (by decide) hlt hnl hP (by omega) (by omega) (mkV_i B 28 (by decide)) ?_
        intro a u F hP
        refine then_n ?_
        repeat refine wp_seq ?_
        refine rg_inc (s := 280) (N := 598) F (by omega) (by omega) (by decide) (by decide) ?_
        intro a F
        rw [show ((B + 28 : Nat) : Int) + 1 = ((B + 29 : Nat) : Int) by omega] at F
        refine then_n ?_
        repeat refine wp_seq ?_
        refine rg_i4 (s := 282) (N := 598) (j := 29) (d0 := 2) (d1 := 26) (d2 := 2) (d3 := 1) nd_under 59 (by kernel_rfl) sty_under 11 (by kernel_rfl) HU37 1 (by kernel_rfl) HU35 0 (by kernel_rfl) F (by decide) (by decide) hlt hnl hP (by omega) (by omega) (mkV_i B 29 (by decide)) ?_
        intro a u F hP
        refine then_n ?_
        repeat refine wp_seq ?_
        refine rg_inc (s := 290) (N := 598) F (by omega) (by omega) (by decide) (by decide) ?_
        intro a F
        rw [show ((B + 29 : Nat) : Int) + 1 = ((B + 30 : Nat) : Int) by omega] at F
        refine then_n ?_
        repeat refine wp_seq ?_
        refine rg_i4 (s := 292) (N := 598) (j := 30) (d0 := 2) (d1 := 26) (d2 := 4) (d3 := 0) nd_under 59 (by kernel_rfl) sty_under 11 (by kernel_rfl) HU37 1 (by kernel_rfl) HU35 0 (by kernel_rfl) F (by decide) (by decide) hlt hnl hP (by omega) (by omega) (mkV_i B 30 (by decide)) ?_
        intro a u F hP
        refine then_n ?_
        repeat refine wp_seq ?_
        refine rg_inc (s := 300) (N := 598) F (by omega) (by omega) (by decide) (by decide) ?_
        intro a F
        rw [show ((B + 30 : Nat) : Int) + 1 = ((B + 31 : Nat) : Int) by omega] at F
        refine then_n ?_
        repeat refine wp_seq ?_
        refine rg_i4 (s := 302) (N := 598) (j := 31) (d0 := 2) (d1 := 26) (d2 := 4) (d3 := 1) nd_under 59 (by kernel_rfl) sty_under 11 (by kernel_rfl) HU37 1 (by kernel_rfl) HU35 0 (by kernel_rfl) F (by decide) (by decide) hlt hnl hP (by omega) (by omega) (mkV_i B 31 (by decide)) ?_
        intro a u F hP
        refine then_n ?_
        repeat refine wp_seq ?_
        refine rg_inc (s := 310) (N := 598) F (by omega) (by omega) (by decide) (by decide) ?_
        intro a F
        rw [show ((B + 31 : Nat) : Int) + 1 = ((B + 32 : Nat) : Int) by omega] at F
        refine then_n ?_
        repeat refine wp_seq ?_
        refine rg_i4 (s := 312) (N := 598) (j := 32) (d0 := 2) (d1 := 26) (d2 := 6) (d3 := 0) nd_under 59 (by kernel_rfl) sty_under 11 (by kernel_rfl) HU37 1 (by kernel_rfl) HU35 0 (by kernel_rfl) F (by decide) (by decide) hlt hnl hP (by omega) (by omega) (mkV_i B 32 (by decide)) ?_
        intro a u F hP
        refine then_n ?_
        repeat refine wp_seq ?_
        refine rg_inc (s := 320) (N := 598) F (by omega) (by omega) (by decide) (by decide) ?_
        intro a F
        rw [show ((B + 32 : Nat) : Int) + 1 = ((B + 33 : Nat) : Int) by omega] at F
        refine then_n ?_
        repeat refine wp_seq ?_
        refine rg_i4 (s := 322) (N := 598) (j := 33) (d0 := 2) (d1 := 26) (d2 := 6) (d3 := 1) nd_under 59 (by kernel_rfl) sty_under 11 (by kernel_rfl) HU37 1 (by kernel_rfl) HU35 0 (by kernel_rfl) F (by decide) (by decide) hlt hnl hP (by omega) (by omega) (mkV_i B 33 (by decide)) ?_
        intro a u F hP
        refine then_n ?_
        repeat refine wp_seq ?_
        refine rg_inc (s := 330) (N := 598) F (by omega) (by omega) (by decide) (by decide) ?_
        intro a F
        rw [show ((B + 33 : Nat) : Int) + 1 = ((B + 34 : Nat) : Int) by omega] at F
        refine then_n ?_
        repeat refine wp_seq ?_
        refine rg_i4 (s := 332) (N := 598) (j := 34) (d0 := 2) (d1 := 26) (d2 := 8) (d3 := 0) nd_under 59 (by kernel_rfl) sty_under 11 (by kernel_rfl) HU37 1 (by kernel_rfl) HU35 0 (by kernel_rfl) F (by decide) (by decide) hlt hnl hP (by omega) (by omega) (mkV_i B 34 (by decide)) ?_
        intro a u F hP
        refine then_n ?_
        repeat refine wp_seq ?_
        refine rg_inc (s := 340) (N := 598) F (by omega) (by omega) (by decide) (by decide) ?_
        intro a F
        rw [show ((B + 34 : Nat) : Int) + 1 = ((B + 35 : Nat) : Int) by omega] at F
        refine then_n ?_
        repeat refine wp_seq ?_
        refine rg_i4 (s := 342) (N := 598) (j := 35) (d0 := 2) (d1 := 26) (d2 := 8) (d3 := 1) nd_under 59 (by kernel_rfl) sty_under 11 (by kernel_rfl) HU37 1 (by kernel_rfl) HU35 0 (by kernel_rfl) F (by decide) (by decide) hlt hnl hP (by omega) (by omega) (mkV_i B 35 (by decide)) ?_
        intro a u F hP
        refine then_n ?_
        repeat refine wp_seq ?_
        refine rg_inc (s := 350) (N := 598) F (by omega) (by omega) (by decide) (by decide) ?_
        intro a F
        rw [show ((B + 35 : Nat) : Int) + 1 = ((B + 36 : Nat) : Int) by omega] at F
        refine then_n ?_
        repeat refine wp_seq ?_
        refine rg_i4 (s := 352) (N := 598) (j := 36) (d0 := 2) (d1 := 26) (d2 := 10) (d3 := 0) nd_under 59 (by kernel_rfl) sty_under 11 (by kernel_rfl) HU37 1 (by kernel_rfl) HU35 0 (by kernel_rfl) F (by decide) (by decide) hlt hnl hP (by omega) (by omega) (mkV_i B 36 (by decide)) ?_
        intro a u F hP
        refine then_n ?_
        repeat refine wp_seq ?_
        refine rg_inc (s := 360) (N := 598) F (by omega) (by omega) (by decide) (by decide) ?_
        intro a F
        rw [show ((B + 36 : Nat) : Int) + 1 = ((B + 37 : Nat) : Int) by omega] at F
        refine then_n ?_
        repeat refine wp_seq ?_
        refine rg_i4 (s := 362) (N := 598) (j := 37) (d0 := 2) (d1 := 26) (d2 := 10) (d3 := 1) nd_under 59 (by kernel_rfl) sty_under 11 (by kernel_rfl) HU37 1 (by kernel_rfl) HU35 0 (by kernel_rfl) F (by decide) (by decide) hlt hnl hP (by omega) (by omega) (mkV_i B 37 (by decide)) ?_
        intro a u F hP
        refine then_n ?_
        repeat refine wp_seq ?_
        refine rg_inc (s := 370) (N := 598) F (by omega) (by omega) (by decide) (by decide) ?_
        intro a F
        rw [show ((B + 37 : Nat) : Int) + 1 = ((B + 38 : Nat) : Int) by omega] at F
        refine then_n ?_
        repeat refine wp_seq ?_
        refine rg_i4 (s := 372) (N := 598) (j := 38) (d0 := 2) (d1 := 38) (d2 := 0) (d3 := 0) nd_under 59 (by kernel_rfl) sty_under 11 (by kernel_rfl) HU37 1 (by kernel_rfl) HU35 0 (by kernel_rfl) F (by decide) (by decide) hlt hnl hP (by omega) (by omega) (mkV_i B 38 (by decide)) ?_
        intro a u F hP
        refine then_n ?_
        repeat refine wp_seq ?_
        refine rg_inc (s := 380) (N := 598) F (by omega) (by omega) (by decide) (by decide) ?_
        intro a F
        rw [show ((B + 38 : Nat) : Int) + 1 = ((B + 39 : Nat) : Int) by omega] at F
        refine then_n ?_
        repeat refine wp_seq ?_
        refine rg_i4 (s := 382) (N := 598) (j := 39) (d0 := 2) (d1 := 38) (d2 := 0) (d3 := 1) nd_under 59 (by kernel_rfl) sty_under 11 (by kernel_rfl) HU37 1 (by kernel_rfl) HU35 0 (by kernel_rfl) F (by decide) (by decide) hlt hnl hP (by omega) (by omega) (mkV_i B 39 (by decide)) ?_
        intro a u F hP
        refine then_n ?_
        repeat refine wp_seq ?_
        refine rg_inc (s := 390) (N := 598) F (by omega) (by omega) (by decide) (by decide) ?_
        intro a F
        rw [show ((B + 39 : Nat) : Int) + 1 = ((B + 40 : Nat) : Int) by omega] at F
        refine then_n ?_
        repeat refine wp_seq ?_
        refine rg_i4 (s := 392) (N := 598) (j := 40) (d0 := 2) (d1 := 38) (d2 := 2) (d3 := 0) nd_under 59 (by kernel_rfl) sty_under 11 (by kernel_rfl) HU37 1 (by kernel_rfl) HU35 0 (by kernel_rfl) F (by decide) (by decide) hlt hnl hP (by omega) (by omega) (mkV_i B 40 (by decide)) ?_
        intro a u F hP
        refine then_n ?_
        repeat refine wp_seq ?_
        refine rg_inc (s := 400) (N := 598) F (by omega) (by omega) (by decide) (by decide) ?_
        intro a F
        rw [show ((B + 40 : Nat) : Int) + 1 = ((B + 41 : Nat) : Int) by omega] at F
        refine then_n ?_
        repeat refine wp_seq ?_
        refine rg_i4 (s := 402) (N := 598) (j := 41) (d0 := 2) (d1 := 38) (d2 := 2) (d3 := 1) nd_under 59 (by kernel_rfl) sty_under 11 (by kernel_rfl) HU37 1 (by kernel_rfl) HU35 0 (by kernel_rfl) F (by decide) (by decide) hlt hnl hP (by omega) (by omega) (mkV_i B 41 (by decide)) ?_
        intro a u F hP
        refine then_n ?_
        repeat refine wp_seq ?_
        refine rg_inc (s := 410) (N := 598) F (by omega) (by omega) (by decide) (by decide) ?_
        intro a F
        rw [show ((B + 41 : Nat) : Int) + 1 = ((B + 42 : Nat) : Int) by omega] at F
        refine then_n ?_
        repeat refine wp_seq ?_
        refine rg_i4 (s := 412) (N := 598) (j := 42) (d0 := 2) (d1 := 38) (d2 := 4) (d3 := 0) nd_under 59 (by kernel_rfl) sty_under 11 (by kernel_rfl) HU37 1 (by kernel_rfl) HU35 0 (by kernel_rfl) F (by decide) (by decide) hlt hnl hP (by omega) (by omega) (mkV_i B 42 (by decide)) ?_
        intro a u F hP
        refine then_n ?_
        repeat refine wp_seq ?_
        refine rg_inc (s := 420) (N := 598) F (by omega) (by omega) (by decide) (by decide) ?_
        intro a F
        rw [show ((B + 42 : Nat) : Int) + 1 = ((B + 43 : Nat) : Int) by omega] at F
        refine then_n ?_
        repeat refine wp_seq ?_
        refine rg_i4 (s := 422) (N := 598) (j := 43) (d0 := 2) (d1 := 38) (d2 := 4) (d3 := 1) nd_under 59 (by kernel_rfl) sty_under 11 (by kernel_rfl) HU37 1 (by kernel_rfl) HU35 0 (by kernel_rfl) F (by decide) (by decide) hlt hnl hP (by omega) (by omega) (mkV_i B 43 (by decide)) ?_
        intro a u F hP
        refine then_n ?_
        repeat refine wp_seq ?_
        refine rg_inc (s := 430) (N := 598) F (by omega) (by omega) (by decide) (by decide) ?_
        intro a F
        rw [show ((B + 43 : Nat) : Int) + 1 = ((B + 44 : Nat) : Int) by omega] at F
        refine then_n ?_
        repeat refine wp_seq ?_
        refine rg_i4 (s := 432) (N := 598) (j := 44) (d0 := 2) (d1 := 38) (d2 := 6) (d3 := 0) nd_under 59 (by kernel_rfl) sty_under 11 (by kernel_rfl) HU37 1 (by kernel_rfl) HU35 0 (by kernel_rfl) F (by decide) (by decide) hlt hnl hP (by omega) (by omega) (mkV_i B 44 (by decide)) ?_
        intro a u F hP
        refine then_n ?_
        repeat refine wp_seq ?_
        refine rg_inc (s := 440) (N := 598) F (by omega) (by omega) (by decide) (by decide) ?_
        intro a F
        rw [show ((B + 44 : Nat) : Int) + 1 = ((B + 45 : Nat) : Int) by omega] at F
        refine then_n ?_
        repeat refine wp_seq ?_
        refine rg_i4 (s := 442) (N := 598) (j := 45) (d0 := 2) (d1 := 38) (d2 := 6) (d3 := 1) nd_under 59 (by kernel_rfl) sty_under 11 (by kernel_rfl) HU37 1 (by kernel_rfl) HU35 0 (by kernel_rfl) F (by decide) (by decide) hlt hnl hP (by omega) (by omega) (mkV_i B 45 (by decide)) ?_
        intro a u F hP
        refine then_n ?_
        repeat refine wp_seq ?_
        refine rg_inc (s := 450) (N := 598) F (by omega) (by omega) (by decide) (by decide) ?_
        intro a F
        rw [show ((B + 45 : Nat) : Int) + 1 = ((B + 46 : Nat) : Int) by omega] at F
        refine then_n ?_
        repeat refine wp_seq ?_
        refine rg_i4 (s := 452) (N := 598) (j := 46) (d0 := 2) (d1 := 38) (d2 := 8) (d3 := 0) nd_under 59 (by kernel_rfl) sty_under 11 (by kernel_rfl) HU37 1 (by kernel_rfl) HU35 0 (by kernel_rfl) F (by decide) (by decide) hlt hnl hP (by omega) (by omega) (mkV_i B 46 (by decide)) ?_
        intro a u F hP
        refine then_n ?_
        repeat refine wp_seq ?_
        refine rg_inc (s := 460) (N := 598) F (by omega) (by omega) (by decide) (by decide) ?_
        intro a F
        rw [show ((B + 46 : Nat) : Int) + 1 = ((B + 47 : Nat) : Int) by omega] at F
        refine then_n ?_
        repeat refine wp_seq ?_
        refine rg_i4 (s := 462) (N := 598) (j := 47) (d0 := 2) (d1 := 38) (d2 := 8) (d3 := 1) nd_under 59 (by kernel_rfl) sty_under 11 (by kernel_rfl) HU37 1 (by kernel_rfl) HU35 0 (by kernel_rfl) F (by decide) (by decide) hlt hnl hP (by omega) (by omega) (mkV_i B 47 (by decide)) ?_
        intro a u F hP
        refine then_n ?_
        repeat refine wp_seq ?_
        refine rg_inc (s := 470) (N := 598) F (by omega) (by omega) (by decide) (by decide) ?_
        intro a F
        rw [show ((B + 47 : Nat) : Int) + 1 = ((B + 48 : Nat) : Int) by omega] at F
        refine then_n ?_
        repeat refine wp_seq ?_
        refine rg_i4 (s := 472) (N := 598) (j := 48) (d0 := 2) (d1 := 38) (d2 := 10) (d3 := 0) nd_under 59 (by kernel_rfl) sty_under 11 (by kernel_rfl) HU37 1 (by kernel_rfl) HU35 0 (by kernel_rfl) F (by decide) (by decide) hlt hnl hP (by omega) (by omega) (mkV_i B 48 (by decide)) ?_
        intro a u F hP
        refine then_n ?_
        repeat refine wp_seq ?_
        refine rg_inc (s := 480) (N := 598) F (by omega) (by omega) (by decide) (by decide) ?_
        intro a F
        rw [show ((B + 48 : Nat) : Int) + 1 = ((B + 49 : Nat) : Int) by omega] at F
        refine then_n ?_
        repeat refine wp_seq ?_
        refine rg_i4 (s := 482) (N := 598) (j := 49) (d0 := 2) (d1 := 38) (d2 := 10) (d3 := 1) nd_under 59 (by kernel_rfl) sty_under 11 (by kernel_rfl) HU37 1 (by kernel_rfl) HU35 0 (by kernel_rfl) F (by decide) (by decide) hlt hnl hP (by omega) (by omega) (mkV_i B 49 (by decide)) ?_
        intro a u F hP
        refine then_n ?_
        repeat refine wp_seq ?_
        refine rg_inc (s := 490) (N := 598) F (by omega) (by omega) (by decide) (by decide) ?_
        intro a F
        rw [show ((B + 49 : Nat) : Int) + 1 = ((B + 50 : Nat) : Int) by omega] at F
        refine then_n ?_
        repeat refine wp_seq ?_
        refine rg_i3 (s := 492) (N := 598) (j := 50) (d0 := 2) (d1 := 50) (d2 := 0) nd_under 59 (by kernel_rfl) sty_under 3 (by kernel_rfl) HU39 0 (by kernel_rfl) F (by decide) (by decide) hlt hnl hP (by omega) (by omega) (mkV_i B 50 (by decide)) ?_
        intro a u F hP
        refine then_n ?_
        repeat refine wp_seq ?_
        refine rg_inc (s := 499) (N := 598) F (by omega) (by omega) (by decide) (by decide) ?_
        intro a F
        rw [show ((B + 50 : Nat) : Int) + 1 = ((B + 51 : Nat) : Int) by omega] at F
        refine then_n ?_
        repeat refine wp_seq ?_
        refine rg_i3 (s := 501) (N := 598) (j := 51) (d0 := 2) (d1 := 50) (d2 := 1) nd_under 59 (by kernel_rfl) sty_under 3 (by kernel_rfl) HU39 0 (by kernel_rfl) F (by decide) (by decide) hlt hnl hP (by omega) (by omega) (mkV_i B 51 (by decide)) ?_
        intro a u F hP
        refine then_n ?_
        repeat refine wp_seq ?_
        refine rg_inc (s := 508) (N := 598) F (by omega) (by omega) (by decide) (by decide) ?_
        intro a F
        rw [show ((B + 51 : Nat) : Int) + 1 = ((B + 52 : Nat) : Int) by omega] at F
        refine then_n ?_
        repeat refine wp_seq ?_
        refine rg_i3 (s := 510) (N := 598) (j := 52) (d0 := 2) (d1 := 50) (d2 := 2) nd_under 59 (by kernel_rfl) sty_under 3 (by kernel_rfl) HU39 0 (by kernel_rfl) F (by decide) (by decide) hlt hnl hP (by omega) (by omega) (mkV_i B 52 (by decide)) ?_
        intro a u F hP
        refine then_n ?_
        repeat refine wp_seq ?_
        refine rg_inc (s := 517) (N := 598) F (by omega) (by omega) (by decide) (by decide) ?_
        intro a F
        rw [show ((B + 52 : Nat) : Int) + 1 = ((B + 53 : Nat) : Int) by omega] at F
        refine then_n ?_
        repeat refine wp_seq ?_
        refine rg_i3 (s := 519) (N := 598) (j := 53) (d0 := 2) (d1 := 50) (d2 := 3) nd_under 59 (by kernel_rfl) sty_under 3 (by kernel_rfl) HU39 0 (by kernel_rfl) F (by decide) (by decide) hlt hnl hP (by omega) (by omega) (mkV_i B 53 (by decide)) ?_
        intro a u F hP
        refine then_n ?_
        repeat refine wp_seq ?_
        refine rg_inc (s := 526) (N := 598) F (by omega) (by omega) (by decide) (by decide) ?_
        intro a F
        rw [show ((B + 53 : Nat) : Int) + 1 = ((B + 54 : Nat) : Int) by omega] at F
        refine then_n ?_
        repeat refine wp_seq ?_
        refine rg_i3 (s := 528) (N := 598) (j := 54) (d0 := 2) (d1 := 54) (d2 := 0) nd_under 59 (by kernel_rfl) sty_under 3 (by kernel_rfl) HU39 0 (by kernel_rfl) F (by decide) (by decide) hlt hnl hP (by omega) (by omega) (mkV_i B 54 (by decide)) ?_
        intro a u F hP
        refine then_n ?_
        repeat refine wp_seq ?_
        refine rg_inc (s := 535) (N := 598) F (by omega) (by omega) (by decide) (by decide) ?_
        intro a F
        rw [show ((B + 54 : Nat) : Int) + 1 = ((B + 55 : Nat) : Int) by omega] at F
        refine then_n ?_
        repeat refine wp_seq ?_
        refine rg_i3 (s := 537) (N := 598) (j := 55) (d0 := 2) (d1 := 54) (d2 := 1) nd_under 59 (by kernel_rfl) sty_under 3 (by kernel_rfl) HU39 0 (by kernel_rfl) F (by decide) (by decide) hlt hnl hP (by omega) (by omega) (mkV_i B 55 (by decide)) ?_
        intro a u F hP
        refine then_n ?_
        repeat refine wp_seq ?_
        refine rg_inc (s := 544) (N := 598) F (by omega) (by omega) (by decide) (by decide) ?_
        intro a F
        rw [show ((B + 55 : Nat) : Int) + 1 = ((B + 56 : Nat) : Int) by omega] at F
        refine then_n ?_
        repeat refine wp_seq ?_
        refine rg_i3 (s := 546) (N := 598) (j := 56) (d0 := 2) (d1 := 54) (d2 := 2) nd_under 59 (by kernel_rfl) sty_under 3 (by kernel_rfl) HU39 0 (by kernel_rfl) F (by decide) (by decide) hlt hnl hP (by omega) (by omega) (mkV_i B 56 (by decide)) ?_
        intro a u F hP
        refine then_n ?_
        repeat refine wp_seq ?_
        refine rg_inc (s := 553) (N := 598) F (by omega) (by omega) (by decide) (by decide) ?_
        intro a F
        rw [show ((B + 56 : Nat) : Int) + 1 = ((B + 57 : Nat) : Int) by omega] at F
        refine then_n ?_
        repeat refine wp_seq ?_
        refine rg_i3 (s := 555) (N := 598) (j := 57) (d0 := 2) (d1 := 54) (d2 := 3) nd_under 59 (by kernel_rfl) sty_under 3 (by kernel_rfl) HU39 0 (by kernel_rfl) F (by decide) (by decide) hlt hnl hP (by omega) (by omega) (mkV_i B 57 (by decide)) ?_
        intro a u F hP
        refine then_n ?_
        repeat refine wp_seq ?_
        refine rg_inc (s := 562) (N := 598) F (by omega) (by omega) (by decide) (by decide) ?_
        intro a F
        rw [show ((B + 57 : Nat) : Int) + 1 = ((B + 58 : Nat) : Int) by omega] at F
        refine then_n ?_
        repeat refine wp_seq ?_
        refine rg_i2 (s := 564) (N := 598) (j := 58) (d0 := 2) (d1 := 58) nd_under 59 (by kernel_rfl) sty_under 0 (by kernel_rfl) F (by decide) (by decide) hlt hnl hP (by omega) (by omega) (mkV_i B 58 (by decide)) ?_
        intro a u F hP
        refine then_n ?_
        repeat refine wp_seq ?_
        refine rg_inc (s := 570) (N := 598) F (by omega) (by omega) (by decide) (by decide) ?_
        intro a F
        rw [show ((B + 58 : Nat) : Int) + 1 = ((B + 59 : Nat) : Int) by omega] at F
        refine then_n ?_
        repeat refine wp_seq ?_
        refine rg_i2 (s := 572) (N := 598) (j := 59) (d0 := 2) (d1 := 59) nd_under 59 (by kernel_rfl) sty_under 0 (by kernel_rfl) F (by decide) (by decide) hlt hnl hP (by omega) (by omega) (mkV_i B 59 (by decide)) ?_
        intro a u F hP
        refine then_n ?_
        repeat refine wp_seq ?_
        refine rg_inc (s := 578) (N := 598) F (by omega) (by omega) (by decide) (by decide) ?_
        intro a F
        rw [show ((B + 59 : Nat) : Int) + 1 = ((B + 60 : Nat) : Int) by omega] at F
        refine then_n ?_
        repeat refine wp_seq ?_
        refine rg_b1 (s := 580) (N := 598) (j := 60) (d0 := 62) nd_under 0 (by kernel_rfl) F (by omega) (by omega) (by decide) (by decide) hlt hnl hP (by omega) (by omega) (mkV_b B 60 (by decide)) ?_
        intro a u F hP
        refine then_n ?_
        repeat refine wp_seq ?_
        refine rg_inc (s := 587) (N := 598) F (by omega) (by omega) (by decide) (by decide) ?_
        intro a F
        rw [show ((B + 60 : Nat) : Int) + 1 = ((B + 61 : Nat) : Int) by omega] at F
        refine then_n ?_
        repeat refine wp_seq ?_
        have hrow3 := hP.1
        have g3 := hP.2
        rw [← hml] at hrow3
        (try rw [show (61 : Nat) = 60 + 1 from rfl] at hrow3)
        have hmr := marked_row ms hmi KK
        rw [← eB] at hmr
        rw [show (60 + 1 : Nat) = 61 from rfl, hmr] at hrow3
        have hc63 : u.cell? ⟨g, k * 64 + 63, none⟩ = some m.tv := by
          rw [World.ownsRow.cellAt hrow3 (k * 64 + 63) (by omega), cellsN_at _ k 63 (by omega), List.getElem?_set_self (by omega)]
          exact nL_tab
        have htr3 : TRow lo m.tv m.n.rl m.n.rules u := by
          obtain ⟨a, c, e, hr⟩ := htr2
          by_cases h0 : m.n.rl = 0
          · exact ⟨a, c, e, Or.inl h0⟩
          · refine ⟨a, c, e, Or.inr (World.ownsRow.kept (hr.resolve_left h0) g3 ?_)⟩
            cases hx : m.tv.ownBlock with
            | none => exact Or.inl rfl
            | some b => exact Or.inr fun e => HGN.out false b (by unfold ND.comp blk; rw [if_neg (by decide), if_neg h0]; exact hx) (by rw [e]; rfl)
        refine rg_rules (s := 589) (N := 598) (R := fun r w' => r = .int .i64 (((B + 61 : Nat) : Int) + (m.n.rl : Int) * 3) ∧ TRow lo m.tv m.n.rl (mksI (B + 61) (m.n.rl * 3)) w' ∧ u.grownBy w' (m.comp false)) (fun _ _ => by kernel_rfl) nd_under 0 (by kernel_rfl) (fs1 := Try.prog.fieldsOf 51) (by kernel_rfl) 0 (by kernel_rfl) F (by decide) (by decide) hlt hnl hc63 ?_ ?_
        · exact (markT lo (B + 61) (((B + 61 : Nat)) : Int) m.tv m.n.rl m.n.rules u htl (by omega) rfl htr3).mono fun e w' ⟨he, h1, h2⟩ => ⟨_, he, rfl, h1, h2⟩
        intro a r w9 ⟨hr, htr9, g9⟩ F
        subst hr
        refine inb_n ?_
        refine then_n ?_
        refine rg_inc5 (s := 10) (N := 598) F (by omega) (by omega) (by decide) (by decide) ?_
        intro a F
        -- the relation
        have hrow9 : w9.ownsRow lo 61 64 (.slice (some ⟨g, 0, none⟩) ms.length cap) ms.length (cellsN (ms.set k (mkM KK m))) := World.ownsRow.kept hrow3 g9 (Or.inr fun e => HGN.out false g e.symm rfl)
        have hkr9 : KRow lo m.kv (mksI (KK + 1) m.n.kids.length) w9 := by
          obtain ⟨a, c, e, hr⟩ := hkr2
          by_cases h0 : mksI (KK + 1) m.n.kids.length = []
          · exact ⟨a, c, e, Or.inl h0⟩
          · have hne : m.n.kids.length ≠ 0 := fun h => h0 (by rw [h]; rfl)
            have hb : ∀ b, m.kv.ownBlock = some b → m.comp true = some b := fun b hx => by unfold ND.comp blk; rw [if_pos rfl, if_neg hne]; exact hx
            refine ⟨a, c, e, Or.inr (World.ownsRow.kept (World.ownsRow.kept (hr.resolve_left h0) g3 ?_) g9 ?_)⟩
            · cases hx : m.kv.ownBlock with
              | none => exact Or.inl rfl
              | some b => exact Or.inr fun e => HGN.out true b (hb b hx) (by rw [e]; rfl)
            · cases hx : m.kv.ownBlock with
              | none => exact Or.inl rfl
              | some b => exact Or.inr fun e => HIN.out b (hb b hx) e.symm
        have hF9 := (((HF1.out.grown g2 (fun b h => HMB.out true b h)).grown g3 (fun b h => by cases h; exact HG.out)).grown g9 (fun b h => HMB.out false b h))
        have ho9 : OwnN lo (.slice (some ⟨g, 0, none⟩) ms.length cap) (ms.set k (mkM KK m)) w9 := HO.out.remark hmi rfl rfl (by simp [mkM, mkN, mksI_len]) rfl hrow9
          ⟨⟨⟨by show _ ≤ (KK : Int); omega, by show (KK : Int) ≤ _; omega⟩, mksI_all (by omega), mkF_all (by rw [← eB]; omega), mksI_all (by omega), by simp [mkM, mkN, mksI_len]⟩, by
            show KRow lo m.kv (mksI (KK + 1) m.n.kids.length) w9
            exact hkr9, by
            show TRow lo m.tv m.n.rl (mksI (KK + 1 + m.n.kids.length + 61) (m.n.rl * 3)) w9
            rw [← eB]; exact htr9⟩
          (fun q hq h1 h2 h3 => by
            rw [g9.block q (Nat.lt_of_lt_of_le (Nat.lt_of_lt_of_le (Nat.lt_of_lt_of_le hq G1.out.size) g2.size) g3.size) (fun e => h3 e.symm), g3.block q (Nat.lt_of_lt_of_le (Nat.lt_of_lt_of_le hq G1.out.size) g2.size) (fun e => h1 (by simpa using e)), g2.block q (Nat.lt_of_lt_of_le hq G1.out.size) (fun e => h2 e.symm), G1.out.block q hq (fun e => h1 (by simpa using e))])
          (Nat.le_trans G1.out.size (Nat.le_trans g2.size (Nat.le_trans g3.size g9.size)))
        refine ⟨⟨k + 1, by omega, ?_, ?_, hF9⟩, ?_⟩
        · have e1 : (((B + 61 : Nat) : Int) + (m.n.rl : Int) * 3) = ((nxL K (ms0.take (k + 1)) : Nat) : Int) := by rw [HNX.out]; unfold nxN; omega
          rw [e1, show ((k : Int) + 1) = ((k + 1 : Nat) : Int) by omega] at F
          exact F
        · rw [← HNEXT.out, ← hml]; exact ho9
        · show ms0.length - (intOf (a.eval (.tmp 5))).toNat < ms0.length - (intOf (a0.eval (.tmp 5))).toNat
          rw [F.e5, F0.e5]
          simp only [intOf]
          omega
    · obtain rfl : k = ms0.length := by omega
      refine wp_cond (t := false) (by rw [hcond, decide_eq_false (by omega)]) ?_
      refine wp_exit ?_
      rw [List.take_length, List.drop_length, List.append_nil] at ho
      rw [List.take_length] at F
      refine then_x ?_
      repeat (first | refine then_x ?_ | refine inb_x ?_ | refine then_n ?_ | refine inb_n ?_)
      rename_i Q' KQ hKQ Fx
      refine hKQ _ _ ?_
      refine wp_seq ?_
      refine rg_ret (N := 598) F (by decide) (by decide) ?_
      intro a' hd he
      refine then_n ?_
      refine wp_ret ?_
      refine ⟨hd, _, (results_tmp rfl _ _ _).trans ?_, rfl, ho, hf⟩
      rw [← he]
      rfl
end Go.Proofs.Ytbfhipfflomokaa

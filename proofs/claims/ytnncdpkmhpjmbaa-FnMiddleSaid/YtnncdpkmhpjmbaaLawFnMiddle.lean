/-
  For every code of bytes, laws.FnMiddle returns true: centered items have equal space on both sides up to 1, and so have the other two ways; the code reads as before. Conditions: none.
-/
import Derived.Test.YtnncdpkmhpjmbaaCodeIn
import Derived.Test.YtnncdpkmhpjmbaaLgQ
import Derived.Test.YtnncdpkmhpjmbaaPlAt
import Derived.Test.YtnncdpkmhpjmbaaItF
import Derived.Test.YtnncdpkmhpjmbaaLiI
import Derived.Maps.AppendAt
import Derived.BigQuiet
import Derived.Lib.QuietBelow
namespace Go.Proofs.Ytnncdpkmhpjmbaa.fnMiddle
open Go.ChangeShapes Go.WideShapes Go.ChangeAt Go.RowKit
set_option linter.unusedVariables false
set_option linter.unusedSimpArgs false
set_option maxRecDepth 20000

/-- The lengths that are drawn. -/
def zsL (ps : List Int) (m : Nat) : List Int := (List.range m).map (fun i => ps.getD (i + 1) 0 % 100)
theorem zsL_len (ps : List Int) (m : Nat) : (zsL ps m).length = m := by simp [zsL]
theorem zsL_succ (ps : List Int) (m : Nat) : zsL ps (m + 1) = zsL ps m ++ [ps.getD (m + 1) 0 % 100] := by simp [zsL, List.range_succ]
theorem zsL_in (ps : List Int) (m : Nat) : ∀ z ∈ zsL ps m, 0 ≤ z ∧ z ≤ 99 := by
  intro z hz
  obtain ⟨i, _, rfl⟩ := List.mem_map.1 hz
  omega
theorem zsL_all (ps : List Int) (m : Nat) : AllI (zsL ps m) := fun z hz => by have := zsL_in ps m z hz; omega
theorem plI_inr {zs : List Int} (h : ∀ z ∈ zs, 0 ≤ z ∧ z ≤ 99) : ∀ x ∈ zs.map plI, x.inr := by
  intro x hx
  obtain ⟨z, hz, rfl⟩ := List.mem_map.1 hx
  have := h z hz
  simp only [It.inr, plI, I64]
  omega
def MRel (u : World) (ps : List Int) (m : Nat) (v s i : Value) (wr : World) : Prop :=
  ∃ k : Nat, k ≤ m ∧ i = .int .i64 k ∧ RowT u.heap.size v ((zsL ps k).map plI) wr ∧ RowI u.heap.size s (zsL ps k) wr ∧ (∀ b, v.ownBlock = some b → s.ownBlock ≠ some b) ∧ Below u.heap.size u wr
set_option maxRecDepth 100000 in
set_option maxHeartbeats 8000000 in
theorem walk (a : Option Addr) (len cap : Nat) (w : World) (hl : len ≤ 1048576) (hc : Code w a len) :
    Calls Try.prog 9 #[.slice a len cap] w fun e w' => e = .returned (.bool true) ∧ Below w.heap.size w w' := by
  obtain ⟨i0, hi, hz0, hz1, hz2⟩ := info_parts info_item
  obtain ⟨j0, hj, hj0, hj1, hj2⟩ := info_parts info_intP
  go_enter Try.func9, Try.ntmps9
  go_wp2_with (first | (go_at_call 34; refine (places_any a len cap w hl hc).mono ?_; rintro e u ⟨pv, ps, rfl, hpl, hpi, hpo, bu⟩) | (go_at_call 12; go_in))
  obtain ⟨pg, pc, rfl, _, hpg, hcells⟩ := own_places hpo (by omega)
  rw [hpl]
  have BU := Lib.hid bu
  have HP := Lib.hid (show ∀ j, j < 12 → u.cell? ⟨pg, j, none⟩ = some (.int .i64 (ps.getD j 0)) from fun j h => hcells j (by omega))
  have HPI := Lib.hid (fun j => place_in hpi j)
  clear hc hpo hcells bu hpi
  have p0 := HPI.out 0
  obtain ⟨P0, eP0⟩ : ∃ q, q = ps.getD 0 0 := ⟨_, rfl⟩
  have c0 := HP.out 0 (by decide)
  rw [← eP0] at c0 p0
  obtain ⟨m, hm⟩ : ∃ m : Nat, (m : Int) = 1 + P0 % 5 := ⟨(1 + P0 % 5).toNat, by omega⟩
  have hm1 : 1 ≤ m ∧ m ≤ 5 := by omega
  have HM := Lib.hid hm
  clear eP0 hm
  have ha1 : RowT u.heap.size (.slice (some ⟨u.heap.size, 0, none⟩) 0 0) [] (u.alloc (.cells #[] 40)) := World.ownsRow_lit u #[] 0 (Nat.le_refl _) (by unfold maxLen; omega) rfl
  have ba1 : Below u.heap.size u (u.alloc (.cells #[] 40)) := (Below.refl _ _).alloc (Nat.le_refl _) _
  have hs1 : (u.alloc (.cells #[] 40)).heap.size = u.heap.size + 1 := by simp
  obtain ⟨u1, eu1⟩ : ∃ q, q = u.alloc (.cells #[] 40) := ⟨_, rfl⟩
  rw [← eu1] at ha1 ba1 hs1
  have EU1 := Lib.hid eu1
  have ha2 : RowI u1.heap.size (.slice (some ⟨u1.heap.size, 0, none⟩) 0 0) [] (u1.alloc (.cells #[] 3)) := World.ownsRow_lit u1 #[] 0 (Nat.le_refl _) (by unfold maxLen; omega) rfl
  have ba2 : Below u1.heap.size u1 (u1.alloc (.cells #[] 3)) := (Below.refl _ _).alloc (Nat.le_refl _) _
  obtain ⟨u2, eu2⟩ : ∃ q, q = u1.alloc (.cells #[] 3) := ⟨_, rfl⟩
  rw [← eu2] at ha2 ba2
  have EU2 := Lib.hid eu2
  rw [hs1] at ha2
  have HREL := Lib.hid (show MRel u ps m (.slice (some ⟨u.heap.size, 0, none⟩) 0 0) (.slice (some ⟨u.heap.size + 1, 0, none⟩) 0 0) (.int .i64 0) u2 from
    ⟨0, by omega, rfl, ha1.below ba2, lowI ha2 (by omega), (fun b hb => by have h : some u.heap.size = some b := hb; injection h with h; intro e; have e' : some (u.heap.size + 1) = some b := e; injection e' with e'; omega), ba1.trans (ba2.mono ba1.size)⟩)
  clear ha1 ba1 ha2 ba2 eu1 eu2
  (try dsimp only)
  go_wp2_with (first | (rw [← EU1.out]) | (rw [← EU2.out]) | fail)
  (try rw [hs1])
  clear EU1 EU2 hs1
  go_loopw [4, 5, 6] (MRel u ps m) (fun _ _ i _ => m - (intOf i).toNat)
  case atStart => exact HREL.out
  case round =>
    clear HREL
    obtain ⟨k, hk, rfl, hrt, hri, hne, hb⟩ := hrel
    have HRT := Lib.hid hrt
    have HRI := Lib.hid hri
    have HNE := Lib.hid hne
    have HB := Lib.hid hb
    have HC0 := Lib.hid (cell_low c0 hb)
    clear hrt hri hne
    have c0' := HC0.out
    have hm := HM.out
    by_cases hlt : k < m
    · have hlo : (0 : Int) ≤ (k : Int) := Int.natCast_nonneg _
      have hki : (k : Int) < 1 + P0 % 5 := by omega
      have hk5 : (k : Int) < 5 := by omega
      have ck := cell_low (HP.out (k + 1) (by omega)) hb
      have pk := HPI.out (k + 1)
      have HZS := Lib.hid (zsL_succ ps k)
      have HZL := Lib.hid (zsL_len ps k)
      obtain ⟨x, ex⟩ : ∃ q, q = ps.getD (k + 1) 0 := ⟨_, rfl⟩
      rw [← ex] at ck pk HZS
      have HX := Lib.hid ex
      clear ex
      have hx3 : ((k : Int) + 1).toNat = k + 1 := by omega
      have hsz := hb.size
      have hxm : 0 ≤ x % 100 ∧ x % 100 ≤ 99 := by omega
      clear hb
      have hll : ((zsL ps k).map plI).length = k := by rw [List.length_map]; exact HZL.out
      have HLL := Lib.hid hll
      clear hll
      go_wp2_with (at_builtin; refine wpList_append_own_at _ rfl _ _ 34 rfl u.heap.size 40 i0 _ 9 64 Try.underlying34 hi hz0 hz1 hz2 rfl (by decide) _ _ _ rfl (World.ownsRow.alloc HRT.out _) ⟨wr.heap.size, 0, none⟩ 1 1 (plI (x % 100)).L rfl rfl (it_new (x := plI (x % 100))) (plI (x % 100)).L_one ?c3a ?c4a ?c5a ?_)
      case c3a => unfold maxLen; rw [HLL.out]; omega
      case c4a => rw [HLL.out]; omega
      case c5a => simp; omega
      intro v' w3 hown3 hgr _ hloc
      have bA : Below wr.heap.size wr (wr.alloc (.cells (plI (x % 100)).A 40)) := (Below.refl _ _).alloc (Nat.le_refl _) _
      have hsA : (wr.alloc (.cells (plI (x % 100)).A 40)).heap.size = wr.heap.size + 1 := by simp
      have R3 := Lib.hid (show RowT u.heap.size v' ((zsL ps (k + 1)).map plI) w3 by rw [HZS.out, List.map_append]; exact RowT.app (by rw [List.length_map]; exact hown3))
      have hne2 : u5.ownBlock = none ∨ u5.ownBlock ≠ u4.ownBlock := by
        cases hv : u5.ownBlock with
        | none => exact Or.inl rfl
        | some b => exact Or.inr fun e => HNE.out b e.symm hv
      have S3 := Lib.hid ((HRI.out.below bA).kept hgr hne2)
      have NE3 := Lib.hid (show ∀ b, v'.ownBlock = some b → u5.ownBlock ≠ some b from fun b hb hs => by
        rcases hloc with e | e
        · exact HNE.out b (e.symm.trans hb) hs
        · rw [e] at hb
          injection hb with hb
          have := (World.ownsRow.lt HRI.out b hs).2
          omega)
      have B3 := Lib.hid ((HB.out.trans (bA.mono HB.out.size)).grown hgr (by omega) (fun g hg => (World.ownsRow.lt HRT.out g hg).1))
      have hs3 := hgr.size
      have ck3 := cell_low (HP.out (k + 1) (by omega)) B3.out
      rw [← HX.out] at ck3
      clear hown3 hgr hloc bA hne2 ck HRT HRI HNE HB
      (try dsimp only)
      go_wp2_with (at_builtin; refine wpList_append_own_at _ rfl _ _ 24 rfl u.heap.size 3 j0 (.int .i64 0) 1 8 Try.underlying24 hj hj0 hj1 hj2 rfl (by decide) _ _ _ rfl (World.ownsRow.alloc S3.out _) ⟨w3.heap.size, 0, none⟩ 1 1 [.int .i64 (x % 100)] rfl rfl (one_intP _ _ _) ?c2b ?c3b ?c4b ?c5b ?_)
      case c2b => intro z hz; simp at hz; subst hz; rfl
      case c3b => unfold maxLen; rw [HZL.out]; omega
      case c4b => rw [HZL.out]; omega
      case c5b => have := B3.out.size; simp; omega
      intro s' w5 hown5 hgr5 _ hloc5
      have bA5 : Below w3.heap.size w3 (w3.alloc (.cells #[.int .i64 (x % 100)] 3)) := (Below.refl _ _).alloc (Nat.le_refl _) _
      have hsA5 : (w3.alloc (.cells #[.int .i64 (x % 100)] 3)).heap.size = w3.heap.size + 1 := by simp
      have S5 := Lib.hid (show RowI u.heap.size s' (zsL ps (k + 1)) w5 by rw [HZS.out]; unfold RowI; simpa using hown5)
      have hne5 : v'.ownBlock = none ∨ v'.ownBlock ≠ u5.ownBlock := by
        cases hv : v'.ownBlock with
        | none => exact Or.inl rfl
        | some b => exact Or.inr fun e => NE3.out b hv e.symm
      have R5 := Lib.hid ((R3.out.below bA5).kept hgr5 hne5)
      have NE5 := Lib.hid (show ∀ b, v'.ownBlock = some b → s'.ownBlock ≠ some b from fun b hb hs => by
        rcases hloc5 with e | e
        · exact NE3.out b hb (e.symm.trans hs)
        · rw [e] at hs
          injection hs with hs
          have := (World.ownsRow.lt R3.out b hb).2
          omega)
      have B5 := Lib.hid ((B3.out.trans (bA5.mono B3.out.size)).grown hgr5 (by have := B3.out.size; omega) (fun g hg => (World.ownsRow.lt S3.out g hg).1))
      clear hown5 hgr5 hloc5 bA5 hne5 R3 S3 NE3 B3
      (try dsimp only)
      go_wp2
      go_roundw
      case rel => exact ⟨k + 1, by omega, by go_num, R5.out, S5.out, NE5.out, B5.out⟩
      case measure => simp [intOf]; omega
    · have hki : ¬ (k : Int) < 1 + P0 % 5 := by omega
      obtain rfl : k = m := by omega
      clear hm
      have p7 := HPI.out 7
      have c7 := cell_low (HP.out 7 (by decide)) hb
      obtain ⟨P7, eP7⟩ : ∃ q, q = ps.getD 7 0 := ⟨_, rfl⟩
      rw [← eP7] at p7 c7
      obtain ⟨IN, eIN⟩ : ∃ q, q = 600 + P7 % 400 := ⟨_, rfl⟩
      have hin0 : 600 ≤ IN := by omega
      have hin1 : IN ≤ 999 := by omega
      have HIN := Lib.hid eIN
      obtain ⟨ai, ci, rfl, hit⟩ := HRT.out.slice (plI_inr (zsL_in ps k))
      obtain ⟨as_, cs, rfl, hsz⟩ := HRI.out.slice (zsL_all ps k)
      have HMID := Lib.hid (fun js (hjs : js = 3 ∨ js = 5 ∨ js = 6) => middle (zsL_in ps k) (by rw [zsL_len]; omega) (by rw [zsL_len]; omega) hin0 hin1 hjs)
      have HLEN := Lib.hid (fun js => plV_n (js := js) (plI_ok (zsL_in ps k) (by rw [zsL_len]; omega) hin0 hin1))
      have HAT := Lib.hid (fun js i hi => plV_at (js := js) (plI_ok (zsL_in ps k) (by rw [zsL_len]; omega) hin0 hin1) (i := i) hi)
      have HZI := Lib.hid (zsL_in ps k)
      rw [List.length_map, zsL_len] at *
      have HZL := Lib.hid (zsL_len ps k)
      generalize zsL ps k = ZS at *
      have HIT := Lib.hid hit
      have HSZ := Lib.hid hsz
      clear hit hsz eP7 eIN HRT HRI HNE hb
      have hw0 : RowI wr.heap.size (.slice (some ⟨wr.heap.size, 0, none⟩) 3 3) [3, 5, 6] (wr.alloc (.cells #[.int .i64 3, .int .i64 5, .int .i64 6] 3)) := World.ownsRow_lit wr #[.int .i64 3, .int .i64 5, .int .i64 6] 3 (Nat.le_refl _) (by unfold maxLen; omega) rfl
      have bz : Below wr.heap.size wr (wr.alloc (.cells #[.int .i64 3, .int .i64 5, .int .i64 6] 3)) := (Below.refl _ _).alloc (Nat.le_refl _) _
      obtain ⟨z, ez⟩ : ∃ q, q = wr.alloc (.cells #[.int .i64 3, .int .i64 5, .int .i64 6] 3) := ⟨_, rfl⟩
      rw [← ez] at hw0 bz
      have EZ := Lib.hid ez
      have hway := hw0.ints rfl (by intro q hq; simp at hq; omega)
      have HWAY := Lib.hid hway
      have HIT2 := Lib.hid (HIT.out.below bz)
      have HSZ2 := Lib.hid (HSZ.out.below bz)
      have BZ := Lib.hid ((BU.out.trans (HB.out.mono BU.out.size)).trans (bz.mono (Nat.le_trans BU.out.size HB.out.size)))
      obtain ⟨zb, ezb⟩ : ∃ q, q = wr.heap.size := ⟨_, rfl⟩
      rw [← ezb] at HWAY
      have EZB := Lib.hid ezb
      clear hw0 bz ez hway HIT HSZ ezb
      go_wp2_with (first | (rw [← EZ.out]) | fail)
      rw [← HIN.out, ← EZB.out]
      clear EZ EZB HIN p7 c7 c0 c0' HC0 p0
      go_loopw [9] (fun i wz => ∃ q : Nat, q ≤ 3 ∧ i = .int .i64 q ∧ Below z.heap.size z wz) (fun i _ => 3 - (intOf i).toNat)
      case atStart => exact ⟨0, by omega, rfl, Below.refl _ _⟩
      case round =>
        obtain ⟨q, hq, rfl, hbz⟩ := hrel
        have HBZ := Lib.hid hbz
        by_cases hlt2 : q < 3
        · have hq0 : (0 : Int) ≤ (q : Int) := Int.natCast_nonneg _
          have hq3 : (q : Int) < 3 := by omega
          have hjs : [3, 5, 6].getD q 0 = (3 : Int) ∨ [3, 5, 6].getD q 0 = (5 : Int) ∨ [3, 5, 6].getD q 0 = (6 : Int) := by
            match q, hlt2 with
            | 0, _ => exact Or.inl rfl
            | 1, _ => exact Or.inr (Or.inl rfl)
            | 2, _ => exact Or.inr (Or.inr rfl)
          obtain ⟨bw, ow, ebw, hbw, cw⟩ := (HWAY.out.below hbz).look (k := q) hlt2
          injection ebw with ebw
          injection ebw with e1 e2
          subst e1 e2
          obtain ⟨js, ejs⟩ : ∃ js, js = [3, 5, 6].getD q (0 : Int) := ⟨_, rfl⟩
          rw [← ejs] at hjs cw
          rw [Nat.zero_add] at cw
          have kp := iplaces_along ai ci (ZS.map plI) as_ ZS.length cs ZS 0 IN js wr (HIT2.out.below hbz) (by rw [List.length_map, HZL.out]; omega) (by rw [HZL.out]; exact HSZ2.out.below hbz) (by rw [HZL.out]; omega)
          rw [List.length_map, HZL.out] at kp
          have hlen := HLEN.out js
          have hd := HMID.out js hjs
          have ha0 := HAT.out js 0 (by omega)
          have ha1 := HAT.out js (k - 1) (by omega)
          (try rw [HZL.out] at hd)
          have HPA := Lib.hid (plV_all (ZS.map plI) ZS 0 IN js)
          generalize plV (ZS.map plI) ZS 0 IN js = PS at *
          have KP := Lib.hid kp
          have HLN := Lib.hid hlen
          clear kp ejs hbz hlen
          go_wp2_with (fail)
          refine KP.out.mono ?_
          rintro e w6 ⟨v6, rfl, r6, b6⟩
          obtain ⟨a6, c6, rfl, hi6⟩ := r6.slice HPA.out
          rw [HLN.out] at hi6 ⊢
          obtain ⟨bp, op, rfl, hbp, cp0⟩ := hi6.look (k := 0) (by omega)
          obtain ⟨bp', op', ebp, hbp', cp1⟩ := hi6.look (k := k - 1) (by omega)
          injection ebp with ebp
          injection ebp with e1 e2
          subst e1 e2
          obtain ⟨bs, os, rfl, hbs, cs1⟩ := ((HSZ2.out.below HBZ.out).below b6).look (k := k - 1) (by omega)
          have hz1 := getD_in HZI.out (show k - 1 < ZS.length by rw [HZL.out]; omega)
          have B6 := Lib.hid (HBZ.out.trans (b6.mono HBZ.out.size))
          rw [Nat.add_zero] at cp0
          generalize PS.getD 0 0 = PF at *
          generalize PS.getD (k - 1) 0 = PL at *
          generalize ZS.getD (k - 1) 0 = ZL at *
          have D0 := fun d os => cell_regrown cp0 d os
          have D1 := fun d os => cell_regrown cp1 d os
          have D2 := fun d os => cell_regrown cs1 d os
          have hk1 : ((k : Int) - 1).toNat = k - 1 := by omega
          have hk2 : (0 : Int) ≤ (k : Int) - 1 := by omega
          have hk3 : (k : Int) - 1 < (k : Int) := by omega
          have hk4 : (0 : Int) < (k : Int) := by omega
          clear r6 b6 hi6 KP cp0 cp1 cs1
          (try dsimp only)
          go_wp2_with (fail)
          refine wp_region_quiet_below (by kernel_rfl) (by kernel_rfl) ?_
          repeat (go_big_quiet_step (fail))
          refine wpQuiet_nil ?_
          intro _ hw'
          obtain ⟨⟨dq, osq⟩, hw''⟩ := hw'
          subst hw''
          clear D0 D1 D2
          have B7 := Lib.hid (B6.out.trans ((below_regrown w6 dq osq).mono B6.out.size))
          have hd0 : ¬ PF - (IN - PL - ZL) < -1 := by omega
          have hd1 : ¬ 1 < PF - (IN - PL - ZL) := by omega
          (try dsimp only)
          go_wp2
          go_roundw
          case rel => exact ⟨q + 1, by omega, by go_num, B7.out⟩
          case measure => simp [intOf]; omega
        · obtain rfl : q = 3 := by omega
          have B9 := Lib.hid (BZ.out.trans (hbz.mono BZ.out.size))
          clear hbz
          go_wp2
          go_ret
          exact ⟨rfl, B9.out⟩

set_option maxRecDepth 100000 in
theorem walk_big (a : Option Addr) (len cap : Nat) (w : World) (hl : 1048576 < len) (hm : len ≤ 9223372036854775807) :
    Calls Try.prog 9 #[.slice a len cap] w fun e w' => e = .returned (.bool true) ∧ Below w.heap.size w w' := by
  go_enter Try.func9, Try.ntmps9
  go_wp2
  go_ret
  exact ⟨rfl, Below.refl _ _⟩

theorem laidOut : laidOutB Try.prog = true := by kernel_rfl

theorem contract (H : Type) (enc : TypeId × Value → H) (W : World) (base : Nat) (args : Array Value) (ds gs : List (DataW H)) (before : List MemPlace)
    (hval : ∀ (j : Nat) t v, Try.f9.params[j]? = some t → args[j]? = some v → Value.okWide Try.prog W .any base t v)
    (hW : DataW.Whole enc Try.prog Try.f9.params.toList Rows.fnMiddleSpec.vars false W args.toList ds gs before) :
    Calls Try.prog 9 args W fun e W' => ∃ v, e = .returned v ∧ Rows.fnMiddleSpec.post enc Try.prog Try.f9 false true false false W args v W' := by
  have hW' := hW
  obtain ⟨p, q, hA0, hV, rfl, hfz, hnd⟩ := hW
  have hA : DataW.TrodAll enc Try.prog W 0 (fun _ => true) true Try.f9.params.toList args.toList ds p := hA0
  rw [Try.params9] at hA hval
  obtain ⟨v0, vs0, d0, ds0, p0, q0, hargs, rfl, rfl, h0, r0⟩ := trodAll_cons hA
  obtain ⟨rfl, rfl, rfl⟩ := trodAll_nil r0
  obtain rfl : args = #[v0] := by cases args; simp_all
  obtain ⟨rfl, rfl⟩ := trodVars_none hV
  obtain ⟨a, len, cap, rfl⟩ := okWide_slice Try.underlying22 (hval 0 22 v0 rfl rfl)
  have lt0 : ∀ x ∈ p0, x.block < W.heap.size := by obtain ⟨m, hm⟩ := h0; exact DataW.trod_lt m _ _ _ hm
  obtain ⟨hc, hm⟩ := code_of h0
  have all : Calls Try.prog 9 #[.slice a len cap] W fun e w' => e = .returned (.bool true) ∧ Below W.heap.size W w' := by
    by_cases hl : len ≤ 1048576
    · exact walk a len cap W hl hc
    · exact walk_big a len cap W (by omega) hm
  refine all.mono fun e W' ⟨he, bel⟩ => ?_
  subst he
  exact ⟨_, rfl, law_post (pa := _) (pv := []) hW' (trodAll_cons_mk (shut_bool Try.underlying4 _) trodAll_mk0) (trodAll_cons_mk (Below.trod laidOut (by kernel_rfl) (of_decide_eq_true (by kernel_rfl)) h0 bel lt0) trodAll_mk0) rfl rfl bel⟩


set_option maxRecDepth 100000 in
theorem lifted (os : Os) (started : os.Started) (H : Type) (enc : TypeId × Value → H) :
    ReturnsInHanded {} Try.checked os 9 .any (Rows.fnMiddleSpec.pre6 enc Try.prog Try.f9 Rows.fnMiddleRow.domain false) (Rows.fnMiddleSpec.post enc Try.prog Try.f9 false true false false) := by
  refine returnsInHanded_of_change (C := Try.checked) own started (by kernel_rfl) Try.func9
    (ChangeSpec.witness6 (enc := enc) (C := Try.checked) false ⟨#[], #[.slice none 0 0], []⟩ 8 (by kernel_rfl) (by kernel_rfl) (by kernel_rfl) (by kernel_rfl)) ?_
  intro W base args ds gs before hval hW _ _
  exact contract H enc W base args ds gs before hval hW

/-- The given statement. -/
theorem proved : Rows.FnMiddleSaid :=
  OpenClaim.holds_of_wide 9 Try.f9 rfl rfl rfl rfl rfl rfl rfl ⟨rfl, rfl, rfl, rfl, rfl⟩ rfl rfl rfl rfl rfl (by kernel_rfl) Try.func9 (by kernel_rfl)
    (of_decide_eq_true (by kernel_rfl)) (by unfold Func.isWrapper; first | (rw [if_pos (by decide +kernel)]; kernel_rfl) | (rw [if_neg (by decide +kernel)]; exact ⟨rfl, rfl⟩))
    (fun os started H enc _ => lifted os started H enc)
#print axioms proved
end Go.Proofs.Ytnncdpkmhpjmbaa.fnMiddle

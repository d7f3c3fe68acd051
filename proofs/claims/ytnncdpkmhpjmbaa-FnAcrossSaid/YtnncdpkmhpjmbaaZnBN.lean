import Derived.BigQuiet
import Derived.Lib.QuietBelow
import Derived.Test.YtnncdpkmhpjmbaaZnAK
import Derived.Test.YtnncdpkmhpjmbaaZnAP
import Derived.Test.YtnncdpkmhpjmbaaZnBE
import Derived.Test.YtnncdpkmhpjmbaaZnBK
import Derived.Test.YtnncdpkmhpjmbaaZnBM
section
namespace Go.Proofs.Ytnncdpkmhpjmbaa
open Go.ChangeShapes Go.WideShapes Go.ChangeAt Go.RowKit
set_option linter.unusedVariables false
set_option linter.unusedSimpArgs false
set_option maxRecDepth 20000

theorem sp_start (free many : Int) (i : Nat) : spV free many 1 i = 0 := by
  unfold spV ldV
  simp
theorem sq_none {xs : List It} {free js : Int} (h : auN xs xs.length = 0) (i : Nat) : spV free xs.length js i = sqV xs free js i := by unfold sqV; rw [if_neg (by omega)]
theorem sq_some {xs : List It} {free js : Int} (h : 0 < auN xs xs.length) (i : Nat) : spV free xs.length 1 i = sqV xs free js i := by unfold sqV; rw [if_pos h, sp_start]
theorem wx_len (xs : List It) (free : Int) : (wxV xs free).length = xs.length := wdL_len _ _
theorem wx_inr {xs : List It} {zs : List Int} {gap inner : Int} (h : AlF xs zs gap inner) (hx : ∀ x ∈ xs, x.inr) (free : Int) : ∀ x ∈ wxV xs free, x.inr := by
  intro x hm
  obtain ⟨i, hi, rfl⟩ := List.mem_map.1 hm
  have hi' := List.mem_range.1 hi
  have h1 := hx _ (itD_mem hi')
  have h2 := wd_bd h free i
  exact ⟨h1.1, h1.2.1, h1.2.2.1, h1.2.2.2.1, h1.2.2.2.2.1, ⟨by have := h2.1.1; unfold gvV at this; omega, by have := h2.1.2; unfold gvV at this; omega⟩, ⟨by have := h2.2.1; unfold gvV at this; omega, by have := h2.2.2; unfold gvV at this; omega⟩⟩
def PcPost (xs : List Int) (n : Int) (w : World) (e : Ending) (w' : World) : Prop := ∃ v, e = .returned (.tuple #[v, .int .i64 n]) ∧ RowI w.heap.size v xs w' ∧ Below w.heap.size w w'
def PcRel (w4 : World) (ys : List It) (zs : List Int) (gap : Int) (sp : Nat → Int) (n pb : Nat) (e i : Value) (wr : World) : Prop :=
  ∃ k : Nat, k ≤ n ∧ i = .int .i64 k ∧ e = .int .i64 (enV ys zs gap sp k) ∧ RowI w4.heap.size (.slice (some ⟨pb, 0, none⟩) n n) (plK ys zs gap sp k ++ (List.replicate n 0).drop k) wr ∧ Below w4.heap.size w4 wr
theorem en_next (ys : List It) (zs : List Int) (gap : Int) (sp : Nat → Int) (k : Nat) : pvV ys gap sp (enV ys zs gap sp k) k + zs.getD k 0 + (itD ys k).behind = enV ys zs gap sp (k + 1) := rfl
theorem pv_zero (ys : List It) (gap : Int) (sp : Nat → Int) (E : Int) : E + sp 0 + (itD ys 0).before = pvV ys gap sp E 0 := rfl
theorem pv_pos {ys : List It} {gap : Int} {sp : Nat → Int} {E : Int} {k : Nat} (h : k ≠ 0) : E + gap + sp k + (itD ys k).before = pvV ys gap sp E k := by unfold pvV; rw [if_neg h]

set_option maxHeartbeats 4000000 in
theorem iplaced (a : Option Addr) (cap : Nat) (xs : List It) (b : Option Addr) (len cap2 : Nat) (zs : List Int) (gap inner js : Int) (w : World) (hz : Its w a xs) (hl : xs.length ≤ 1048576) (hs : Ints w b len zs) (hsl : len ≤ 1048576) :
    Calls Try.prog 53 #[.slice a xs.length cap, .slice b len cap2, .int .i64 gap, .int .i64 inner, .int .i64 js] w (PcPost (plV xs zs gap inner js) (edA xs zs gap inner js) w) := by
  obtain ⟨i0, hi, hz0, hz1, hz2⟩ := info_parts info_intP
  have HZ := Lib.hid hz
  have HS := Lib.hid hs
  have KO := Lib.hid (ialok a cap xs b len cap2 zs gap inner w hz hl hs hsl)
  have hpl : plV xs zs gap inner js = (if alOk xs zs gap inner = true then plK (wxV xs (fcV xs zs gap inner)) zs gap (sqV xs (fcV xs zs gap inner) js) xs.length else []) := rfl
  have hed : edA xs zs gap inner js = (if alOk xs zs gap inner = true then enV (wxV xs (fcV xs zs gap inner)) zs gap (sqV xs (fcV xs zs gap inner) js) xs.length else 0) := rfl
  rw [hpl, hed]
  clear hz hs hpl hed
  cases hok : alOk xs zs gap inner with
  | false =>
    rw [hok] at KO
    rw [if_neg (by decide), if_neg (by decide)]
    go_enter Try.func53, Try.ntmps53
    go_wp2_with (fail)
    refine KO.out.mono ?_
    rintro e w1 ⟨rfl, b1⟩
    have B1 := Lib.hid b1
    clear b1 KO
    (try dsimp only)
    go_wp2
    go_ret2
    exact ⟨_, rfl, World.ownsRow_nil _ _ _ _, B1.out⟩
  | true =>
    have hF := al_of hok
    rw [hok] at KO
    rw [if_pos rfl, if_pos rfl]
    have hfc := fc_in xs zs gap inner
    have HEB := Lib.hid (wx_bd hF js)
    have HF := Lib.hid hF
    have hn12 := hF.n12
    have KF := Lib.hid (fun w' (h : Below w.heap.size w w') => ifree a cap xs b len cap2 zs gap inner w' (HZ.out.below h) hl (HS.out.below h) hsl)
    have KC := Lib.hid (fun w' => iclamp_off (frA xs zs gap inner) w')
    have efc : lenI (frA xs zs gap inner) = fcV xs zs gap inner := rfl
    rw [efc] at KC
    have KA := Lib.hid (fun w' (h : Below w.heap.size w w') => iautos a cap xs w' (HZ.out.below h) hl)
    have KW := Lib.hid (fun w' (h : Below w.heap.size w w') hau => iwithautos a cap xs (fcV xs zs gap inner) w' (HZ.out.below h) hn12 hau hF.mg)
    have HWI := Lib.hid (wx_inr hF HZ.out.1 (fcV xs zs gap inner))
    have KS := Lib.hid (fun js2 w' => ispacing (fcV xs zs gap inner) xs.length js2 w' (by omega) (by omega) hn12)
    obtain ⟨fc, efc2⟩ : ∃ fc, fc = fcV xs zs gap inner := ⟨_, rfl⟩
    rw [← efc2] at KC KW HWI KS HEB hfc ⊢
    have EFC := Lib.hid efc2
    obtain ⟨fr, efr⟩ : ∃ fr, fr = frA xs zs gap inner := ⟨_, rfl⟩
    rw [← efr] at KC KF
    clear efc efc2 efr hF
    by_cases hau : 0 < auN xs xs.length
    · have hsq := fun i => sq_some (free := fc) (js := js) hau i
      have hau2 : (0 : Int) < (auN xs xs.length : Int) := by omega
      go_enter Try.func53, Try.ntmps53
      go_wp2_with (fail)
      refine KO.out.mono ?_
      rintro e w1 ⟨rfl, b1⟩
      have B1 := Lib.hid b1
      clear b1 KO
      (try dsimp only)
      go_wp2_with (fail)
      refine (KF.out w1 B1.out).mono ?_
      rintro e w2 ⟨rfl, b2⟩
      have B2 := Lib.hid (B1.out.trans (b2.mono B1.out.size))
      clear b2 B1 KF
      (try dsimp only)
      go_wp2_with (fail)
      refine (KC.out w2).mono ?_
      rintro e w2' ⟨rfl, rfl⟩
      clear KC
      (try dsimp only)
      go_wp2_with (fail)
      refine (KA.out _ B2.out).mono ?_
      rintro e w3 ⟨rfl, b3⟩
      have B3 := Lib.hid (B2.out.trans (b3.mono B2.out.size))
      clear b3 B2 KA
      (try dsimp only)
      go_wp2_with (fail)
      refine (KW.out w3 B3.out hau).mono ?_
      rintro e w35 ⟨lv, rfl, r35, b35⟩
      obtain ⟨la, lc, rfl, hlit⟩ := r35.slice HWI.out
      rw [wx_len]
      have B35 := Lib.hid (B3.out.trans (b35.mono B3.out.size))
      have HIT0 := Lib.hid hlit
      clear hlit r35 b35
      (try dsimp only)
      go_wp2_with (fail)
      refine (KS.out 1 w35).mono ?_
      rintro e w4 ⟨p1, p2, p3, p4, va, rfl, hsp, b4⟩
      have HSP := Lib.hid (show SpF w.heap.size fc xs.length 1 p1 p2 p3 p4 va w4 from ⟨⟨Nat.le_trans B35.out.size hsp.1.1, Nat.le_trans B35.out.size hsp.1.2.1, Nat.le_trans B35.out.size hsp.1.2.2.1, Nat.le_trans B35.out.size hsp.1.2.2.2⟩, hsp.2.1, hsp.2.2.1, hsp.2.2.2.1, hsp.2.2.2.2.1, lowI hsp.2.2.2.2.2 B35.out.size⟩)
      have HIT := Lib.hid (HIT0.out.below b4)
      have HBW := Lib.hid (B35.out.trans (b4.mono B35.out.size))
      obtain ⟨js2, ejs2⟩ : ∃ q : Int, q = 1 := ⟨_, rfl⟩
      rw [← ejs2] at HSP hsq
      have HY := Lib.hid (wx_len xs fc)
      obtain ⟨ys, eys⟩ : ∃ ys, ys = wxV xs fc := ⟨_, rfl⟩
      rw [← eys] at HIT HEB HY ⊢
      have EYS := Lib.hid eys
      clear hsp b4 eys ejs2 HIT0
      have HSQ := Lib.hid hsq
      obtain ⟨sp, esp⟩ : ∃ sp, sp = sqV xs fc js := ⟨_, rfl⟩
      rw [← esp] at HSQ HEB ⊢
      have HSZ := Lib.hid (HS.out.below HBW.out)
      have hzl : zs.length = len := HS.out.1
      subst hzl
      have HZL := Lib.hid HF.out.len
      have HN12 := Lib.hid hn12
      have HN := Lib.hid (show ys.length = xs.length from HY.out)
      have ESP := Lib.hid esp
      clear hsq esp HY
      (try dsimp only)
      go_wp2_with (first
        | (at_make; refine wpList_make_full _ rfl _ _ 24 rfl w4.heap.size 3 i0 (.int .i64 0) 1 Try.underlying24 hi hz0 hz1 .i64 .i64 _ _ xs.length rfl rfl rfl rfl (by rw [hz2]; omega) (by unfold maxLen; omega) (Nat.le_refl _) ?_))
      intro w5 hown5 hgrow5
      have HR0 := Lib.hid (show RowI w4.heap.size (.slice (some ⟨w4.heap.size, 0, none⟩) xs.length xs.length) (plK ys zs gap sp 0 ++ (List.replicate xs.length 0).drop 0) w5 by
        unfold RowI
        rw [toList_madeCells_one] at hown5
        simpa [plK] using hown5)
      have HB0 := Lib.hid ((Below.refl _ _).grown hgrow5 (Nat.le_refl _) (fun g hg => by cases hg) : Below w4.heap.size w4 w5)
      clear hown5 hgrow5
      (try dsimp only)
      go_wp2
      go_loopw [15, 46] (PcRel w4 ys zs gap sp xs.length w4.heap.size) (fun _ i _ => xs.length - (intOf i).toNat)
      case atStart => exact ⟨0, Nat.zero_le _, rfl, rfl, HR0.out, HB0.out⟩
      case round =>
        clear HR0 HB0
        obtain ⟨k, hk, rfl, rfl, ho, hb⟩ := hrel
        have hll : (plK ys zs gap sp k ++ (List.replicate xs.length (0 : Int)).drop k).length = xs.length := by rw [List.length_append, plK_len, List.length_drop, List.length_replicate]; omega
        by_cases hlt : k < xs.length
        · obtain ⟨bi, oi, rfl, hbi, hrg⟩ := (HIT.out.below hb).look (k := k) (by first | exact hlt | exact Nat.lt_of_lt_of_eq hlt HN.out.symm)
          obtain ⟨bz, oz, rfl, hbz, hcz⟩ := HSZ.out.look (k := k) (Nat.lt_of_lt_of_eq hlt HZL.out.symm)
          have hlo : (0 : Int) ≤ (k : Int) := Int.natCast_nonneg _
          have hhi : (k : Int) < (xs.length : Int) := by omega
          have hhz : (k : Int) < (zs.length : Int) := by have := HZL.out; omega
          have hB := HEB.out.b k
          have hH := HEB.out.h k
          have hZ := HEB.out.z k
          have hG := HEB.out.g
          have hS := HEB.out.s k
          have hE := en_bd HEB.out k
          have hPb := pl_bd HEB.out k
          have HSET := Lib.hid (plK_set (xs := ys) (zs := zs) (gap := gap) (sp := sp) (l := List.replicate xs.length 0) (k := k) (by rw [List.length_replicate]; exact hlt))
          have HNX := Lib.hid (en_next ys zs gap sp k)
          have hk12 : (k : Int) ≤ 12 := by omega
          have hP0 : k = 0 → enV ys zs gap sp k + sp k + (itD ys k).before = pvV ys gap sp (enV ys zs gap sp k) k := fun h => by subst h; exact pv_zero _ _ _ _
          have hP1 : k ≠ 0 → enV ys zs gap sp k + gap + sp k + (itD ys k).before = pvV ys gap sp (enV ys zs gap sp k) k := fun h => pv_pos h
          have kc := fun w' (h : Below w4.heap.size w4 w') => ispc w.heap.size xs.length k fc js2 p1 p2 p3 p4 va w' HN12.out hlt (HSP.out.below h)
          rw [HSQ.out k] at kc
          generalize pvV ys gap sp (enV ys zs gap sp k) k = P at *
          generalize enV ys zs gap sp k = E at *
          generalize zs.getD k 0 = Z at *
          generalize sp k = S at *
          generalize itD ys k = x at *
          have RG := Lib.hid hrg
          have KC := Lib.hid kc
          obtain ⟨v, ev⟩ : ∃ v, v = wr.alloc (.cells #[.int .i64 x.base, .int .i64 x.least, .int .i64 x.most, .int .i64 x.grow, .int .i64 x.shrink, .int .i64 x.before, .int .i64 x.behind, .bool x.ab, .bool x.ah] 40) := ⟨_, rfl⟩
          have hown : v.heap[wr.heap.size]? = some (.cells #[.int .i64 x.base, .int .i64 x.least, .int .i64 x.most, .int .i64 x.grow, .int .i64 x.shrink, .int .i64 x.before, .int .i64 x.behind, .bool x.ab, .bool x.ah] 40) := ev ▸ hp_new wr _
          have bv0 : Below wr.heap.size wr v := ev ▸ (Below.refl _ _).alloc (Nat.le_refl _) _
          have hbv : Below w4.heap.size w4 v := hb.trans (bv0.mono hb.size)
          have HV := Lib.hid hbv
          have HO := Lib.hid (ho.below bv0)
          have HCZ := Lib.hid (cell_low (cell_low hcz hb) bv0)
          have N5 : v.cell? ⟨wr.heap.size, 5, none⟩ = some (.int .i64 x.before) := Go.Joins.cell_of_block hown 5
          have N6 : v.cell? ⟨wr.heap.size, 6, none⟩ = some (.int .i64 x.behind) := Go.Joins.cell_of_block hown 6
          have hbzp : bz ≠ w4.heap.size := Nat.ne_of_lt hbz
          have hgp : wr.heap.size ≠ w4.heap.size := by have := (World.ownsRow.lt ho w4.heap.size rfl).2; omega
          have EV := Lib.hid ev
          have HLL := Lib.hid hll
          have hsv := hbv.size
          obtain ⟨g9, eg9⟩ : ∃ g, g = wr.heap.size := ⟨_, rfl⟩
          rw [← eg9] at N5 N6 hgp
          have EG := Lib.hid eg9
          have HN6 := Lib.hid N6
          clear hrg kc ev hown bv0 hbv ho hb hcz hll N6 eg9 hbi hbz
          by_cases h0 : k = 0
          · have hk0 : ¬ (0 : Int) < (k : Int) := by omega
            have HP := Lib.hid (show E + S + x.before = P from hP0 h0)
            have H0 := Lib.hid h0
            clear h0 hP0 hP1
            have hw1 : IntKind.i64.wrap (E + S) = E + S := IntWalk.i64_in _ (by omega)
            have hw2 : IntKind.i64.wrap (E + S + x.before) = E + S + x.before := IntWalk.i64_in _ (by omega)
            have D5 := fun d os => cell_regrown N5 d os
            go_wp2_with (first
              | ((with_reducible apply list_load_it); exact rfl; exact rfl; exact rfl; (with_reducible exact RG.out); simp only [Act.put, List.setIfInBounds_toArray, List.set_cons_succ, List.set_cons_zero])
              | (rw [← EV.out])
              | fail)
            (try rw [← EG.out])
            refine region_qtail 11 (by kernel_rfl) (by kernel_rfl) ?_
            simp only [blank, nopOf, Nat.reduceAdd, Nat.reduceEqDiff, Nat.reduceLeDiff, or_self, or_true, false_or, or_false, true_or, ↓reduceIte]
            repeat (go_big_quiet_step (first | (go_at_call 92; exact Calls.regrown_of (KC.out _ (HV.out.trans ((below_regrown v _ _).mono HV.out.size)))) | fail))
            refine wpQuiet_nil ?_
            intro w1 hw
            have b1 := below_of hw
            clear hw D5 N5
            have HO1 := Lib.hid (HO.out.below b1)
            have HCZ1 := Lib.hid (cell_low HCZ.out b1)
            have HN1 := Lib.hid (cell_low HN6.out b1)
            have HV1 := Lib.hid (HV.out.trans (b1.mono HV.out.size))
            obtain ⟨⟨q2, c2⟩, f2, hput⟩ := HO1.out.put HLL.out hlt (E + S + x.before)
            have hcell := hput.cell (by rw [List.length_set]; exact HLL.out) hlt
            rw [List.getD_eq_getElem?_getD, List.getElem?_set_self (by rw [HLL.out]; exact hlt)] at hcell
            replace hcell : (w1.setCell ⟨w4.heap.size, k, none⟩ (.int .i64 (E + S + x.before))).cell? ⟨w4.heap.size, k, none⟩ = some (.int .i64 (E + S + x.before)) := hcell
            have hgr := gr_setC w1 w4.heap.size k (.int .i64 (E + S + x.before))
            have hb3 := bl_set HV1.out (g := w4.heap.size) k (Nat.le_refl _) (.int .i64 (E + S + x.before))
            rw [HP.out] at hput hcell hgr hb3 ⊢
            rw [HSET.out] at hput
            clear hw1 hw2 HP
            obtain ⟨u3, eu3⟩ : ∃ u, u = w1.setCell ⟨w4.heap.size, k, none⟩ (.int .i64 P) := ⟨_, rfl⟩
            rw [← eu3] at hput hcell hgr hb3
            have EU3 := Lib.hid eu3
            have HR3 := Lib.hid hput
            have HB3 := Lib.hid hb3
            have c6 := hgr.cell HN1.out (by simpa using hgp)
            have cz := hgr.cell HCZ1.out (by simpa using hbzp)
            have D6 := fun d os => cell_regrown c6 d os
            have DZ := fun d os => cell_regrown cz d os
            have DP := fun d os => cell_regrown hcell d os
            have hw3 : IntKind.i64.wrap (P + Z) = P + Z := IntWalk.i64_in _ (by omega)
            have hw4 : IntKind.i64.wrap (P + Z + x.behind) = P + Z + x.behind := IntWalk.i64_in _ (by omega)
            clear hput hgr hb3 eu3 c6 cz hcell
            simp only [List.drop_succ_cons, List.drop_zero]
            go_wp2_with (rw [← EU3.out])
            refine wp_region_quiet_below (by kernel_rfl) (by kernel_rfl) ?_
            repeat (go_big_quiet_step (fail))
            refine wpQuiet_nil ?_
            intro _ hw'
            obtain ⟨⟨dq, osq⟩, hw''⟩ := hw'
            subst hw''
            clear D6 DZ DP hw3 hw4
            have HR4 := Lib.hid (HR3.out.below (below_regrown u3 dq osq))
            have HB4 := Lib.hid (HB3.out.trans ((below_regrown u3 dq osq).mono HB3.out.size))
            (try dsimp only)
            go_wp2
            go_roundw
            case rel => exact ⟨k + 1, by omega, by go_num, by rw [← HNX.out], HR4.out, HB4.out⟩
            case measure => simp [intOf]; omega
          · have hwg : IntKind.i64.wrap (E + gap) = E + gap := IntWalk.i64_in _ (by omega)
            have hk0 : (0 : Int) < (k : Int) := by omega
            have HP := Lib.hid (show (E + gap) + S + x.before = P from hP1 h0)
            have H0 := Lib.hid h0
            clear h0 hP0 hP1
            have hw1 : IntKind.i64.wrap ((E + gap) + S) = (E + gap) + S := IntWalk.i64_in _ (by omega)
            have hw2 : IntKind.i64.wrap ((E + gap) + S + x.before) = (E + gap) + S + x.before := IntWalk.i64_in _ (by omega)
            have D5 := fun d os => cell_regrown N5 d os
            go_wp2_with (first
              | ((with_reducible apply list_load_it); exact rfl; exact rfl; exact rfl; (with_reducible exact RG.out); simp only [Act.put, List.setIfInBounds_toArray, List.set_cons_succ, List.set_cons_zero])
              | (rw [← EV.out])
              | fail)
            (try rw [← EG.out])
            refine region_qtail 11 (by kernel_rfl) (by kernel_rfl) ?_
            simp only [blank, nopOf, Nat.reduceAdd, Nat.reduceEqDiff, Nat.reduceLeDiff, or_self, or_true, false_or, or_false, true_or, ↓reduceIte]
            repeat (go_big_quiet_step (first | (go_at_call 92; exact Calls.regrown_of (KC.out _ (HV.out.trans ((below_regrown v _ _).mono HV.out.size)))) | fail))
            refine wpQuiet_nil ?_
            intro w1 hw
            have b1 := below_of hw
            clear hw D5 N5
            have HO1 := Lib.hid (HO.out.below b1)
            have HCZ1 := Lib.hid (cell_low HCZ.out b1)
            have HN1 := Lib.hid (cell_low HN6.out b1)
            have HV1 := Lib.hid (HV.out.trans (b1.mono HV.out.size))
            obtain ⟨⟨q2, c2⟩, f2, hput⟩ := HO1.out.put HLL.out hlt ((E + gap) + S + x.before)
            have hcell := hput.cell (by rw [List.length_set]; exact HLL.out) hlt
            rw [List.getD_eq_getElem?_getD, List.getElem?_set_self (by rw [HLL.out]; exact hlt)] at hcell
            replace hcell : (w1.setCell ⟨w4.heap.size, k, none⟩ (.int .i64 ((E + gap) + S + x.before))).cell? ⟨w4.heap.size, k, none⟩ = some (.int .i64 ((E + gap) + S + x.before)) := hcell
            have hgr := gr_setC w1 w4.heap.size k (.int .i64 ((E + gap) + S + x.before))
            have hb3 := bl_set HV1.out (g := w4.heap.size) k (Nat.le_refl _) (.int .i64 ((E + gap) + S + x.before))
            rw [HP.out] at hput hcell hgr hb3 ⊢
            rw [HSET.out] at hput
            clear hw1 hw2 HP
            obtain ⟨u3, eu3⟩ : ∃ u, u = w1.setCell ⟨w4.heap.size, k, none⟩ (.int .i64 P) := ⟨_, rfl⟩
            rw [← eu3] at hput hcell hgr hb3
            have EU3 := Lib.hid eu3
            have HR3 := Lib.hid hput
            have HB3 := Lib.hid hb3
            have c6 := hgr.cell HN1.out (by simpa using hgp)
            have cz := hgr.cell HCZ1.out (by simpa using hbzp)
            have D6 := fun d os => cell_regrown c6 d os
            have DZ := fun d os => cell_regrown cz d os
            have DP := fun d os => cell_regrown hcell d os
            have hw3 : IntKind.i64.wrap (P + Z) = P + Z := IntWalk.i64_in _ (by omega)
            have hw4 : IntKind.i64.wrap (P + Z + x.behind) = P + Z + x.behind := IntWalk.i64_in _ (by omega)
            clear hput hgr hb3 eu3 c6 cz hcell
            simp only [List.drop_succ_cons, List.drop_zero]
            go_wp2_with (rw [← EU3.out])
            refine wp_region_quiet_below (by kernel_rfl) (by kernel_rfl) ?_
            repeat (go_big_quiet_step (fail))
            refine wpQuiet_nil ?_
            intro _ hw'
            obtain ⟨⟨dq, osq⟩, hw''⟩ := hw'
            subst hw''
            clear D6 DZ DP hw3 hw4
            have HR4 := Lib.hid (HR3.out.below (below_regrown u3 dq osq))
            have HB4 := Lib.hid (HB3.out.trans ((below_regrown u3 dq osq).mono HB3.out.size))
            (try dsimp only)
            go_wp2
            go_roundw
            case rel => exact ⟨k + 1, by omega, by go_num, by rw [← HNX.out], HR4.out, HB4.out⟩
            case measure => simp [intOf]; omega
        · obtain rfl : k = xs.length := by omega
          rw [List.drop_of_length_le (by rw [List.length_replicate]; exact Nat.le_refl _), List.append_nil] at ho
          have HO := Lib.hid ho
          have HB := Lib.hid (HBW.out.trans (hb.mono HBW.out.size))
          clear ho hb hll
          go_wp2
          go_ret2
          obtain rfl := ESP.out
          (try obtain rfl := EYS.out)
          exact ⟨_, rfl, lowI HO.out HBW.out.size, HB.out⟩
    · have hau0 : auN xs xs.length = 0 := by omega
      have hsq := fun i => sq_none (free := fc) (js := js) hau0 i
      have hau2 : ¬ (0 : Int) < (auN xs xs.length : Int) := by omega
      rw [wx_none (free := fc) hau0] at HEB ⊢
      go_enter Try.func53, Try.ntmps53
      go_wp2_with (fail)
      refine KO.out.mono ?_
      rintro e w1 ⟨rfl, b1⟩
      have B1 := Lib.hid b1
      clear b1 KO
      (try dsimp only)
      go_wp2_with (fail)
      refine (KF.out w1 B1.out).mono ?_
      rintro e w2 ⟨rfl, b2⟩
      have B2 := Lib.hid (B1.out.trans (b2.mono B1.out.size))
      clear b2 B1 KF
      (try dsimp only)
      go_wp2_with (fail)
      refine (KC.out w2).mono ?_
      rintro e w2' ⟨rfl, rfl⟩
      clear KC
      (try dsimp only)
      go_wp2_with (fail)
      refine (KA.out _ B2.out).mono ?_
      rintro e w3 ⟨rfl, b3⟩
      have B3 := Lib.hid (B2.out.trans (b3.mono B2.out.size))
      clear b3 B2 KA
      (try dsimp only)
      go_wp2_with (fail)
      refine (KS.out js w3).mono ?_
      rintro e w4 ⟨p1, p2, p3, p4, va, rfl, hsp, b4⟩
      have HSP := Lib.hid (show SpF w.heap.size fc xs.length js p1 p2 p3 p4 va w4 from ⟨⟨Nat.le_trans B3.out.size hsp.1.1, Nat.le_trans B3.out.size hsp.1.2.1, Nat.le_trans B3.out.size hsp.1.2.2.1, Nat.le_trans B3.out.size hsp.1.2.2.2⟩, hsp.2.1, hsp.2.2.1, hsp.2.2.2.1, hsp.2.2.2.2.1, lowI hsp.2.2.2.2.2 B3.out.size⟩)
      have HBW := Lib.hid (B3.out.trans (b4.mono B3.out.size))
      have HIT := Lib.hid (HZ.out.below HBW.out)
      obtain ⟨js2, ejs2⟩ : ∃ q : Int, q = js := ⟨_, rfl⟩
      rw [← ejs2] at HSP
      have hsq' : ∀ i, spV fc xs.length js2 i = sqV xs fc js i := by rw [ejs2]; exact hsq
      have HY := Lib.hid (rfl : xs.length = xs.length)
      clear hsp b4 ejs2 hsq
      have hsq := hsq'
      clear hsq'
      have HSQ := Lib.hid hsq
      obtain ⟨sp, esp⟩ : ∃ sp, sp = sqV xs fc js := ⟨_, rfl⟩
      rw [← esp] at HSQ HEB ⊢
      have HSZ := Lib.hid (HS.out.below HBW.out)
      have hzl : zs.length = len := HS.out.1
      subst hzl
      have HZL := Lib.hid HF.out.len
      have HN12 := Lib.hid hn12
      have HN := Lib.hid (show xs.length = xs.length from HY.out)
      have ESP := Lib.hid esp
      clear hsq esp HY
      (try dsimp only)
      go_wp2_with (first
        | (at_make; refine wpList_make_full _ rfl _ _ 24 rfl w4.heap.size 3 i0 (.int .i64 0) 1 Try.underlying24 hi hz0 hz1 .i64 .i64 _ _ xs.length rfl rfl rfl rfl (by rw [hz2]; omega) (by unfold maxLen; omega) (Nat.le_refl _) ?_))
      intro w5 hown5 hgrow5
      have HR0 := Lib.hid (show RowI w4.heap.size (.slice (some ⟨w4.heap.size, 0, none⟩) xs.length xs.length) (plK xs zs gap sp 0 ++ (List.replicate xs.length 0).drop 0) w5 by
        unfold RowI
        rw [toList_madeCells_one] at hown5
        simpa [plK] using hown5)
      have HB0 := Lib.hid ((Below.refl _ _).grown hgrow5 (Nat.le_refl _) (fun g hg => by cases hg) : Below w4.heap.size w4 w5)
      clear hown5 hgrow5
      (try dsimp only)
      go_wp2
      go_loopw [15, 46] (PcRel w4 xs zs gap sp xs.length w4.heap.size) (fun _ i _ => xs.length - (intOf i).toNat)
      case atStart => exact ⟨0, Nat.zero_le _, rfl, rfl, HR0.out, HB0.out⟩
      case round =>
        clear HR0 HB0
        obtain ⟨k, hk, rfl, rfl, ho, hb⟩ := hrel
        have hll : (plK xs zs gap sp k ++ (List.replicate xs.length (0 : Int)).drop k).length = xs.length := by rw [List.length_append, plK_len, List.length_drop, List.length_replicate]; omega
        by_cases hlt : k < xs.length
        · obtain ⟨bi, oi, rfl, hbi, hrg⟩ := (HIT.out.below hb).look (k := k) (by first | exact hlt | exact Nat.lt_of_lt_of_eq hlt HN.out.symm)
          obtain ⟨bz, oz, rfl, hbz, hcz⟩ := HSZ.out.look (k := k) (Nat.lt_of_lt_of_eq hlt HZL.out.symm)
          have hlo : (0 : Int) ≤ (k : Int) := Int.natCast_nonneg _
          have hhi : (k : Int) < (xs.length : Int) := by omega
          have hhz : (k : Int) < (zs.length : Int) := by have := HZL.out; omega
          have hB := HEB.out.b k
          have hH := HEB.out.h k
          have hZ := HEB.out.z k
          have hG := HEB.out.g
          have hS := HEB.out.s k
          have hE := en_bd HEB.out k
          have hPb := pl_bd HEB.out k
          have HSET := Lib.hid (plK_set (xs := xs) (zs := zs) (gap := gap) (sp := sp) (l := List.replicate xs.length 0) (k := k) (by rw [List.length_replicate]; exact hlt))
          have HNX := Lib.hid (en_next xs zs gap sp k)
          have hk12 : (k : Int) ≤ 12 := by omega
          have hP0 : k = 0 → enV xs zs gap sp k + sp k + (itD xs k).before = pvV xs gap sp (enV xs zs gap sp k) k := fun h => by subst h; exact pv_zero _ _ _ _
          have hP1 : k ≠ 0 → enV xs zs gap sp k + gap + sp k + (itD xs k).before = pvV xs gap sp (enV xs zs gap sp k) k := fun h => pv_pos h
          have kc := fun w' (h : Below w4.heap.size w4 w') => ispc w.heap.size xs.length k fc js2 p1 p2 p3 p4 va w' HN12.out hlt (HSP.out.below h)
          rw [HSQ.out k] at kc
          generalize pvV xs gap sp (enV xs zs gap sp k) k = P at *
          generalize enV xs zs gap sp k = E at *
          generalize zs.getD k 0 = Z at *
          generalize sp k = S at *
          generalize itD xs k = x at *
          have RG := Lib.hid hrg
          have KC := Lib.hid kc
          obtain ⟨v, ev⟩ : ∃ v, v = wr.alloc (.cells #[.int .i64 x.base, .int .i64 x.least, .int .i64 x.most, .int .i64 x.grow, .int .i64 x.shrink, .int .i64 x.before, .int .i64 x.behind, .bool x.ab, .bool x.ah] 40) := ⟨_, rfl⟩
          have hown : v.heap[wr.heap.size]? = some (.cells #[.int .i64 x.base, .int .i64 x.least, .int .i64 x.most, .int .i64 x.grow, .int .i64 x.shrink, .int .i64 x.before, .int .i64 x.behind, .bool x.ab, .bool x.ah] 40) := ev ▸ hp_new wr _
          have bv0 : Below wr.heap.size wr v := ev ▸ (Below.refl _ _).alloc (Nat.le_refl _) _
          have hbv : Below w4.heap.size w4 v := hb.trans (bv0.mono hb.size)
          have HV := Lib.hid hbv
          have HO := Lib.hid (ho.below bv0)
          have HCZ := Lib.hid (cell_low (cell_low hcz hb) bv0)
          have N5 : v.cell? ⟨wr.heap.size, 5, none⟩ = some (.int .i64 x.before) := Go.Joins.cell_of_block hown 5
          have N6 : v.cell? ⟨wr.heap.size, 6, none⟩ = some (.int .i64 x.behind) := Go.Joins.cell_of_block hown 6
          have hbzp : bz ≠ w4.heap.size := Nat.ne_of_lt hbz
          have hgp : wr.heap.size ≠ w4.heap.size := by have := (World.ownsRow.lt ho w4.heap.size rfl).2; omega
          have EV := Lib.hid ev
          have HLL := Lib.hid hll
          have hsv := hbv.size
          obtain ⟨g9, eg9⟩ : ∃ g, g = wr.heap.size := ⟨_, rfl⟩
          rw [← eg9] at N5 N6 hgp
          have EG := Lib.hid eg9
          have HN6 := Lib.hid N6
          clear hrg kc ev hown bv0 hbv ho hb hcz hll N6 eg9 hbi hbz
          by_cases h0 : k = 0
          · have hk0 : ¬ (0 : Int) < (k : Int) := by omega
            have HP := Lib.hid (show E + S + x.before = P from hP0 h0)
            have H0 := Lib.hid h0
            clear h0 hP0 hP1
            have hw1 : IntKind.i64.wrap (E + S) = E + S := IntWalk.i64_in _ (by omega)
            have hw2 : IntKind.i64.wrap (E + S + x.before) = E + S + x.before := IntWalk.i64_in _ (by omega)
            have D5 := fun d os => cell_regrown N5 d os
            go_wp2_with (first
              | ((with_reducible apply list_load_it); exact rfl; exact rfl; exact rfl; (with_reducible exact RG.out); simp only [Act.put, List.setIfInBounds_toArray, List.set_cons_succ, List.set_cons_zero])
              | (rw [← EV.out])
              | fail)
            (try rw [← EG.out])
            refine region_qtail 11 (by kernel_rfl) (by kernel_rfl) ?_
            simp only [blank, nopOf, Nat.reduceAdd, Nat.reduceEqDiff, Nat.reduceLeDiff, or_self, or_true, false_or, or_false, true_or, ↓reduceIte]
            repeat (go_big_quiet_step (first | (go_at_call 92; exact Calls.regrown_of (KC.out _ (HV.out.trans ((below_regrown v _ _).mono HV.out.size)))) | fail))
            refine wpQuiet_nil ?_
            intro w1 hw
            have b1 := below_of hw
            clear hw D5 N5
            have HO1 := Lib.hid (HO.out.below b1)
            have HCZ1 := Lib.hid (cell_low HCZ.out b1)
            have HN1 := Lib.hid (cell_low HN6.out b1)
            have HV1 := Lib.hid (HV.out.trans (b1.mono HV.out.size))
            obtain ⟨⟨q2, c2⟩, f2, hput⟩ := HO1.out.put HLL.out hlt (E + S + x.before)
            have hcell := hput.cell (by rw [List.length_set]; exact HLL.out) hlt
            rw [List.getD_eq_getElem?_getD, List.getElem?_set_self (by rw [HLL.out]; exact hlt)] at hcell
            replace hcell : (w1.setCell ⟨w4.heap.size, k, none⟩ (.int .i64 (E + S + x.before))).cell? ⟨w4.heap.size, k, none⟩ = some (.int .i64 (E + S + x.before)) := hcell
            have hgr := gr_setC w1 w4.heap.size k (.int .i64 (E + S + x.before))
            have hb3 := bl_set HV1.out (g := w4.heap.size) k (Nat.le_refl _) (.int .i64 (E + S + x.before))
            rw [HP.out] at hput hcell hgr hb3 ⊢
            rw [HSET.out] at hput
            clear hw1 hw2 HP
            obtain ⟨u3, eu3⟩ : ∃ u, u = w1.setCell ⟨w4.heap.size, k, none⟩ (.int .i64 P) := ⟨_, rfl⟩
            rw [← eu3] at hput hcell hgr hb3
            have EU3 := Lib.hid eu3
            have HR3 := Lib.hid hput
            have HB3 := Lib.hid hb3
            have c6 := hgr.cell HN1.out (by simpa using hgp)
            have cz := hgr.cell HCZ1.out (by simpa using hbzp)
            have D6 := fun d os => cell_regrown c6 d os
            have DZ := fun d os => cell_regrown cz d os
            have DP := fun d os => cell_regrown hcell d os
            have hw3 : IntKind.i64.wrap (P + Z) = P + Z := IntWalk.i64_in _ (by omega)
            have hw4 : IntKind.i64.wrap (P + Z + x.behind) = P + Z + x.behind := IntWalk.i64_in _ (by omega)
            clear hput hgr hb3 eu3 c6 cz hcell
            simp only [List.drop_succ_cons, List.drop_zero]
            go_wp2_with (rw [← EU3.out])
            refine wp_region_quiet_below (by kernel_rfl) (by kernel_rfl) ?_
            repeat (go_big_quiet_step (fail))
            refine wpQuiet_nil ?_
            intro _ hw'
            obtain ⟨⟨dq, osq⟩, hw''⟩ := hw'
            subst hw''
            clear D6 DZ DP hw3 hw4
            have HR4 := Lib.hid (HR3.out.below (below_regrown u3 dq osq))
            have HB4 := Lib.hid (HB3.out.trans ((below_regrown u3 dq osq).mono HB3.out.size))
            (try dsimp only)
            go_wp2
            go_roundw
            case rel => exact ⟨k + 1, by omega, by go_num, by rw [← HNX.out], HR4.out, HB4.out⟩
            case measure => simp [intOf]; omega
          · have hwg : IntKind.i64.wrap (E + gap) = E + gap := IntWalk.i64_in _ (by omega)
            have hk0 : (0 : Int) < (k : Int) := by omega
            have HP := Lib.hid (show (E + gap) + S + x.before = P from hP1 h0)
            have H0 := Lib.hid h0
            clear h0 hP0 hP1
            have hw1 : IntKind.i64.wrap ((E + gap) + S) = (E + gap) + S := IntWalk.i64_in _ (by omega)
            have hw2 : IntKind.i64.wrap ((E + gap) + S + x.before) = (E + gap) + S + x.before := IntWalk.i64_in _ (by omega)
            have D5 := fun d os => cell_regrown N5 d os
            go_wp2_with (first
              | ((with_reducible apply list_load_it); exact rfl; exact rfl; exact rfl; (with_reducible exact RG.out); simp only [Act.put, List.setIfInBounds_toArray, List.set_cons_succ, List.set_cons_zero])
              | (rw [← EV.out])
              | fail)
            (try rw [← EG.out])
            refine region_qtail 11 (by kernel_rfl) (by kernel_rfl) ?_
            simp only [blank, nopOf, Nat.reduceAdd, Nat.reduceEqDiff, Nat.reduceLeDiff, or_self, or_true, false_or, or_false, true_or, ↓reduceIte]
            repeat (go_big_quiet_step (first | (go_at_call 92; exact Calls.regrown_of (KC.out _ (HV.out.trans ((below_regrown v _ _).mono HV.out.size)))) | fail))
            refine wpQuiet_nil ?_
            intro w1 hw
            have b1 := below_of hw
            clear hw D5 N5
            have HO1 := Lib.hid (HO.out.below b1)
            have HCZ1 := Lib.hid (cell_low HCZ.out b1)
            have HN1 := Lib.hid (cell_low HN6.out b1)
            have HV1 := Lib.hid (HV.out.trans (b1.mono HV.out.size))
            obtain ⟨⟨q2, c2⟩, f2, hput⟩ := HO1.out.put HLL.out hlt ((E + gap) + S + x.before)
            have hcell := hput.cell (by rw [List.length_set]; exact HLL.out) hlt
            rw [List.getD_eq_getElem?_getD, List.getElem?_set_self (by rw [HLL.out]; exact hlt)] at hcell
            replace hcell : (w1.setCell ⟨w4.heap.size, k, none⟩ (.int .i64 ((E + gap) + S + x.before))).cell? ⟨w4.heap.size, k, none⟩ = some (.int .i64 ((E + gap) + S + x.before)) := hcell
            have hgr := gr_setC w1 w4.heap.size k (.int .i64 ((E + gap) + S + x.before))
            have hb3 := bl_set HV1.out (g := w4.heap.size) k (Nat.le_refl _) (.int .i64 ((E + gap) + S + x.before))
            rw [HP.out] at hput hcell hgr hb3 ⊢
            rw [HSET.out] at hput
            clear hw1 hw2 HP
            obtain ⟨u3, eu3⟩ : ∃ u, u = w1.setCell ⟨w4.heap.size, k, none⟩ (.int .i64 P) := ⟨_, rfl⟩
            rw [← eu3] at hput hcell hgr hb3
            have EU3 := Lib.hid eu3
            have HR3 := Lib.hid hput
            have HB3 := Lib.hid hb3
            have c6 := hgr.cell HN1.out (by simpa using hgp)
            have cz := hgr.cell HCZ1.out (by simpa using hbzp)
            have D6 := fun d os => cell_regrown c6 d os
            have DZ := fun d os => cell_regrown cz d os
            have DP := fun d os => cell_regrown hcell d os
            have hw3 : IntKind.i64.wrap (P + Z) = P + Z := IntWalk.i64_in _ (by omega)
            have hw4 : IntKind.i64.wrap (P + Z + x.behind) = P + Z + x.behind := IntWalk.i64_in _ (by omega)
            clear hput hgr hb3 eu3 c6 cz hcell
            simp only [List.drop_succ_cons, List.drop_zero]
            go_wp2_with (rw [← EU3.out])
            refine wp_region_quiet_below (by kernel_rfl) (by kernel_rfl) ?_
            repeat (go_big_quiet_step (fail))
            refine wpQuiet_nil ?_
            intro _ hw'
            obtain ⟨⟨dq, osq⟩, hw''⟩ := hw'
            subst hw''
            clear D6 DZ DP hw3 hw4
            have HR4 := Lib.hid (HR3.out.below (below_regrown u3 dq osq))
            have HB4 := Lib.hid (HB3.out.trans ((below_regrown u3 dq osq).mono HB3.out.size))
            (try dsimp only)
            go_wp2
            go_roundw
            case rel => exact ⟨k + 1, by omega, by go_num, by rw [← HNX.out], HR4.out, HB4.out⟩
            case measure => simp [intOf]; omega
        · obtain rfl : k = xs.length := by omega
          rw [List.drop_of_length_le (by rw [List.length_replicate]; exact Nat.le_refl _), List.append_nil] at ho
          have HO := Lib.hid ho
          have HB := Lib.hid (HBW.out.trans (hb.mono HBW.out.size))
          clear ho hb hll
          go_wp2
          go_ret2
          obtain rfl := ESP.out
          (try obtain rfl := EYS.out)
          exact ⟨_, rfl, lowI HO.out HBW.out.size, HB.out⟩
theorem iplaces_along (a : Option Addr) (cap : Nat) (xs : List It) (b : Option Addr) (len cap2 : Nat) (zs : List Int) (gap inner js : Int) (w : World) (hz : Its w a xs) (hl : xs.length ≤ 1048576) (hs : Ints w b len zs) (hsl : len ≤ 1048576) :
    Calls Try.prog 28 #[.slice a xs.length cap, .slice b len cap2, .int .i64 gap, .int .i64 inner, .int .i64 js] w (OutPost (plV xs zs gap inner js) w) := by
  have KK := Lib.hid (iplaced a cap xs b len cap2 zs gap inner js w hz hl hs hsl)
  clear hz hs
  go_enter Try.func28, Try.ntmps28
  go_wp2_with (fail)
  refine KK.out.mono ?_
  rintro e w1 ⟨v, rfl, r1, b1⟩
  have R1 := Lib.hid r1
  have B1 := Lib.hid b1
  clear KK r1 b1
  (try dsimp only)
  go_wp2
  go_ret
  exact ⟨_, rfl, R1.out, B1.out⟩
end Go.Proofs.Ytnncdpkmhpjmbaa
end

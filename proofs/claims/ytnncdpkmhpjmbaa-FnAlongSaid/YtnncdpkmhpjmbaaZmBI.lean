import Derived.BigRegion
import Derived.RegionTactic
import Derived.Test.YtnncdpkmhpjmbaaZmBH
section
namespace Go.Proofs.Ytnncdpkmhpjmbaa
open Go.ChangeShapes Go.WideShapes Go.ChangeAt Go.RowKit
set_option linter.unusedVariables false
set_option linter.unusedSimpArgs false
set_option maxRecDepth 20000

theorem info_boolF : (Try.prog.info? 4).map (fun i => (i.zero, i.size, i.bytes)) = some (some (.bool false), 1, 1) := by kernel_rfl
theorem take_snocD {α : Type} {l : List α} {k : Nat} {d : α} (h : k < l.length) : l.take (k + 1) = l.take k ++ [l.getD k d] := by
  rw [List.take_succ_eq_append_getElem h]; simp [List.getD, h]
/-- A new row of what is held, its head stored into the run. -/
theorem SxM.newH {w0 : World} {f : Fx} {a : Option Addr} {cap fb : Nat} {hv zv hv' : Value} {hs hs' : List Bool} {zs : List Int} {p : Nat} {w w' : World} {o : Obj} (M : SxM w0 f a cap fb hv zv hs zs p w) (hr : RowB w0.heap.size hv' hs' w') (hg : (w.alloc o).grownBy w' hv.ownBlock)
    (hl : hv'.ownBlock = hv.ownBlock ∨ hv'.ownBlock = some (w.alloc o).heap.size) : w'.frozen? ⟨fb, 4, none⟩ = false ∧ (∃ q, w'.cell? ⟨fb, 4, none⟩ = some q) ∧ SxM w0 f a cap fb hv' zv hs' zs p (w'.setCell ⟨fb, 4, none⟩ hv') := by
  have hb := (M.hb.alloc M.hb.size o).grown hg (by have := M.hb.size; simp; omega) (fun g hg => (World.ownsRow.lt M.rh g hg).1)
  have hne : ¬ some fb = hv.ownBlock := by
    intro e
    rcases M.n1 with h | h
    · rw [h] at e; cases e
    · exact h e.symm
  have hblk : w'.heap[fb]? = some (.cells (sxC f a cap hv zv p) 95) := (hg.block fb (by have := M.fblt; simp; omega) hne).trans (hp_on M.blk o)
  have hz := RowI.kept (show RowI _ _ _ _ from World.ownsRow.alloc M.rz o) hg (apart_sym M.n3)
  have hn1 : hv'.ownBlock = none ∨ hv'.ownBlock ≠ some fb := by
    rcases hl with e | e
    · rw [e]; exact M.n1
    · rw [e]; exact Or.inr fun e2 => by injection e2 with e2; have := M.fblt; simp at e2; omega
  have hn3 : hv'.ownBlock = none ∨ hv'.ownBlock ≠ zv.ownBlock := apart_sym (ap_loc (apart_sym M.n3) hl (fun g hg => by have := (World.ownsRow.lt M.rz g hg).2; simp; omega))
  exact ⟨Go.Joins.unfrozen_of_block hblk 4, ⟨_, Go.Joins.cell_of_block hblk 4⟩, M.its, bl_set hb 4 M.lf _, Go.Joins.block_setCell hblk _, putB_row hr hn1, FxM.put_row hz M.n2, M.lf, hn1, M.n2, hn3⟩
theorem SxM.newZ {w0 : World} {f : Fx} {a : Option Addr} {cap fb : Nat} {hv zv zv' : Value} {hs : List Bool} {zs zs' : List Int} {p : Nat} {w w' : World} {o : Obj} (M : SxM w0 f a cap fb hv zv hs zs p w) (hr : RowI w0.heap.size zv' zs' w') (hg : (w.alloc o).grownBy w' zv.ownBlock)
    (hl : zv'.ownBlock = zv.ownBlock ∨ zv'.ownBlock = some (w.alloc o).heap.size) : w'.frozen? ⟨fb, 5, none⟩ = false ∧ (∃ q, w'.cell? ⟨fb, 5, none⟩ = some q) ∧ SxM w0 f a cap fb hv zv' hs zs' p (w'.setCell ⟨fb, 5, none⟩ zv') := by
  have hb := (M.hb.alloc M.hb.size o).grown hg (by have := M.hb.size; simp; omega) (fun g hg => (World.ownsRow.lt M.rz g hg).1)
  have hne : ¬ some fb = zv.ownBlock := by
    intro e
    rcases M.n2 with h | h
    · rw [h] at e; cases e
    · exact h e.symm
  have hblk : w'.heap[fb]? = some (.cells (sxC f a cap hv zv p) 95) := (hg.block fb (by have := M.fblt; simp; omega) hne).trans (hp_on M.blk o)
  have hh := RowB.kept (show RowB _ _ _ _ from World.ownsRow.alloc M.rh o) hg M.n3
  have hn2 : zv'.ownBlock = none ∨ zv'.ownBlock ≠ some fb := by
    rcases hl with e | e
    · rw [e]; exact M.n2
    · rw [e]; exact Or.inr fun e2 => by injection e2 with e2; have := M.fblt; simp at e2; omega
  have hn3 : hv.ownBlock = none ∨ hv.ownBlock ≠ zv'.ownBlock := ap_loc M.n3 hl (fun g hg => by have := (World.ownsRow.lt M.rh g hg).2; simp; omega)
  exact ⟨Go.Joins.unfrozen_of_block hblk 5, ⟨_, Go.Joins.cell_of_block hblk 5⟩, M.its, bl_set hb 5 M.lf _, Go.Joins.block_setCell hblk _, putB_row hh M.n1, FxM.put_row hr hn2, M.lf, M.n1, hn2, hn3⟩
theorem RowB.sl {lo : Nat} {v : Value} {L : List Bool} {w : World} (h : RowB lo v L w) : ∃ a n c, v = .slice a n c := by
  rcases h.2 with ⟨h, _⟩ | ⟨g, c, _, h, _⟩
  · exact ⟨_, _, _, h⟩
  · exact ⟨_, _, _, h⟩
theorem RowI.sl {lo : Nat} {v : Value} {L : List Int} {w : World} (h : RowI lo v L w) : ∃ a n c, v = .slice a n c := by
  rcases h.2 with ⟨h, _⟩ | ⟨g, c, _, h, _⟩
  · exact ⟨_, _, _, h⟩
  · exact ⟨_, _, _, h⟩
theorem ps_next {f : Fx} {hs hs' : List Bool} {zs zs' : List Int} {p : Nat} {RES : List Int × Nat} (hok : itsOk f.xs = true) (hst : f.St hs zs) (hall : hs.all id = false) (hnf : Fx.nf hs + p ≤ f.xs.length) (hgo : f.go (f.xs.length - p) hs zs p = RES) (h : PsOut f hs zs hs' zs') :
    hs'.length = f.xs.length ∧ p + 1 ≤ f.xs.length ∧ ((hs'.all id = false ∧ f.St hs' zs' ∧ Fx.nf hs' + (p + 1) ≤ f.xs.length ∧ f.go (f.xs.length - (p + 1)) hs' zs' (p + 1) = RES) ∨ (hs'.all id = true ∧ (zs', p + 1) = RES)) := by
  have h1 := Fx.nf_pos hst hall
  have hm : f.xs.length - p = (f.xs.length - (p + 1)) + 1 := by omega
  rw [hm] at hgo
  unfold PsOut at h
  cases hf : f.fo hs zs with
  | true =>
    rw [if_pos hf] at h
    obtain ⟨rfl, rfl⟩ := h
    have hst2 := Fx.stN hok hst
    have h2 := Fx.nf_N hok hst hf
    rw [Fx.go_next p hall hf] at hgo
    refine ⟨hst2.1, by omega, ?_⟩
    cases ha : (f.hN hs zs).all id with
    | true => rw [Fx.go_end _ _ ha] at hgo; exact Or.inr ⟨rfl, hgo⟩
    | false => exact Or.inl ⟨rfl, hst2, by omega, hgo⟩
  | false =>
    rw [if_neg (by rw [hf]; decide)] at h
    obtain ⟨rfl, rfl⟩ := h
    rw [Fx.go_last p hall hf] at hgo
    exact ⟨by simp, by omega, Or.inr ⟨by simp, hgo⟩⟩
set_option maxHeartbeats 8000000 in
theorem sflex (a : Option Addr) (cap : Nat) (xs : List It) (gap inner : Int) (w : World) (hz : Its w a xs) (hl : xs.length ≤ 1048576) :
    Calls Try.prog 85 #[.slice a xs.length cap, .int .i64 gap, .int .i64 inner] w fun e w' => ∃ zv, e = .returned (.tuple #[zv, .int .i64 ((fxV xs gap inner).2 : Nat)]) ∧ RowI w.heap.size zv (fxV xs gap inner).1 w' ∧ Below w.heap.size w w' := by
  obtain ⟨i0, hi, hz0, hz1, hz2⟩ := info_parts info_intP
  obtain ⟨ib, hib, hz0b, hz1b, hz2b⟩ := info_parts info_boolF
  have kg := srng gap 0 1048576
  have ki := srng inner 0 1048576
  have hv : fxV xs gap inner = if (itsOk xs && rnB gap 0 1048576 && rnB inner 0 1048576) = true then (fxOf xs gap inner).go xs.length (fxOf xs gap inner).h0 (fxOf xs gap inner).z0 0 else (hypL xs, 0) := rfl
  obtain ⟨R, eR⟩ : ∃ q, q = fxV xs gap inner := ⟨_, rfl⟩
  rw [← eR] at hv ⊢
  generalize rnB gap 0 1048576 = pg at *
  generalize rnB inner 0 1048576 = pi at *
  have KG := Lib.hid kg
  have KI := Lib.hid ki
  have HV := Lib.hid hv
  have HZ := Lib.hid hz
  have kk := sitsok a cap xs w hz (by omega)
  obtain ⟨pk, epk⟩ : ∃ q, q = itsOk xs := ⟨_, rfl⟩
  rw [← epk] at kk
  have EPK := Lib.hid epk
  clear kg ki hv eR hz epk
  have HBD := Lib.hid (fun (h : (pk && pg && pi) = false) => (by have := HV.out; rw [← EPK.out, if_neg (by rw [h]; simp)] at this; exact this : R = (hypL xs, 0)))
  go_enter Try.func85, Try.ntmps85
  go_wp2_with (fail)
  refine kk.mono ?_
  rintro e w1 ⟨rfl, b1⟩
  have HB1 := Lib.hid b1
  have kh := shyps_any a cap xs w1 (HZ.out.below b1) (by omega)
  clear kk b1
  cases pk with
  | false =>
    have HR := Lib.hid (HBD.out rfl)
    (try dsimp only)
    go_wp2_with (fail)
    refine kh.mono ?_
    rintro e w2 ⟨v2, rfl, r2, b2⟩
    have H2 := Lib.hid r2
    have B2 := Lib.hid (HB1.out.trans (b2.mono HB1.out.size))
    have L2 := Lib.hid (lowI r2 HB1.out.size)
    clear kh r2 b2
    go_wp2
    go_ret2
    rw [HR.out]
    exact ⟨_, rfl, L2.out, B2.out⟩
  | true =>
    (try dsimp only)
    go_wp2_with (fail)
    refine (KG.out _).mono ?_
    rintro e w2 ⟨rfl, rfl⟩
    cases pg with
    | false =>
      have HR := Lib.hid (HBD.out rfl)
      (try dsimp only)
      go_wp2_with (fail)
      refine kh.mono ?_
      rintro e w3 ⟨v2, rfl, r2, b2⟩
      have B2 := Lib.hid (HB1.out.trans (b2.mono HB1.out.size))
      have L2 := Lib.hid (lowI r2 HB1.out.size)
      clear kh r2 b2
      go_wp2
      go_ret2
      rw [HR.out]
      exact ⟨_, rfl, L2.out, B2.out⟩
    | true =>
      (try dsimp only)
      go_wp2_with (fail)
      refine (KI.out _).mono ?_
      rintro e w3 ⟨rfl, rfl⟩
      cases pi with
      | false =>
        have HR := Lib.hid (HBD.out rfl)
        (try dsimp only)
        go_wp2_with (fail)
        refine kh.mono ?_
        rintro e w3' ⟨v2, rfl, r2, b2⟩
        have B2 := Lib.hid (HB1.out.trans (b2.mono HB1.out.size))
        have L2 := Lib.hid (lowI r2 HB1.out.size)
        clear kh r2 b2
        go_wp2
        go_ret2
        rw [HR.out]
        exact ⟨_, rfl, L2.out, B2.out⟩
      | true =>
        have hR : R = (fxOf xs gap inner).go xs.length (fxOf xs gap inner).h0 (fxOf xs gap inner).z0 0 := by have := HV.out; rw [← EPK.out, if_pos (show (true && true && true) = true from rfl)] at this; exact this
        have hok : itsOk xs = true := EPK.out.symm
        have h12 := (its_ok hok).1
        have ks := sgrows_any a cap xs gap inner w3 (HZ.out.below HB1.out) (by omega)
        obtain ⟨gr, egr⟩ : ∃ q, q = decide (ouV xs (hypL xs) gap < inner) := ⟨_, rfl⟩
        rw [← egr] at ks
        obtain ⟨f, ef⟩ : ∃ q : Fx, q = ⟨xs, gap, inner, gr⟩ := ⟨_, rfl⟩
        have hff : fxOf xs gap inner = f := by rw [ef, egr]; rfl
        rw [hff] at hR
        have HR := Lib.hid hR
        clear kh hR hff egr KG KI HV HBD
        (try dsimp only)
        go_wp2_with (fail)
        refine ks.mono ?_
        rintro e w4 ⟨rfl, b4⟩
        have hb4 := HB1.out.trans (b4.mono HB1.out.size)
        obtain ⟨u, eu⟩ : ∃ q, q = w4.alloc (.cells #[.slice a xs.length cap, .int .i64 gap, .int .i64 inner, .bool gr, .slice none 0 0, .slice none 0 0, .int .i64 0] 95) := ⟨_, rfl⟩
        have M : SxM w f a cap w4.heap.size (.slice none 0 0) (.slice none 0 0) [] [] 0 u := by
          rw [eu, ef]
          exact ⟨HZ.out, hb4.alloc hb4.size _, hp_new w4 _, World.ownsRow_nil _ _ _ _, World.ownsRow_nil _ _ _ _, hb4.size, Or.inl rfl, Or.inl rfl, Or.inl rfl⟩
        obtain ⟨fb, efb⟩ : ∃ q, q = w4.heap.size := ⟨_, rfl⟩
        have hfl : fb = w4.heap.size := efb
        rw [← efb] at M
        have EU := Lib.hid eu
        have EFB := Lib.hid efb
        have EF := Lib.hid ef
        have HM := Lib.hid M
        clear ks b4 hb4 eu efb ef M hfl
        (try dsimp only)
        go_wp2_with (rw [← EU.out])
        rw [← EFB.out]
        have hfx : f.xs = xs := by rw [EF.out]
        have hgr0 : f.gr = gr := by rw [EF.out]
        have HFX := Lib.hid hfx
        have HGR := Lib.hid hgr0
        clear hfx hgr0
        go_loopw [9] (fun i wr => ∃ (k : Nat) (hv zv : Value), k ≤ xs.length ∧ i = .int .i64 k ∧ SxM w f a cap fb hv zv (f.h0.take k) (f.z0.take k) 0 wr) (fun i _ => xs.length - (intOf i).toNat)
        case atStart => exact ⟨0, _, _, Nat.zero_le _, rfl, by rw [List.take_zero, List.take_zero]; exact HM.out⟩
        case round =>
          clear HM
          obtain ⟨k, hv, zv, hk, rfl, M⟩ := hrel
          have HMM := Lib.hid M
          by_cases hlt : k < xs.length
          · have hits := M.itsN
            rw [HFX.out] at hits
            obtain ⟨b, off, rfl, hbl, hrg⟩ := hits.look hlt
            have hlo : (0 : Int) ≤ (k : Int) := Int.natCast_nonneg _
            have hhi : (k : Int) < (xs.length : Int) := by omega
            have hokx : itOk (itD xs k) = true := (its_ok EPK.out.symm).2 _ (itD_mem hlt)
            have hlt2 : k < f.xs.length := by rw [HFX.out]; exact hlt
            have HHK := Lib.hid (show f.h0.getD k true = hdV f.gr (f.x k) from rgD _ hlt2 true)
            have HZK := Lib.hid (show f.z0.getD k 0 = if hdV f.gr (f.x k) = true then hypV (f.x k) else (f.x k).base from rgD _ hlt2 0)
            have HHL := Lib.hid (show k < f.h0.length by unfold Fx.h0; simpa using hlt2)
            have HZL := Lib.hid (show k < f.z0.length by unfold Fx.z0; simpa using hlt2)
            have hxx : f.x k = itD xs k := by unfold Fx.x; rw [HFX.out]
            rw [hxx, HGR.out] at HHK HZK
            have hw0 := wtV_in hokx gr
            have hbase := (rg_it hrg).1
            have c3 := M.cells.2.2.2.1
            have c0 := M.cells.1
            rw [HGR.out] at c3
            rw [HFX.out] at c0
            obtain ⟨x, ex⟩ : ∃ q, q = itD xs k := ⟨_, rfl⟩
            rw [← ex] at hrg HHK HZK hw0 hbase
            have RG := Lib.hid hrg
            have EX := Lib.hid ex
            have HITS := Lib.hid hits
            have HBASE := Lib.hid hbase
            have HC3 := Lib.hid c3
            have HC0 := Lib.hid c0
            clear hrg ex M hits hxx hbase c3 c0 hlt2
            go_wp2_with (first
              | ((with_reducible apply list_load_it); exact rfl; exact rfl; exact rfl; (with_reducible exact RG.out); simp only [Act.put, List.setIfInBounds_toArray, List.set_cons_succ, List.set_cons_zero])
              | fail)
            refine (shyp x wr).mono ?_
            rintro e w4 ⟨rfl, b4⟩
            have hb0 := kept_cell HBASE.out b4
            have d0 := kept_cell HC0.out b4
            have d3 := kept_cell HC3.out b4
            have ks := sweight gr fb _ cap xs k w4 (HITS.out.below b4) hlt (by omega) hokx d0 d3
            rw [← EX.out] at ks
            have HM4 := Lib.hid (HMM.out.below b4)
            obtain ⟨hy, ehy⟩ : ∃ q, q = hypV x := ⟨_, rfl⟩
            obtain ⟨wt, ewt⟩ : ∃ q, q = wtV gr x := ⟨_, rfl⟩
            have HHD0 := Lib.hid (show hdV gr x = (decide (wt = 0) || if gr = true then decide (hy < x.base) else decide (x.base < hy)) by rw [ewt, ehy]; rfl)
            rw [← ehy] at HZK ⊢
            rw [← ewt] at hw0 ks
            clear ehy ewt b4
            (try dsimp only)
            go_wp2_with (fail)
            refine ks.mono ?_
            rintro e w5 ⟨rfl, b5⟩
            have HM5 := Lib.hid (HM4.out.below b5)
            have d3 := kept_cell d3 b5
            clear ks b5 hb0 d0
            (try dsimp only)
            by_cases h1 : wt = 0
            · have HHD := Lib.hid (show hdV gr x = true by rw [HHD0.out, decide_eq_true h1]; rfl)
              have M5 := HM5.out
              have hszM := M5.hb.size
              have hhl : (f.h0.take k).length ≤ 12 := by rw [List.length_take]; omega
              have hzl : (f.z0.take k).length ≤ 12 := by rw [List.length_take]; omega
              have c4 := M5.cells.2.2.2.2.1
              clear M5
              go_wp2_with (at_builtin; refine Go.wpList_append_own_at _ rfl _ _ 93 rfl w.heap.size 4 ib (.bool false) 1 1 Try.underlying93 hib hz0b hz1b hz2b rfl (by decide) _ _ _ rfl (World.ownsRow.alloc HM5.out.rh _) ⟨w5.heap.size, 0, none⟩ 1 1 [.bool true] rfl rfl (one_intP _ _ _) ?a1 ?b1 ?c1 ?d1 ?_)
              case a1 => first | rfl | (intro u hu; simp at hu; subst hu; rfl)
              case b1 => unfold maxLen; omega
              case c1 => omega
              case d1 => first | omega | (simp; omega)
              intro hv1 w6 hown hgr _ hloc
              have hHT : f.h0.take (k + 1) = f.h0.take k ++ [true] := by rw [take_snocD (d := true) HHL.out]; congr 2; rw [HHK.out]; exact HHD.out
              have RB6 : RowB w.heap.size hv1 (f.h0.take (k + 1)) w6 := by rw [hHT]; unfold RowB; rw [List.length_append, List.map_append]; simpa using hown
              obtain ⟨sa, sn, sc, rfl⟩ := RowB.sl RB6
              obtain ⟨f4, ⟨q4, g4⟩, M6⟩ := HM5.out.newH RB6 hgr (by simpa using hloc)
              obtain ⟨u6, eu6⟩ : ∃ q, q = w6.setCell ⟨fb, 4, none⟩ (.slice sa sn sc) := ⟨_, rfl⟩
              rw [← eu6] at M6
              have EU6 := Lib.hid eu6
              have HM6 := Lib.hid M6
              have c5 := M6.cells.2.2.2.2.2.1
              have hsz6 := M6.hb.size
              clear hown hgr hloc hHT RB6 M6 eu6 hszM
              go_wp2_with (first | (rw [← EU6.out]) | (at_builtin; refine Go.wpList_append_own_at _ rfl _ _ 24 rfl w.heap.size 3 i0 (.int .i64 0) 1 8 Try.underlying24 hi hz0 hz1 hz2 rfl (by decide) _ _ _ rfl (World.ownsRow.alloc HM6.out.rz _) ⟨u6.heap.size, 0, none⟩ 1 1 [.int .i64 hy] rfl rfl (one_intP _ _ _) ?e1 ?f1 ?g1 ?h1 ?_) | fail)
              case e1 => first | rfl | (intro u hu; simp at hu; subst hu; rfl)
              case f1 => unfold maxLen; omega
              case g1 => omega
              case h1 => first | omega | (simp; omega)
              intro zv1 w7 hown hgr _ hloc
              have hZT : f.z0.take (k + 1) = f.z0.take k ++ [hy] := by rw [take_snocD (d := 0) HZL.out]; congr 2; rw [HZK.out, HHD.out]; rfl
              have RZ7 : RowI w.heap.size zv1 (f.z0.take (k + 1)) w7 := by rw [hZT]; unfold RowI; rw [List.length_append, List.map_append]; simpa using hown
              obtain ⟨ta, tn, tc, rfl⟩ := RowI.sl RZ7
              obtain ⟨f5, ⟨q5, g5⟩, M7⟩ := HM6.out.newZ RZ7 hgr (by simpa using hloc)
              obtain ⟨u7, eu7⟩ : ∃ q, q = w7.setCell ⟨fb, 5, none⟩ (.slice ta tn tc) := ⟨_, rfl⟩
              rw [← eu7] at M7
              have EU7 := Lib.hid eu7
              have HM7 := Lib.hid M7
              clear hown hgr hloc hZT RZ7 M7 eu7 hsz6
              go_wp2_with (rw [← EU7.out])
              go_roundw
              case rel => exact ⟨k + 1, _, _, by omega, by go_num, HM7.out⟩
              case measure => simp [intOf]; omega
            · cases gr with
              | true =>
                by_cases h2 : hy < x.base
                · have HHD := Lib.hid (show hdV true x = true by rw [HHD0.out, decide_eq_false h1, decide_eq_true h2]; rfl)
                  have M5 := HM5.out
                  have hszM := M5.hb.size
                  have hhl : (f.h0.take k).length ≤ 12 := by rw [List.length_take]; omega
                  have hzl : (f.z0.take k).length ≤ 12 := by rw [List.length_take]; omega
                  have c4 := M5.cells.2.2.2.2.1
                  clear M5
                  go_wp2_with (at_builtin; refine Go.wpList_append_own_at _ rfl _ _ 93 rfl w.heap.size 4 ib (.bool false) 1 1 Try.underlying93 hib hz0b hz1b hz2b rfl (by decide) _ _ _ rfl (World.ownsRow.alloc HM5.out.rh _) ⟨w5.heap.size, 0, none⟩ 1 1 [.bool true] rfl rfl (one_intP _ _ _) ?a2 ?b2 ?c2 ?d2 ?_)
                  case a2 => first | rfl | (intro u hu; simp at hu; subst hu; rfl)
                  case b2 => unfold maxLen; omega
                  case c2 => omega
                  case d2 => first | omega | (simp; omega)
                  intro hv1 w6 hown hgr _ hloc
                  have hHT : f.h0.take (k + 1) = f.h0.take k ++ [true] := by rw [take_snocD (d := true) HHL.out]; congr 2; rw [HHK.out]; exact HHD.out
                  have RB6 : RowB w.heap.size hv1 (f.h0.take (k + 1)) w6 := by rw [hHT]; unfold RowB; rw [List.length_append, List.map_append]; simpa using hown
                  obtain ⟨sa, sn, sc, rfl⟩ := RowB.sl RB6
                  obtain ⟨f4, ⟨q4, g4⟩, M6⟩ := HM5.out.newH RB6 hgr (by simpa using hloc)
                  obtain ⟨u6, eu6⟩ : ∃ q, q = w6.setCell ⟨fb, 4, none⟩ (.slice sa sn sc) := ⟨_, rfl⟩
                  rw [← eu6] at M6
                  have EU6 := Lib.hid eu6
                  have HM6 := Lib.hid M6
                  have c5 := M6.cells.2.2.2.2.2.1
                  have hsz6 := M6.hb.size
                  clear hown hgr hloc hHT RB6 M6 eu6 hszM
                  go_wp2_with (first | (rw [← EU6.out]) | (at_builtin; refine Go.wpList_append_own_at _ rfl _ _ 24 rfl w.heap.size 3 i0 (.int .i64 0) 1 8 Try.underlying24 hi hz0 hz1 hz2 rfl (by decide) _ _ _ rfl (World.ownsRow.alloc HM6.out.rz _) ⟨u6.heap.size, 0, none⟩ 1 1 [.int .i64 hy] rfl rfl (one_intP _ _ _) ?e2 ?f2 ?g2 ?h2 ?_) | fail)
                  case e2 => first | rfl | (intro u hu; simp at hu; subst hu; rfl)
                  case f2 => unfold maxLen; omega
                  case g2 => omega
                  case h2 => first | omega | (simp; omega)
                  intro zv1 w7 hown hgr _ hloc
                  have hZT : f.z0.take (k + 1) = f.z0.take k ++ [hy] := by rw [take_snocD (d := 0) HZL.out]; congr 2; rw [HZK.out, HHD.out]; rfl
                  have RZ7 : RowI w.heap.size zv1 (f.z0.take (k + 1)) w7 := by rw [hZT]; unfold RowI; rw [List.length_append, List.map_append]; simpa using hown
                  obtain ⟨ta, tn, tc, rfl⟩ := RowI.sl RZ7
                  obtain ⟨f5, ⟨q5, g5⟩, M7⟩ := HM6.out.newZ RZ7 hgr (by simpa using hloc)
                  obtain ⟨u7, eu7⟩ : ∃ q, q = w7.setCell ⟨fb, 5, none⟩ (.slice ta tn tc) := ⟨_, rfl⟩
                  rw [← eu7] at M7
                  have EU7 := Lib.hid eu7
                  have HM7 := Lib.hid M7
                  clear hown hgr hloc hZT RZ7 M7 eu7 hsz6
                  go_wp2_with (rw [← EU7.out])
                  go_roundw
                  case rel => exact ⟨k + 1, _, _, by omega, by go_num, HM7.out⟩
                  case measure => simp [intOf]; omega
                · have HHD := Lib.hid (show hdV true x = false by rw [HHD0.out, decide_eq_false h1, decide_eq_false h2]; rfl)
                  have M5 := HM5.out
                  have hszM := M5.hb.size
                  have hhl : (f.h0.take k).length ≤ 12 := by rw [List.length_take]; omega
                  have hzl : (f.z0.take k).length ≤ 12 := by rw [List.length_take]; omega
                  have c4 := M5.cells.2.2.2.2.1
                  clear M5
                  go_wp2_with (at_builtin; refine Go.wpList_append_own_at _ rfl _ _ 93 rfl w.heap.size 4 ib (.bool false) 1 1 Try.underlying93 hib hz0b hz1b hz2b rfl (by decide) _ _ _ rfl (World.ownsRow.alloc HM5.out.rh _) ⟨w5.heap.size, 0, none⟩ 1 1 [.bool (wt == 0)] rfl rfl (one_intP _ _ _) ?a3 ?b3 ?c3 ?d3 ?_)
                  case a3 => first | rfl | (intro u hu; simp at hu; subst hu; rfl)
                  case b3 => unfold maxLen; omega
                  case c3 => omega
                  case d3 => first | omega | (simp; omega)
                  intro hv1 w6 hown hgr _ hloc
                  rw [show (wt == 0) = false by simp [h1]]
                  have hHT : f.h0.take (k + 1) = f.h0.take k ++ [wt == 0] := by rw [take_snocD (d := true) HHL.out]; congr 2; rw [HHK.out, show (wt == 0) = false by simp [h1]]; exact HHD.out
                  have RB6 : RowB w.heap.size hv1 (f.h0.take (k + 1)) w6 := by rw [hHT]; unfold RowB; rw [List.length_append, List.map_append]; simpa using hown
                  obtain ⟨sa, sn, sc, rfl⟩ := RowB.sl RB6
                  obtain ⟨f4, ⟨q4, g4⟩, M6⟩ := HM5.out.newH RB6 hgr (by simpa using hloc)
                  obtain ⟨u6, eu6⟩ : ∃ q, q = w6.setCell ⟨fb, 4, none⟩ (.slice sa sn sc) := ⟨_, rfl⟩
                  rw [← eu6] at M6
                  have EU6 := Lib.hid eu6
                  have HM6 := Lib.hid M6
                  have c5 := M6.cells.2.2.2.2.2.1
                  have hsz6 := M6.hb.size
                  clear hown hgr hloc hHT RB6 M6 eu6 hszM
                  go_wp2_with (first | (rw [← EU6.out]) | (at_builtin; refine Go.wpList_append_own_at _ rfl _ _ 24 rfl w.heap.size 3 i0 (.int .i64 0) 1 8 Try.underlying24 hi hz0 hz1 hz2 rfl (by decide) _ _ _ rfl (World.ownsRow.alloc HM6.out.rz _) ⟨u6.heap.size, 0, none⟩ 1 1 [.int .i64 x.base] rfl rfl (one_intP _ _ _) ?e3 ?f3 ?g3 ?h3 ?_) | fail)
                  case e3 => first | rfl | (intro u hu; simp at hu; subst hu; rfl)
                  case f3 => unfold maxLen; omega
                  case g3 => omega
                  case h3 => first | omega | (simp; omega)
                  intro zv1 w7 hown hgr _ hloc
                  have hZT : f.z0.take (k + 1) = f.z0.take k ++ [x.base] := by rw [take_snocD (d := 0) HZL.out]; congr 2; rw [HZK.out, HHD.out]; rfl
                  have RZ7 : RowI w.heap.size zv1 (f.z0.take (k + 1)) w7 := by rw [hZT]; unfold RowI; rw [List.length_append, List.map_append]; simpa using hown
                  obtain ⟨ta, tn, tc, rfl⟩ := RowI.sl RZ7
                  obtain ⟨f5, ⟨q5, g5⟩, M7⟩ := HM6.out.newZ RZ7 hgr (by simpa using hloc)
                  obtain ⟨u7, eu7⟩ : ∃ q, q = w7.setCell ⟨fb, 5, none⟩ (.slice ta tn tc) := ⟨_, rfl⟩
                  rw [← eu7] at M7
                  have EU7 := Lib.hid eu7
                  have HM7 := Lib.hid M7
                  clear hown hgr hloc hZT RZ7 M7 eu7 hsz6
                  go_wp2_with (rw [← EU7.out])
                  go_roundw
                  case rel => exact ⟨k + 1, _, _, by omega, by go_num, HM7.out⟩
                  case measure => simp [intOf]; omega
              | false =>
                by_cases h2 : x.base < hy
                · have HHD := Lib.hid (show hdV false x = true by rw [HHD0.out, decide_eq_false h1, decide_eq_true h2]; rfl)
                  have M5 := HM5.out
                  have hszM := M5.hb.size
                  have hhl : (f.h0.take k).length ≤ 12 := by rw [List.length_take]; omega
                  have hzl : (f.z0.take k).length ≤ 12 := by rw [List.length_take]; omega
                  have c4 := M5.cells.2.2.2.2.1
                  clear M5
                  go_wp2_with (at_builtin; refine Go.wpList_append_own_at _ rfl _ _ 93 rfl w.heap.size 4 ib (.bool false) 1 1 Try.underlying93 hib hz0b hz1b hz2b rfl (by decide) _ _ _ rfl (World.ownsRow.alloc HM5.out.rh _) ⟨w5.heap.size, 0, none⟩ 1 1 [.bool true] rfl rfl (one_intP _ _ _) ?a4 ?b4 ?c4 ?d4 ?_)
                  case a4 => first | rfl | (intro u hu; simp at hu; subst hu; rfl)
                  case b4 => unfold maxLen; omega
                  case c4 => omega
                  case d4 => first | omega | (simp; omega)
                  intro hv1 w6 hown hgr _ hloc
                  have hHT : f.h0.take (k + 1) = f.h0.take k ++ [true] := by rw [take_snocD (d := true) HHL.out]; congr 2; rw [HHK.out]; exact HHD.out
                  have RB6 : RowB w.heap.size hv1 (f.h0.take (k + 1)) w6 := by rw [hHT]; unfold RowB; rw [List.length_append, List.map_append]; simpa using hown
                  obtain ⟨sa, sn, sc, rfl⟩ := RowB.sl RB6
                  obtain ⟨f4, ⟨q4, g4⟩, M6⟩ := HM5.out.newH RB6 hgr (by simpa using hloc)
                  obtain ⟨u6, eu6⟩ : ∃ q, q = w6.setCell ⟨fb, 4, none⟩ (.slice sa sn sc) := ⟨_, rfl⟩
                  rw [← eu6] at M6
                  have EU6 := Lib.hid eu6
                  have HM6 := Lib.hid M6
                  have c5 := M6.cells.2.2.2.2.2.1
                  have hsz6 := M6.hb.size
                  clear hown hgr hloc hHT RB6 M6 eu6 hszM
                  go_wp2_with (first | (rw [← EU6.out]) | (at_builtin; refine Go.wpList_append_own_at _ rfl _ _ 24 rfl w.heap.size 3 i0 (.int .i64 0) 1 8 Try.underlying24 hi hz0 hz1 hz2 rfl (by decide) _ _ _ rfl (World.ownsRow.alloc HM6.out.rz _) ⟨u6.heap.size, 0, none⟩ 1 1 [.int .i64 hy] rfl rfl (one_intP _ _ _) ?e4 ?f4 ?g4 ?h4 ?_) | fail)
                  case e4 => first | rfl | (intro u hu; simp at hu; subst hu; rfl)
                  case f4 => unfold maxLen; omega
                  case g4 => omega
                  case h4 => first | omega | (simp; omega)
                  intro zv1 w7 hown hgr _ hloc
                  have hZT : f.z0.take (k + 1) = f.z0.take k ++ [hy] := by rw [take_snocD (d := 0) HZL.out]; congr 2; rw [HZK.out, HHD.out]; rfl
                  have RZ7 : RowI w.heap.size zv1 (f.z0.take (k + 1)) w7 := by rw [hZT]; unfold RowI; rw [List.length_append, List.map_append]; simpa using hown
                  obtain ⟨ta, tn, tc, rfl⟩ := RowI.sl RZ7
                  obtain ⟨f5, ⟨q5, g5⟩, M7⟩ := HM6.out.newZ RZ7 hgr (by simpa using hloc)
                  obtain ⟨u7, eu7⟩ : ∃ q, q = w7.setCell ⟨fb, 5, none⟩ (.slice ta tn tc) := ⟨_, rfl⟩
                  rw [← eu7] at M7
                  have EU7 := Lib.hid eu7
                  have HM7 := Lib.hid M7
                  clear hown hgr hloc hZT RZ7 M7 eu7 hsz6
                  go_wp2_with (rw [← EU7.out])
                  go_roundw
                  case rel => exact ⟨k + 1, _, _, by omega, by go_num, HM7.out⟩
                  case measure => simp [intOf]; omega
                · have HHD := Lib.hid (show hdV false x = false by rw [HHD0.out, decide_eq_false h1, decide_eq_false h2]; rfl)
                  have M5 := HM5.out
                  have hszM := M5.hb.size
                  have hhl : (f.h0.take k).length ≤ 12 := by rw [List.length_take]; omega
                  have hzl : (f.z0.take k).length ≤ 12 := by rw [List.length_take]; omega
                  have c4 := M5.cells.2.2.2.2.1
                  clear M5
                  go_wp2_with (at_builtin; refine Go.wpList_append_own_at _ rfl _ _ 93 rfl w.heap.size 4 ib (.bool false) 1 1 Try.underlying93 hib hz0b hz1b hz2b rfl (by decide) _ _ _ rfl (World.ownsRow.alloc HM5.out.rh _) ⟨w5.heap.size, 0, none⟩ 1 1 [.bool (wt == 0)] rfl rfl (one_intP _ _ _) ?a5 ?b5 ?c5 ?d5 ?_)
                  case a5 => first | rfl | (intro u hu; simp at hu; subst hu; rfl)
                  case b5 => unfold maxLen; omega
                  case c5 => omega
                  case d5 => first | omega | (simp; omega)
                  intro hv1 w6 hown hgr _ hloc
                  rw [show (wt == 0) = false by simp [h1]]
                  have hHT : f.h0.take (k + 1) = f.h0.take k ++ [wt == 0] := by rw [take_snocD (d := true) HHL.out]; congr 2; rw [HHK.out, show (wt == 0) = false by simp [h1]]; exact HHD.out
                  have RB6 : RowB w.heap.size hv1 (f.h0.take (k + 1)) w6 := by rw [hHT]; unfold RowB; rw [List.length_append, List.map_append]; simpa using hown
                  obtain ⟨sa, sn, sc, rfl⟩ := RowB.sl RB6
                  obtain ⟨f4, ⟨q4, g4⟩, M6⟩ := HM5.out.newH RB6 hgr (by simpa using hloc)
                  obtain ⟨u6, eu6⟩ : ∃ q, q = w6.setCell ⟨fb, 4, none⟩ (.slice sa sn sc) := ⟨_, rfl⟩
                  rw [← eu6] at M6
                  have EU6 := Lib.hid eu6
                  have HM6 := Lib.hid M6
                  have c5 := M6.cells.2.2.2.2.2.1
                  have hsz6 := M6.hb.size
                  clear hown hgr hloc hHT RB6 M6 eu6 hszM
                  go_wp2_with (first | (rw [← EU6.out]) | (at_builtin; refine Go.wpList_append_own_at _ rfl _ _ 24 rfl w.heap.size 3 i0 (.int .i64 0) 1 8 Try.underlying24 hi hz0 hz1 hz2 rfl (by decide) _ _ _ rfl (World.ownsRow.alloc HM6.out.rz _) ⟨u6.heap.size, 0, none⟩ 1 1 [.int .i64 x.base] rfl rfl (one_intP _ _ _) ?e5 ?f5 ?g5 ?h5 ?_) | fail)
                  case e5 => first | rfl | (intro u hu; simp at hu; subst hu; rfl)
                  case f5 => unfold maxLen; omega
                  case g5 => omega
                  case h5 => first | omega | (simp; omega)
                  intro zv1 w7 hown hgr _ hloc
                  have hZT : f.z0.take (k + 1) = f.z0.take k ++ [x.base] := by rw [take_snocD (d := 0) HZL.out]; congr 2; rw [HZK.out, HHD.out]; rfl
                  have RZ7 : RowI w.heap.size zv1 (f.z0.take (k + 1)) w7 := by rw [hZT]; unfold RowI; rw [List.length_append, List.map_append]; simpa using hown
                  obtain ⟨ta, tn, tc, rfl⟩ := RowI.sl RZ7
                  obtain ⟨f5, ⟨q5, g5⟩, M7⟩ := HM6.out.newZ RZ7 hgr (by simpa using hloc)
                  obtain ⟨u7, eu7⟩ : ∃ q, q = w7.setCell ⟨fb, 5, none⟩ (.slice ta tn tc) := ⟨_, rfl⟩
                  rw [← eu7] at M7
                  have EU7 := Lib.hid eu7
                  have HM7 := Lib.hid M7
                  clear hown hgr hloc hZT RZ7 M7 eu7 hsz6
                  go_wp2_with (rw [← EU7.out])
                  go_roundw
                  case rel => exact ⟨k + 1, _, _, by omega, by go_num, HM7.out⟩
                  case measure => simp [intOf]; omega
          · obtain rfl : k = xs.length := by omega
            have hok2 : itsOk f.xs = true := by rw [HFX.out]; exact EPK.out.symm
            have hst0 := Fx.st0 hok2
            have hlf : f.xs.length = xs.length := by rw [HFX.out]
            have hz0l : f.z0.length = f.xs.length := by unfold Fx.z0; simp
            have M0 := HMM.out
            rw [List.take_of_length_le (by rw [hst0.1]; omega), List.take_of_length_le (by rw [hz0l]; omega)] at M0
            have hrel0 : ∃ (hs : List Bool) (zs : List Int) (p : Nat) (hv zv : Value), SxM w f a cap fb hv zv hs zs p wr ∧ hs.length = f.xs.length ∧ p ≤ f.xs.length ∧ ((hs.all id = false ∧ f.St hs zs ∧ Fx.nf hs + p ≤ f.xs.length ∧ f.go (f.xs.length - p) hs zs p = R) ∨ (hs.all id = true ∧ (zs, p) = R)) := by
              refine ⟨_, _, 0, _, _, M0, hst0.1, by omega, ?_⟩
              cases ha : f.h0.all id with
              | true => exact Or.inr ⟨rfl, by have := HR.out; rw [Fx.go_end _ _ ha] at this; exact this.symm⟩
              | false => exact Or.inl ⟨rfl, hst0, by have := Fx.nf_le f.h0; rw [hst0.1] at this; omega, by rw [Nat.sub_zero, hlf]; exact HR.out.symm⟩
            clear M M0 HMM hst0 hz0l HR
            have HREL := Lib.hid hrel0
            clear hrel0
            go_wp2_with (fail)
            go_loopw [] (fun wr => ∃ (hs : List Bool) (zs : List Int) (p : Nat) (hv zv : Value), SxM w f a cap fb hv zv hs zs p wr ∧ hs.length = f.xs.length ∧ p ≤ f.xs.length ∧ ((hs.all id = false ∧ f.St hs zs ∧ Fx.nf hs + p ≤ f.xs.length ∧ f.go (f.xs.length - p) hs zs p = R) ∨ (hs.all id = true ∧ (zs, p) = R))) (fun wr => xs.length + 1 - (match wr.cell? ⟨fb, 6, none⟩ with | some v => (intOf v).toNat | none => 0))
            case atStart => exact HREL.out
            case round =>
              clear HREL
              obtain ⟨hs, zs, p, hv, zv, M, hlh, hp, hc⟩ := hrel
              rcases hc with ⟨ha, hst, hnf, hgo⟩ | ⟨ha, hres⟩
              · have ks := spass_go w f a cap fb hv zv hs zs p _ hok2 hlh (by omega) ⟨ha, hst⟩ M
                have hq := M.cells.2.2.2.2.2.2
                clear M
                go_wp2_with (fail)
                refine ks.mono ?_
                rintro e w5 ⟨rfl, hs', zs', M5, hps⟩
                have hn := ps_next hok2 hst ha hnf hgo hps
                have hq5 := M5.cells.2.2.2.2.2.2
                have HN := Lib.hid hn
                have HM5 := Lib.hid M5
                have HQ := Lib.hid hq
                have HQ5 := Lib.hid hq5
                clear ks hn hgo hps hst hnf hq hq5 M5
                (try dsimp only)
                go_wp2_with (fail)
                go_roundw
                case rel => exact ⟨hs', zs', p + 1, hv, zv, HM5.out, HN.out.1, HN.out.2.1, HN.out.2.2⟩
                case measure =>
                  have h1 := HN.out.2.1
                  rw [HQ.out, HQ5.out]
                  simp [intOf]
                  omega
              · have ks := spass_end w f a cap fb hv zv hs zs p _ hok2 hlh (by omega) ha M
                have e1 : R.1 = zs := by rw [← hres]
                have e2 : R.2 = p := by rw [← hres]
                have E1 := Lib.hid e1
                have E2 := Lib.hid e2
                clear M e1 e2 hres
                go_wp2_with (fail)
                refine ks.mono ?_
                rintro e w5 ⟨rfl, M5⟩
                have hq6 := M5.cells.2.2.2.2.2.2
                have hq5 := M5.cells.2.2.2.2.2.1
                have HM5 := Lib.hid M5
                clear ks M5
                (try dsimp only)
                go_wp2_with (fail)
                go_region
                go_wp2
                go_ret2
                refine ⟨zv, by rw [E2.out]; rfl, by rw [E1.out]; exact RowI.below HM5.out.rz (Below.refl _ _).drew, HM5.out.hb.drew⟩
end Go.Proofs.Ytnncdpkmhpjmbaa
end

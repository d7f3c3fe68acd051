import Derived.Test.YtopfiogmbnfjcaaZlBC
section
namespace Go.Proofs.Ytopfiogmbnfjcaa
open Go.ChangeShapes Go.WideShapes Go.ChangeAt Go.RowKit
set_option linter.unusedVariables false
set_option linter.unusedSimpArgs false
set_option maxRecDepth 8000

theorem Fx.none {f : Fx} {hs : List Bool} {zs : List Int} (hok : itsOk f.xs = true) (hst : f.St hs zs) (h : f.fo hs zs = false) : f.zN hs zs = zs ∧ f.wL (f.hN hs zs) = f.wL hs := by
  have hz : ∀ i, i < f.xs.length → f.lo hs zs i = false ∧ f.hi hs zs i = false := fun i hi => by
    have := Fx.fo_none hok h hi
    unfold Fx.lo Fx.hi
    rw [this]
    exact ⟨rfl, rfl⟩
  refine ⟨?_, ?_⟩
  · refine (eq_range hst.2.1 (d := 0) fun i hi => ?_).symm
    unfold Fx.nz
    rw [(hz i hi).1, (hz i hi).2]
    rfl
  · unfold Fx.wL
    refine List.map_congr_left fun i hi => ?_
    have hi' := List.mem_range.1 hi
    unfold Fx.wv Fx.hN
    rw [rgD _ hi']
    unfold Fx.fz
    rw [(hz i hi').1, (hz i hi').2]
    simp
set_option maxHeartbeats 8000000 in
theorem isettle (w0 : World) (f : Fx) (a : Option Addr) (cap fb zb wb : Nat) (hs : List Bool) (zs : List Int) (w : World) (hok : itsOk f.xs = true) (hst : f.St hs zs) (M : FxM w0 f a cap fb zb wb zs (f.wL hs) 0 w) :
    Calls Try.prog 86 #[.pointer (some ⟨fb, 0, none⟩)] w fun e w' => e = .returned (.tuple #[]) ∧ ∃ ws', FxM w0 f a cap fb zb wb (f.go f.xs.length hs zs 0).1 ws' (f.go f.xs.length hs zs 0).2 w' := by
  have h12 := Fx.n12 hok
  obtain ⟨RES, eR⟩ : ∃ q, q = f.go f.xs.length hs zs 0 := ⟨_, rfl⟩
  have hnf : Fx.nf hs + 0 ≤ f.xs.length := by have := Fx.nf_le hs; rw [hst.1] at this; omega
  have hgo : f.go (f.xs.length - 0) hs zs 0 = RES := by rw [eR]; rfl
  rw [← eR]
  clear eR
  go_enter Try.func86, Try.ntmps86
  go_wp2
  refine wp_scope_jumps 0 (fun a' w' => ∃ (hs : List Bool) (zs : List Int) (p : Nat) (u1 u2 u3 u4 u5 u6 u7 u8 u9 u10 u11 u12 u13 u14 u15 u16 u17 u18 u19 u20 u21 u22 u23 u24 u25 : Value), a' = { tmps := #[.pointer (some ⟨fb, 0, none⟩), u1, u2, u3, u4, u5, u6, u7, u8, u9, u10, u11, u12, u13, u14, u15, u16, u17, u18, u19, u20, u21, u22, u23, u24, u25], defers := [] } ∧ FxM w0 f a cap fb zb wb zs (f.wL hs) p w' ∧ f.St hs zs ∧ Fx.nf hs + p ≤ f.xs.length ∧ f.go (f.xs.length - p) hs zs p = RES) (fun _ w' => f.xs.length + 1 - (intOf ((w'.cell? ⟨fb, 6, none⟩).getD undef)).toNat) rfl ?_ ?_
  · obtain ⟨p, ep⟩ : ∃ p : Nat, p = 0 := ⟨_, rfl⟩
    rw [← ep] at M hnf hgo
    clear ep
    go_wp2
    go_step3
    have ks := isum_any (some ⟨wb, 0, none⟩) f.xs.length f.xs.length (f.wL hs) w (M.ints_w (Fx.ws_all hok)) (by omega)
    rw [show wrap64 (wsum (f.wL hs) f.xs.length) = f.al hs from IntWalk.wrap64_in _ (by have := Fx.al_in (hs := hs) hok; unfold Fx.al at this; omega)] at ks
    have hal := Fx.al_zero hok hst
    obtain ⟨A, eA⟩ : ∃ q, q = f.al hs := ⟨_, rfl⟩
    rw [← eA] at ks hal
    clear eA
    have HM := Lib.hid M
    have HST := Lib.hid hst
    have HGO := Lib.hid hgo
    obtain ⟨_, _, _, _, _, c5, c6⟩ := M.cells
    clear M hst hgo
    cases hall : hs.all id with
    | true =>
      have hA : A = 0 := hal.2 hall
      subst hA
      have HF := Lib.hid (show (zs, p) = RES by rw [← HGO.out]; exact (Fx.go_end _ _ hall).symm)
      clear hal hall
      go_wp2_with (fail)
      refine ks.mono ?_
      rintro e w1 ⟨rfl, rfl⟩
      clear ks
      go_wp2
      simp only [Exit.jump]
      refine bodyPost_ret (results_none rfl _ _ _) rfl ?_
      exact ⟨rfl, _, by rw [← HF.out]; exact HM.out⟩
    | false =>
      have hA : ¬ A = 0 := fun h => by have := hal.1 h; rw [hall] at this; cases this
      have hnp := Fx.nf_pos HST.out hall
      have hm : f.xs.length - p = (f.xs.length - (p + 1)) + 1 := by omega
      have HALL := Lib.hid hall
      have HGO2 := Lib.hid (show f.go ((f.xs.length - (p + 1)) + 1) hs zs p = RES by rw [← hm]; exact HGO.out)
      have hwp : IntKind.i64.wrap ((p : Int) + 1) = (p : Int) + 1 := IntWalk.i64_in _ (by omega)
      obtain ⟨fz6, M1'⟩ := HM.out.putP
      obtain ⟨v1, ev1⟩ : ∃ q, q = w.setCell ⟨fb, 6, none⟩ (.int .i64 ((p : Int) + 1)) := ⟨_, rfl⟩
      have M1 : FxM w0 f a cap fb zb wb zs (f.wL hs) (p + 1) v1 := ev1 ▸ M1'
      have EV1 := Lib.hid ev1
      have HM1 := Lib.hid M1
      have HP := Lib.hid (show (w.cell? ⟨fb, 6, none⟩) = some (.int .i64 p) from c6)
      clear hal hall M1' ev1 M1 hm hnp HGO
      go_wp2_with (fail)
      refine ks.mono ?_
      rintro e w1 ⟨rfl, rfl⟩
      clear ks
      go_wp2_with (rw [← EV1.out])
      refine (ispace w0 f a cap fb zb wb hs zs (f.wL hs) (p + 1) v1 hok HST.out HM1.out).mono ?_
      rintro e w2 ⟨rfl, b2⟩
      have HM2 := Lib.hid (HM1.out.below b2)
      clear b2 c5 c6 fz6
      obtain ⟨sp, esp⟩ : ∃ q, q = f.fr zs := ⟨_, rfl⟩
      have kv := iviol w0 f a cap fb zb wb hs zs (p + 1) w2 hok HST.out HM2.out
      have kf := fun W M => ifsh w0 f a cap fb zb wb hs zs (p + 1) W hok HST.out M
      rw [← esp] at kv kf ⊢
      clear esp
      go_wp2_with (fail)
      refine kv.mono ?_
      rintro e w3 ⟨rfl, r3, b3⟩
      have M3 := HM2.out.below b3
      have kx := ifv w0 f a cap fb zb wb w2.heap.size w2.heap.size hs zs (p + 1) w3 hok HST.out M3 r3 (by have := hp_lt HM2.out.blk; omega) (by have := HM2.out.zlt.2; omega) (by have := HM2.out.wlt.2; omega)
      clear kv b3 M3 r3
      obtain ⟨fo, efo⟩ : ∃ q, q = f.fo hs zs := ⟨_, rfl⟩
      rw [← efo] at kx
      have EFO := Lib.hid efo
      clear efo
      dsimp only
      go_wp2_with (fail)
      refine kx.mono ?_
      rintro e w4 ⟨rfl, M4⟩
      have HM4 := Lib.hid M4
      clear kx M4
      cases fo with
      | true =>
        have HST4 := Lib.hid (Fx.stN hok HST.out)
        have HNF := Lib.hid (Fx.nf_N hok HST.out EFO.out.symm)
        have HGO4 := Lib.hid ((Fx.go_next p HALL.out EFO.out.symm).symm.trans HGO2.out)
        have HC := Lib.hid (HM4.out.cells.2.2.2.2.2.2)
        clear kf
        dsimp only
        go_wp2
        go_step3
        refine ⟨rfl, f.hN hs zs, f.zN hs zs, p + 1, _, _, _, _, _, _, _, _, _, _, _, _, _, _, _, _, _, _, _, _, _, _, _, _, _, rfl, HM4.out, HST4.out, by have := HNF.out; omega, HGO4.out⟩
      | false =>
        have HNO := Lib.hid (Fx.none hok HST.out EFO.out.symm)
        have HF := Lib.hid ((Fx.go_last p HALL.out EFO.out.symm).symm.trans HGO2.out)
        have M5 : FxM w0 f a cap fb zb wb zs (f.wL hs) (p + 1) w4 := by have h := HM4.out; rw [HNO.out.1, HNO.out.2] at h; exact h
        have k5 := kf w4 M5
        clear kf M5
        dsimp only
        go_wp2_with (fail)
        refine k5.mono ?_
        rintro e w5 ⟨rfl, ws5, M5⟩
        have HM5 := Lib.hid M5
        clear k5 M5
        go_wp2
        simp only [Exit.jump]
        refine bodyPost_end (results_none rfl _ _ _) rfl ?_
        exact ⟨rfl, _, by rw [← HF.out]; exact HM5.out⟩
  · rintro a' w' ⟨hs, zs, p, u1, u2, u3, u4, u5, u6, u7, u8, u9, u10, u11, u12, u13, u14, u15, u16, u17, u18, u19, u20, u21, u22, u23, u24, u25, rfl, M, hst, hnf, hgo⟩
    rename_i hs0 zs0 wX hst0 M0
    obtain ⟨w, rfl⟩ : ∃ q, q = w' := ⟨_, rfl⟩
    have ks := isum_any (some ⟨wb, 0, none⟩) f.xs.length f.xs.length (f.wL hs) w (M.ints_w (Fx.ws_all hok)) (by omega)
    rw [show wrap64 (wsum (f.wL hs) f.xs.length) = f.al hs from IntWalk.wrap64_in _ (by have := Fx.al_in (hs := hs) hok; unfold Fx.al at this; omega)] at ks
    have hal := Fx.al_zero hok hst
    obtain ⟨A, eA⟩ : ∃ q, q = f.al hs := ⟨_, rfl⟩
    rw [← eA] at ks hal
    clear eA
    have HM := Lib.hid M
    have HST := Lib.hid hst
    have HGO := Lib.hid hgo
    obtain ⟨_, _, _, _, _, c5, c6⟩ := M.cells
    clear M hst hgo
    cases hall : hs.all id with
    | true =>
      have hA : A = 0 := hal.2 hall
      subst hA
      have HF := Lib.hid (show (zs, p) = RES by rw [← HGO.out]; exact (Fx.go_end _ _ hall).symm)
      clear hal hall
      go_wp2_with (fail)
      refine ks.mono ?_
      rintro e w1 ⟨rfl, rfl⟩
      clear ks
      go_wp2
      simp only [Exit.jump]
      refine bodyPost_ret (results_none rfl _ _ _) rfl ?_
      exact ⟨rfl, _, by rw [← HF.out]; exact HM.out⟩
    | false =>
      have hA : ¬ A = 0 := fun h => by have := hal.1 h; rw [hall] at this; cases this
      have hnp := Fx.nf_pos HST.out hall
      have hm : f.xs.length - p = (f.xs.length - (p + 1)) + 1 := by omega
      have HALL := Lib.hid hall
      have HGO2 := Lib.hid (show f.go ((f.xs.length - (p + 1)) + 1) hs zs p = RES by rw [← hm]; exact HGO.out)
      have hwp : IntKind.i64.wrap ((p : Int) + 1) = (p : Int) + 1 := IntWalk.i64_in _ (by omega)
      obtain ⟨fz6, M1'⟩ := HM.out.putP
      obtain ⟨v1, ev1⟩ : ∃ q, q = w.setCell ⟨fb, 6, none⟩ (.int .i64 ((p : Int) + 1)) := ⟨_, rfl⟩
      have M1 : FxM w0 f a cap fb zb wb zs (f.wL hs) (p + 1) v1 := ev1 ▸ M1'
      have EV1 := Lib.hid ev1
      have HM1 := Lib.hid M1
      have HP := Lib.hid (show (w.cell? ⟨fb, 6, none⟩) = some (.int .i64 p) from c6)
      clear hal hall M1' ev1 M1 hm hnp HGO
      go_wp2_with (fail)
      refine ks.mono ?_
      rintro e w1 ⟨rfl, rfl⟩
      clear ks
      go_wp2_with (rw [← EV1.out])
      refine (ispace w0 f a cap fb zb wb hs zs (f.wL hs) (p + 1) v1 hok HST.out HM1.out).mono ?_
      rintro e w2 ⟨rfl, b2⟩
      have HM2 := Lib.hid (HM1.out.below b2)
      clear b2 c5 c6 fz6
      obtain ⟨sp, esp⟩ : ∃ q, q = f.fr zs := ⟨_, rfl⟩
      have kv := iviol w0 f a cap fb zb wb hs zs (p + 1) w2 hok HST.out HM2.out
      have kf := fun W M => ifsh w0 f a cap fb zb wb hs zs (p + 1) W hok HST.out M
      rw [← esp] at kv kf ⊢
      clear esp
      go_wp2_with (fail)
      refine kv.mono ?_
      rintro e w3 ⟨rfl, r3, b3⟩
      have M3 := HM2.out.below b3
      have kx := ifv w0 f a cap fb zb wb w2.heap.size w2.heap.size hs zs (p + 1) w3 hok HST.out M3 r3 (by have := hp_lt HM2.out.blk; omega) (by have := HM2.out.zlt.2; omega) (by have := HM2.out.wlt.2; omega)
      clear kv b3 M3 r3
      obtain ⟨fo, efo⟩ : ∃ q, q = f.fo hs zs := ⟨_, rfl⟩
      rw [← efo] at kx
      have EFO := Lib.hid efo
      clear efo
      dsimp only
      go_wp2_with (fail)
      refine kx.mono ?_
      rintro e w4 ⟨rfl, M4⟩
      have HM4 := Lib.hid M4
      clear kx M4
      cases fo with
      | true =>
        have HST4 := Lib.hid (Fx.stN hok HST.out)
        have HNF := Lib.hid (Fx.nf_N hok HST.out EFO.out.symm)
        have HGO4 := Lib.hid ((Fx.go_next p HALL.out EFO.out.symm).symm.trans HGO2.out)
        have HC := Lib.hid (HM4.out.cells.2.2.2.2.2.2)
        clear kf
        dsimp only
        go_wp2
        go_step3
        refine ⟨rfl, ⟨f.hN hs zs, f.zN hs zs, p + 1, _, _, _, _, _, _, _, _, _, _, _, _, _, _, _, _, _, _, _, _, _, _, _, _, _, rfl, HM4.out, HST4.out, by have := HNF.out; omega, HGO4.out⟩, ?_⟩
        rw [HC.out, HP.out]
        simp [intOf]
        omega
      | false =>
        have HNO := Lib.hid (Fx.none hok HST.out EFO.out.symm)
        have HF := Lib.hid ((Fx.go_last p HALL.out EFO.out.symm).symm.trans HGO2.out)
        have M5 : FxM w0 f a cap fb zb wb zs (f.wL hs) (p + 1) w4 := by have h := HM4.out; rw [HNO.out.1, HNO.out.2] at h; exact h
        have k5 := kf w4 M5
        clear kf M5
        dsimp only
        go_wp2_with (fail)
        refine k5.mono ?_
        rintro e w5 ⟨rfl, ws5, M5⟩
        have HM5 := Lib.hid M5
        clear k5 M5
        go_wp2
        simp only [Exit.jump]
        refine bodyPost_end (results_none rfl _ _ _) rfl ?_
        exact ⟨rfl, _, by rw [← HF.out]; exact HM5.out⟩
end Go.Proofs.Ytopfiogmbnfjcaa
end

import Derived.BigQuiet
import Derived.Lib.QuietBelow
import Derived.Test.YtnncdpkmhpjmbaaZmAC
import Derived.Test.YtnncdpkmhpjmbaaZmAE
import Derived.Test.YtnncdpkmhpjmbaaZmAT
import Derived.Test.YtnncdpkmhpjmbaaZmBK
import Derived.Test.YtnncdpkmhpjmbaaZmBW
section
namespace Go.Proofs.Ytnncdpkmhpjmbaa.fnAlong
open Go.ChangeShapes Go.WideShapes Go.ChangeAt Go.RowKit
set_option linter.unusedVariables false
set_option linter.unusedSimpArgs false
set_option maxRecDepth 20000

set_option maxRecDepth 100000 in
set_option maxHeartbeats 64000000 in
theorem walk (a : Option Addr) (len cap : Nat) (w : World) (hl : len ≤ 1048576) (hc : Code w a len) :
    Calls Try.prog 8 #[.slice a len cap] w fun e w' => e = .returned (.bool true) ∧ Below w.heap.size w w' := by
  go_enter Try.func8, Try.ntmps8
  go_wp2_with (first | (go_at_call 27; refine (draw_placesalong a len cap w hl hc).mono ?_; rintro e w1 ⟨v1, xs, u1, zs, gap, inner, js, rfl, hxl, hx, hrx, hza, hzl, hrz, hgap, hin, hjs, b1⟩) | (go_at_call 12; go_in))
  obtain ⟨ax, cx, rfl, hz⟩ := hrx.slice hx
  obtain ⟨az, cz, rfl, hs⟩ := hrz.slice hza
  have HZ1 := Lib.hid hz
  have HS1 := Lib.hid hs
  have B1 := Lib.hid b1
  have hll := plV_len xs zs gap inner js
  have HALL := Lib.hid (plV_all xs zs gap inner js)
  have HOK := Lib.hid (fun h => plV_ok (xs := xs) (zs := zs) (gap := gap) (inner := inner) (js := js) h)
  have HN := Lib.hid (fun h => plV_n (xs := xs) (zs := zs) (gap := gap) (inner := inner) (js := js) h)
  have HSTEP := Lib.hid (fun h i hi => pl_step (xs := xs) (zs := zs) (gap := gap) (inner := inner) (js := js) h (i := i) hi)
  have HAT := Lib.hid (fun h i hi => plV_at (xs := xs) (zs := zs) (gap := gap) (inner := inner) (js := js) h (i := i) hi)
  have KI := Lib.hid (fun w' (h : Below w1.heap.size w1 w') => iplaces_along ax cx xs az zs.length cz zs gap inner js w' (HZ1.out.below h) (by omega) (HS1.out.below h) (by omega))
  have KE := Lib.hid (fun w' (h : Below w1.heap.size w1 w') => iends_along ax cx xs az zs.length cz zs gap inner js w' (HZ1.out.below h) (by omega) (HS1.out.below h) (by omega))
  have KSI := Lib.hid (fun w' (h : Below w1.heap.size w1 w') => splaces_along ax cx xs az zs.length cz zs gap inner js w' (HZ1.out.below h) (by omega) (HS1.out.below h) (by omega))
  have KSE := Lib.hid (fun w' (h : Below w1.heap.size w1 w') => sends_along ax cx xs az zs.length cz zs gap inner js w' (HZ1.out.below h) (by omega) (HS1.out.below h) (by omega))
  have KFR := Lib.hid (fun w' (h : Below w1.heap.size w1 w') => sfree15 ax cx xs az zs.length cz zs gap inner w' (HZ1.out.below h) (by omega) (HS1.out.below h) (by omega))
  have KAU := Lib.hid (fun w' (h : Below w1.heap.size w1 w') => sautos ax cx xs w' (HZ1.out.below h) (by omega))
  have HE1 := Lib.hid (fun h hn h0 h1 ha => ed_end (xs := xs) (zs := zs) (gap := gap) (inner := inner) h hn h0 h1 ha)
  have HE2 := Lib.hid (fun h hn h0 h1 ha => ed_between (xs := xs) (zs := zs) (gap := gap) (inner := inner) h hn h0 h1 ha)
  have HE3 := Lib.hid (fun h h0 h1 ha => ed_autos (xs := xs) (zs := zs) (gap := gap) (inner := inner) (js := js) h h0 h1 ha)
  obtain ⟨PS, ePS⟩ : ∃ q, q = plV xs zs gap inner js := ⟨_, rfl⟩
  rw [← ePS] at hll HALL HOK HN HSTEP HAT KI KSI
  obtain ⟨ED, eED⟩ : ∃ q, q = edA xs zs gap inner js := ⟨_, rfl⟩
  rw [← eED] at KE KSE HE3
  have EED := Lib.hid eED
  obtain ⟨FR, eFR⟩ : ∃ q, q = frA xs zs gap inner := ⟨_, rfl⟩
  rw [← eFR] at KFR HE1 HE2 HE3
  clear hc hrx hx hrz hza hz hs b1 ePS eED eFR hgap hin hjs
  (try dsimp only)
  go_wp2_with (fail)
  refine (KI.out w1 (Below.refl _ _)).mono ?_
  rintro e w2 ⟨v2, rfl, r2, b2⟩
  have R2 := Lib.hid r2
  have C2 := Lib.hid b2
  clear r2 b2
  (try dsimp only)
  go_wp2_with (fail)
  refine (KE.out w2 C2.out).mono ?_
  rintro e w3 ⟨rfl, b3⟩
  have R3 := Lib.hid (R2.out.below b3)
  have C3 := Lib.hid (C2.out.trans (b3.mono C2.out.size))
  clear b3 R2 C2 KE KI
  (try dsimp only)
  go_wp2_with (fail)
  refine (KSI.out w3 C3.out).mono ?_
  rintro e w4 ⟨v4, rfl, r4, b4⟩
  have R4 := Lib.hid (R3.out.below b4)
  have S4 := Lib.hid r4
  have C4 := Lib.hid (C3.out.trans (b4.mono C3.out.size))
  clear b4 r4 R3 C3 KSI
  (try dsimp only)
  go_wp2_with (fail)
  refine (sameR_any _ _ v2 v4 PS w4 HALL.out (by omega) R4.out S4.out).mono ?_
  rintro e w5 ⟨rfl, b5⟩
  have R5 := Lib.hid (R4.out.below b5)
  have C5 := Lib.hid (C4.out.trans (b5.mono C4.out.size))
  clear b5 R4 S4 C4
  (try dsimp only)
  go_wp2_with (fail)
  refine (KSE.out w5 C5.out).mono ?_
  rintro e w6 ⟨rfl, b6⟩
  have R6 := Lib.hid (R5.out.below b6)
  have C6 := Lib.hid (C5.out.trans (b6.mono C5.out.size))
  clear b6 R5 C5 KSE
  obtain ⟨ap, cp, rfl, hip⟩ := R6.out.slice HALL.out
  have HIP6 := Lib.hid hip
  clear hip
  have h1 := hp_new w6 (.cells #[.int .i64 20, .int .i64 0, .int .i64 (-1), .int .i64 0, .int .i64 0, .int .i64 0, .int .i64 0, .bool false, .bool false] 40)
  have RG := Lib.hid (show (w6.alloc (.cells #[.int .i64 20, .int .i64 0, .int .i64 (-1), .int .i64 0, .int .i64 0, .int .i64 0, .int .i64 0, .bool false, .bool false] 40)).rangeAt w6.heap.size 0 (⟨20, 0, -1, 0, 0, 0, 0, false, false⟩ : It).L from range_block h1)
  have bv : Below w6.heap.size w6 (w6.alloc (.cells #[.int .i64 20, .int .i64 0, .int .i64 (-1), .int .i64 0, .int .i64 0, .int .i64 0, .int .i64 0, .bool false, .bool false] 40)) := (Below.refl _ _).alloc (Nat.le_refl _) _
  obtain ⟨x7, ex7⟩ : ∃ q, q = w6.alloc (.cells #[.int .i64 20, .int .i64 0, .int .i64 (-1), .int .i64 0, .int .i64 0, .int .i64 0, .int .i64 0, .bool false, .bool false] 40) := ⟨_, rfl⟩
  rw [← ex7] at RG bv
  have EX7 := Lib.hid ex7
  have hl8 := lit_its x7 [(⟨20, 0, -1, 0, 0, 0, 0, false, false⟩ : It), (⟨20, 0, -1, 0, 0, 0, 0, false, false⟩ : It)] 40 (by intro x hx; simp at hx; subst hx; simp only [It.inr, I64]; omega)
  have hb8 : Below x7.heap.size x7 (x7.alloc (.cells (cellsI [(⟨20, 0, -1, 0, 0, 0, 0, false, false⟩ : It), (⟨20, 0, -1, 0, 0, 0, 0, false, false⟩ : It)]).toArray 40)) := (Below.refl _ _).alloc (Nat.le_refl _) _
  obtain ⟨x8, ex8⟩ : ∃ q, q = x7.alloc (.cells (cellsI [(⟨20, 0, -1, 0, 0, 0, 0, false, false⟩ : It), (⟨20, 0, -1, 0, 0, 0, 0, false, false⟩ : It)]).toArray 40) := ⟨_, rfl⟩
  have hx8s : x8.heap.size = x7.heap.size + 1 := by rw [ex8]; simp
  rw [← ex8] at hl8 hb8
  have hr9 : RowI x8.heap.size (.slice (some ⟨x8.heap.size, 0, none⟩) 2 2) [20, 20] (x8.alloc (.cells #[.int .i64 20, .int .i64 20] 3)) := World.ownsRow_lit x8 #[.int .i64 20, .int .i64 20] 2 (Nat.le_refl _) (by unfold maxLen; omega) rfl
  have hb9 : Below x8.heap.size x8 (x8.alloc (.cells #[.int .i64 20, .int .i64 20] 3)) := (Below.refl _ _).alloc (Nat.le_refl _) _
  have kmid := iplaces_along _ 2 [(⟨20, 0, -1, 0, 0, 0, 0, false, false⟩ : It), (⟨20, 0, -1, 0, 0, 0, 0, false, false⟩ : It)] _ 2 2 [20, 20] 0 100 4 (x8.alloc (.cells #[.int .i64 20, .int .i64 20] 3)) (hl8.below hb9) (by decide) (hr9.ints rfl (by intro z hz; simp at hz; omega)) (by decide)
  rw [pl_mid] at kmid
  rw [show (Value.slice (some ⟨x8.heap.size, 0, none⟩) 2 2) = Value.slice (some ⟨x7.heap.size + 1, 0, none⟩) 2 2 by rw [hx8s]] at kmid
  have KMID := Lib.hid kmid
  have EX8 := Lib.hid ex8
  have C9 := Lib.hid (C6.out.trans ((bv.trans ((hb8.trans (hb9.mono hb8.size)).mono bv.size)).mono C6.out.size))
  have HIP9 := Lib.hid (HIP6.out.below (bv.trans ((hb8.trans (hb9.mono hb8.size)).mono bv.size)))
  clear h1 bv ex7 hl8 hb8 ex8 hr9 hb9 kmid R6 C6 HIP6
  (try dsimp only)
  go_wp2_with (first | (rw [← EX7.out]) | ((with_reducible apply list_load_it (x := (⟨20, 0, -1, 0, 0, 0, 0, false, false⟩ : It))); exact rfl; exact rfl; exact rfl; (with_reducible exact RG.out); simp only [World.size_alloc, Act.put, List.setIfInBounds_toArray, List.set_cons_succ, List.set_cons_zero]) | fail)
  obtain rfl := EX8.out
  refine KMID.out.mono ?_
  rintro e w10 ⟨v9, rfl, r9, b9⟩
  have M0 := Lib.hid r9
  have C10 := Lib.hid (C9.out.trans (b9.mono C9.out.size))
  have HIP10 := Lib.hid (HIP9.out.below b9)
  clear r9 b9 KMID HIP9 RG EX7 EX8 C9
  by_cases h0 : (PS.length : Int) = 0
  · have hrA : RowI w10.heap.size (.slice (some ⟨w10.heap.size, 0, none⟩) 2 2) [0, 80] (w10.alloc (.cells #[.int .i64 0, .int .i64 80] 3)) := World.ownsRow_lit w10 #[.int .i64 0, .int .i64 80] 2 (Nat.le_refl _) (by unfold maxLen; omega) rfl
    have hbA : Below w10.heap.size w10 (w10.alloc (.cells #[.int .i64 0, .int .i64 80] 3)) := (Below.refl _ _).alloc (Nat.le_refl _) _
    have KS := Lib.hid (sameR_any _ _ v9 _ [0, 80] _ (by intro z hz; simp at hz; omega) (by decide) (M0.out.below hbA) hrA)
    have CA := Lib.hid (C10.out.trans (hbA.mono C10.out.size))
    clear hrA hbA M0 C10
    (try dsimp only)
    go_wp2_with (fail)
    refine KS.out.mono ?_
    rintro e wB ⟨rfl, bB⟩
    have CB := Lib.hid (B1.out.trans ((CA.out.trans (bB.mono CA.out.size)).mono B1.out.size))
    clear KS bB CA
    (try dsimp only)
    go_wp2
    go_ret
    exact ⟨rfl, CB.out⟩
  · have hpos : 0 < PS.length := by omega
    have hok := HOK.out hpos
    have hn := HN.out hok
    have hF := al_of hok
    have HF := Lib.hid hF
    have hn12 := hF.n12
    have hgp := hF.gap
    have HNN := Lib.hid hn
    have HOK2 := Lib.hid hok
    clear hok hF hn
    (try dsimp only)
    go_wp2_with (fail)
    refine (KFR.out w10 C10.out).mono ?_
    rintro e w11 ⟨rfl, b11⟩
    have M1 := Lib.hid (M0.out.below b11)
    have C11 := Lib.hid (C10.out.trans (b11.mono C10.out.size))
    have HIP11 := Lib.hid (HIP10.out.below b11)
    clear b11 M0 C10 HIP10 KFR
    (try dsimp only)
    go_wp2
    (try rw [show ((PS.length : Int) == 0) = false from beq_eq_false_iff_ne.2 h0])
    go_loopw [13] (fun i wr => ∃ k : Nat, 1 ≤ k ∧ k ≤ PS.length ∧ i = .int .i64 k ∧ Below w11.heap.size w11 wr) (fun i _ => PS.length - (intOf i).toNat)
    case atStart => exact ⟨1, Nat.le_refl _, by omega, rfl, Below.refl _ _⟩
    case round =>
      obtain ⟨k, hk1, hk, rfl, hb⟩ := hrel
      have HB := Lib.hid hb
      by_cases hlt : k < PS.length
      · have hkx : k < xs.length := by have := HNN.out; omega
        have hkz : k < zs.length := by have := HNN.out; have := HF.out.len; omega
        obtain ⟨bp, op, rfl, _, cp1⟩ := (HIP11.out.below hb).look hlt
        obtain ⟨bp', op', ebp, _, cp0⟩ := (HIP11.out.below hb).look (k := k - 1) (by omega)
        injection ebp with ebp
        injection ebp with e1 e2
        subst e1 e2
        obtain ⟨bz, oz, rfl, _, cz0⟩ := ((HS1.out.below C11.out).below hb).look (k := k - 1) (by omega)
        obtain ⟨bx, ox, rfl, _, hrg1⟩ := ((HZ1.out.below C11.out).below hb).look (k := k) hkx
        obtain ⟨bx', ox', ebx, _, hrg0⟩ := ((HZ1.out.below C11.out).below hb).look (k := k - 1) (by omega)
        injection ebx with ebx
        injection ebx with e1 e2
        subst e1 e2
        obtain ⟨c0, c1, c2, c3, c4, q5, c6, c7, c8⟩ := rg_it hrg1
        clear c0 c1 c2 c3 c4 c6 c7 c8
        obtain ⟨c0, c1, c2, c3, c4, c5, q6, c7, c8⟩ := rg_it hrg0
        clear c0 c1 c2 c3 c4 c5 c7 c8 hrg0 hrg1
        have hst := HSTEP.out HOK2.out (k - 1) (by omega)
        rw [show k - 1 + 1 = k by omega] at hst
        have ha1 := HAT.out HOK2.out k hkx
        have ha0 := HAT.out HOK2.out (k - 1) (by omega)
        have hz0 := HF.out.ls (k - 1)
        have hm0 := HF.out.mg (k - 1)
        have hm1 := HF.out.mg k
        have hlo : (0 : Int) ≤ (k : Int) := Int.natCast_nonneg _
        have hhi : (k : Int) < (PS.length : Int) := by omega
        have hx1 : ((k : Int) - 1).toNat = k - 1 := by omega
        have hx2 : (0 : Int) ≤ (k : Int) - 1 := by omega
        have hx3 : (k : Int) - 1 < (PS.length : Int) := by omega
        have hx4 : (k : Int) - 1 < (zs.length : Int) := by omega
        have hx5 : (k : Int) - 1 < (xs.length : Int) := by omega
        have hx6 : (k : Int) < (xs.length : Int) := by omega
        have hk12 : (k : Int) < 12 := by omega
        generalize PS.getD k 0 = PK at *
        generalize PS.getD (k - 1) 0 = PJ at *
        generalize zs.getD (k - 1) 0 = ZJ at *
        generalize itD xs k = xk at *
        generalize itD xs (k - 1) = xj at *
        have hnl : ¬ PK < PJ + ZJ + xj.behind + gap + xk.before := by omega
        have D1 := fun d os => cell_regrown cp1 d os
        have D2 := fun d os => cell_regrown cp0 d os
        have D3 := fun d os => cell_regrown cz0 d os
        have D4 := fun d os => cell_regrown q5 d os
        have D5 := fun d os => cell_regrown q6 d os
        clear cp1 cp0 cz0 q5 q6 hb hst
        go_wp2_with (fail)
        refine wp_region_quiet_below (by kernel_rfl) (by kernel_rfl) ?_
        repeat (go_big_quiet_step (fail))
        refine wpQuiet_nil ?_
        intro _ hw'
        obtain ⟨⟨dq, osq⟩, hw''⟩ := hw'
        subst hw''
        clear D1 D2 D3 D4 D5
        have B7 := Lib.hid (HB.out.trans ((below_regrown wr dq osq).mono HB.out.size))
        (try dsimp only)
        repeat go_step
        go_roundw
        case rel => exact ⟨k + 1, by omega, by omega, by go_num, B7.out⟩
        case measure => simp [intOf]; omega
      · obtain rfl : k = PS.length := by omega
        have M2 := Lib.hid (M1.out.below hb)
        have C12 := Lib.hid (C11.out.trans (hb.mono C11.out.size))
        have K3 := Lib.hid (KAU.out wr C12.out)
        have HA0 := Lib.hid (show (auN xs xs.length : Int) = 0 → auN xs xs.length = 0 from fun h => by omega)
        have HA1 := Lib.hid (show (0 : Int) < (auN xs xs.length : Int) → 0 < auN xs xs.length from fun h => by omega)
        have hA0 : (0 : Int) ≤ (auN xs xs.length : Int) := Int.natCast_nonneg _
        have HE3' := Lib.hid (fun h0 h1 (ha : (0 : Int) < (auN xs xs.length : Int)) => HE3.out HOK2.out h0 h1 (HA1.out ha))
        have HE1' := Lib.hid (fun h0 h1 (ha : (auN xs xs.length : Int) = 0) => HE1.out HOK2.out (show 0 < xs.length by have := HNN.out; omega) h0 h1 (HA0.out ha))
        have HE2' := Lib.hid (fun h2 h0 h1 (ha : (auN xs xs.length : Int) = 0) => HE2.out HOK2.out h2 h0 h1 (HA0.out ha))
        clear hb
        generalize (auN xs xs.length : Int) = A at *
        (try dsimp only)
        go_wp2_with (fail)
        refine K3.out.mono ?_
        rintro e w13 ⟨rfl, b13⟩
        have M3 := M2.out.below b13
        have C13 := C12.out.trans (b13.mono C12.out.size)
        have hrA : RowI w13.heap.size (.slice (some ⟨w13.heap.size, 0, none⟩) 2 2) [0, 80] (w13.alloc (.cells #[.int .i64 0, .int .i64 80] 3)) := World.ownsRow_lit w13 #[.int .i64 0, .int .i64 80] 2 (Nat.le_refl _) (by unfold maxLen; omega) rfl
        have hbA : Below w13.heap.size w13 (w13.alloc (.cells #[.int .i64 0, .int .i64 80] 3)) := (Below.refl _ _).alloc (Nat.le_refl _) _
        have KS := Lib.hid (sameR_any _ _ v9 _ [0, 80] _ (by intro z hz; simp at hz; omega) (by decide) (M3.below hbA) hrA)
        have CA := Lib.hid (C13.trans (hbA.mono C13.size))
        clear hrA hbA M3 C13 b13 M2 C12 K3
        (try dsimp only)
        by_cases s1 : 1048576 < FR
        · as_aux_lemma =>
            go_wp2_with (fail)
            all_goals
              refine KS.out.mono ?_
              rintro e wB ⟨rfl, bB⟩
              have CB := Lib.hid (B1.out.trans ((CA.out.trans (bB.mono CA.out.size)).mono B1.out.size))
              clear KS bB CA
              (try dsimp only)
              go_wp2
              go_ret
              exact ⟨rfl, CB.out⟩
        by_cases s2 : FR < -1048576
        · as_aux_lemma =>
            go_wp2_with (fail)
            all_goals
              refine KS.out.mono ?_
              rintro e wB ⟨rfl, bB⟩
              have CB := Lib.hid (B1.out.trans ((CA.out.trans (bB.mono CA.out.size)).mono B1.out.size))
              clear KS bB CA
              (try dsimp only)
              go_wp2
              go_ret
              exact ⟨rfl, CB.out⟩
        by_cases a0 : A = 0
        · by_cases j2 : js = 2
          · have hE : ED = inner := by rw [EED.out, j2]; exact HE1'.out (by omega) (by omega) a0
            have j4 : ¬ js = 4 := by omega
            by_cases f0 : FR < 0
            · as_aux_lemma =>
                go_wp2_with (fail)
                all_goals
                  refine KS.out.mono ?_
                  rintro e wB ⟨rfl, bB⟩
                  have CB := Lib.hid (B1.out.trans ((CA.out.trans (bB.mono CA.out.size)).mono B1.out.size))
                  clear KS bB CA
                  (try dsimp only)
                  go_wp2
                  go_ret
                  exact ⟨rfl, CB.out⟩
            · as_aux_lemma =>
                go_wp2_with (fail)
                all_goals
                  refine KS.out.mono ?_
                  rintro e wB ⟨rfl, bB⟩
                  have CB := Lib.hid (B1.out.trans ((CA.out.trans (bB.mono CA.out.size)).mono B1.out.size))
                  clear KS bB CA
                  (try dsimp only)
                  go_wp2
                  go_ret
                  exact ⟨rfl, CB.out⟩
          · by_cases j4 : js = 4
            · by_cases f0 : FR < 0
              · as_aux_lemma =>
                  go_wp2_with (fail)
                  all_goals
                  refine KS.out.mono ?_
                  rintro e wB ⟨rfl, bB⟩
                  have CB := Lib.hid (B1.out.trans ((CA.out.trans (bB.mono CA.out.size)).mono B1.out.size))
                  clear KS bB CA
                  (try dsimp only)
                  go_wp2
                  go_ret
                  exact ⟨rfl, CB.out⟩
              · by_cases n2 : (xs.length : Int) < 2
                · as_aux_lemma =>
                    go_wp2_with (fail)
                    all_goals
                    refine KS.out.mono ?_
                    rintro e wB ⟨rfl, bB⟩
                    have CB := Lib.hid (B1.out.trans ((CA.out.trans (bB.mono CA.out.size)).mono B1.out.size))
                    clear KS bB CA
                    (try dsimp only)
                    go_wp2
                    go_ret
                    exact ⟨rfl, CB.out⟩
                · have hE : ED = inner := by rw [EED.out, j4]; exact HE2'.out (by omega) (by omega) (by omega) a0
                  as_aux_lemma =>
                    go_wp2_with (fail)
                    all_goals
                    refine KS.out.mono ?_
                    rintro e wB ⟨rfl, bB⟩
                    have CB := Lib.hid (B1.out.trans ((CA.out.trans (bB.mono CA.out.size)).mono B1.out.size))
                    clear KS bB CA
                    (try dsimp only)
                    go_wp2
                    go_ret
                    exact ⟨rfl, CB.out⟩
            · by_cases f0 : FR < 0
              · as_aux_lemma =>
                  go_wp2_with (fail)
                  all_goals
                    refine KS.out.mono ?_
                    rintro e wB ⟨rfl, bB⟩
                    have CB := Lib.hid (B1.out.trans ((CA.out.trans (bB.mono CA.out.size)).mono B1.out.size))
                    clear KS bB CA
                    (try dsimp only)
                    go_wp2
                    go_ret
                    exact ⟨rfl, CB.out⟩
              · as_aux_lemma =>
                  go_wp2_with (fail)
                  all_goals
                    refine KS.out.mono ?_
                    rintro e wB ⟨rfl, bB⟩
                    have CB := Lib.hid (B1.out.trans ((CA.out.trans (bB.mono CA.out.size)).mono B1.out.size))
                    clear KS bB CA
                    (try dsimp only)
                    go_wp2
                    go_ret
                    exact ⟨rfl, CB.out⟩
        · have a1 : 0 < A := by omega
          by_cases fl : FR ≤ 0
          · as_aux_lemma =>
              go_wp2_with (fail)
              all_goals
                refine KS.out.mono ?_
                rintro e wB ⟨rfl, bB⟩
                have CB := Lib.hid (B1.out.trans ((CA.out.trans (bB.mono CA.out.size)).mono B1.out.size))
                clear KS bB CA
                (try dsimp only)
                go_wp2
                go_ret
                exact ⟨rfl, CB.out⟩
          · have hE : ED = inner := HE3'.out (by omega) (by omega) a1
            as_aux_lemma =>
              go_wp2_with (fail)
              all_goals
                refine KS.out.mono ?_
                rintro e wB ⟨rfl, bB⟩
                have CB := Lib.hid (B1.out.trans ((CA.out.trans (bB.mono CA.out.size)).mono B1.out.size))
                clear KS bB CA
                (try dsimp only)
                go_wp2
                go_ret
                exact ⟨rfl, CB.out⟩

set_option maxRecDepth 100000 in
theorem walk_big (a : Option Addr) (len cap : Nat) (w : World) (hl : 1048576 < len) (hm : len ≤ 9223372036854775807) :
    Calls Try.prog 8 #[.slice a len cap] w fun e w' => e = .returned (.bool true) ∧ Below w.heap.size w w' := by
  go_enter Try.func8, Try.ntmps8
  go_wp2
  go_ret
  exact ⟨rfl, Below.refl _ _⟩

theorem laidOut : laidOutB Try.prog = true := by kernel_rfl

theorem contract (H : Type) (enc : TypeId × Value → H) (W : World) (base : Nat) (args : Array Value) (ds gs : List (DataW H)) (before : List MemPlace)
    (hval : ∀ (j : Nat) t v, Try.f8.params[j]? = some t → args[j]? = some v → Value.okWide Try.prog W .any base t v)
    (hW : DataW.Whole enc Try.prog Try.f8.params.toList Rows.fnAlongSpec.vars false W args.toList ds gs before) :
    Calls Try.prog 8 args W fun e W' => ∃ v, e = .returned v ∧ Rows.fnAlongSpec.post enc Try.prog Try.f8 false true false false W args v W' := by
  have hW' := hW
  obtain ⟨p, q, hA0, hV, rfl, hfz, hnd⟩ := hW
  have hA : DataW.TrodAll enc Try.prog W 0 (fun _ => true) true Try.f8.params.toList args.toList ds p := hA0
  rw [Try.params8] at hA hval
  obtain ⟨v0, vs0, d0, ds0, p0, q0, hargs, rfl, rfl, h0, r0⟩ := trodAll_cons hA
  obtain ⟨rfl, rfl, rfl⟩ := trodAll_nil r0
  obtain rfl : args = #[v0] := by cases args; simp_all
  obtain ⟨rfl, rfl⟩ := trodVars_none hV
  obtain ⟨a, len, cap, rfl⟩ := okWide_slice Try.underlying22 (hval 0 22 v0 rfl rfl)
  have lt0 : ∀ x ∈ p0, x.block < W.heap.size := by obtain ⟨m, hm⟩ := h0; exact DataW.trod_lt m _ _ _ hm
  obtain ⟨hc, hm⟩ := code_of h0
  have all : Calls Try.prog 8 #[.slice a len cap] W fun e w' => e = .returned (.bool true) ∧ Below W.heap.size W w' := by
    by_cases hl : len ≤ 1048576
    · exact walk a len cap W hl hc
    · exact walk_big a len cap W (by omega) hm
  refine all.mono fun e W' ⟨he, bel⟩ => ?_
  subst he
  exact ⟨_, rfl, law_post (pa := _) (pv := []) hW' (trodAll_cons_mk (shut_bool Try.underlying4 _) trodAll_mk0) (trodAll_cons_mk (Below.trod laidOut (by kernel_rfl) (of_decide_eq_true (by kernel_rfl)) h0 bel lt0) trodAll_mk0) rfl rfl bel⟩


set_option maxRecDepth 100000 in
theorem lifted (os : Os) (started : os.Started) (H : Type) (enc : TypeId × Value → H) :
    ReturnsInHanded {} Try.checked os 8 .any (Rows.fnAlongSpec.pre6 enc Try.prog Try.f8 Rows.fnAlongRow.domain false) (Rows.fnAlongSpec.post enc Try.prog Try.f8 false true false false) := by
  refine returnsInHanded_of_change (C := Try.checked) own started (by kernel_rfl) Try.func8
    (ChangeSpec.witness6 (enc := enc) (C := Try.checked) false ⟨#[], #[.slice none 0 0], []⟩ 8 (by kernel_rfl) (by kernel_rfl) (by kernel_rfl) (by kernel_rfl)) ?_
  intro W base args ds gs before hval hW _ _
  exact contract H enc W base args ds gs before hval hW

/-- The given statement. -/
theorem proved : Rows.FnAlongSaid :=
  OpenClaim.holds_of_wide 8 Try.f8 rfl rfl rfl rfl rfl rfl rfl ⟨rfl, rfl, rfl, rfl, rfl⟩ rfl rfl rfl rfl rfl (by kernel_rfl) Try.func8 (by kernel_rfl)
    (of_decide_eq_true (by kernel_rfl)) (by unfold Func.isWrapper; first | (rw [if_pos (by decide +kernel)]; kernel_rfl) | (rw [if_neg (by decide +kernel)]; exact ⟨rfl, rfl⟩))
    (fun os started H enc _ => lifted os started H enc)
#print axioms proved
end Go.Proofs.Ytnncdpkmhpjmbaa.fnAlong
end

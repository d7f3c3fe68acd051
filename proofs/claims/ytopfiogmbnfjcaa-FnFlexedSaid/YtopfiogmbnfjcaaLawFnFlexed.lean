/-
  For every code of bytes, laws.FnFlexed returns true: the sizes are the model's, so are the passes, no size violates its limits, at most as many passes as items plus 1; the code reads as before. Conditions: none.
-/
import Derived.Test.YtopfiogmbnfjcaaCodeIn
import Derived.Test.YtopfiogmbnfjcaaItF
import Derived.Test.YtopfiogmbnfjcaaSxL
import Derived.Test.YtopfiogmbnfjcaaFxQ
import Derived.Test.YtopfiogmbnfjcaaFxR
import Derived.Test.YtopfiogmbnfjcaaSame
import Derived.BigQuiet
import Derived.Lib.QuietBelow
namespace Go.Proofs.Ytopfiogmbnfjcaa.fnFlexed
open Go.ChangeShapes Go.WideShapes Go.ChangeAt Go.RowKit
set_option linter.unusedVariables false
set_option linter.unusedSimpArgs false
set_option maxRecDepth 20000

set_option maxRecDepth 100000 in
set_option maxHeartbeats 8000000 in
theorem walk (a : Option Addr) (len cap : Nat) (w : World) (hl : len ≤ 1048576) (hc : Code w a len) :
    Calls Try.prog 3 #[.slice a len cap] w fun e w' => e = .returned (.bool true) ∧ Below w.heap.size w w' := by
  go_enter Try.func3, Try.ntmps3
  go_wp2_with (first | (go_at_call 16; refine (draw_flexline a len cap w hl hc).mono ?_; rintro e w1 ⟨v1, xs, gap, inner, rfl, hxl, hx, hr1, hgap, hin, b1⟩) | (go_at_call 15; go_in))
  have HXI := Lib.hid (fun x hm => (hx x hm).inr : ∀ x ∈ xs, x.inr)
  obtain ⟨az, cz, rfl, hz1⟩ := hr1.slice HXI.out
  have HZ1 := Lib.hid hz1
  have B1 := Lib.hid b1
  have hg0 := hgap.1
  have hg1 := hgap.2
  have hi0 := hin.1
  have hi1 := hin.2
  have hflen := fxV_len xs gap inner
  have hfpass := fxV_pass xs gap inner
  have HFA := Lib.hid (fxV_all gap inner HXI.out)
  have HFO := Lib.hid (fun (h : flOk xs gap inner = true) => (fxV_fit h).1)
  have HFB := Lib.hid (fun (h : flOk xs gap inner = false) => fxV_bad h)
  clear hz1 hr1 b1 hc hx hgap hin
  have kk := iflexline az cz xs gap inner w1 HZ1.out (by omega)
  have kp := fun W (hb : Below w1.heap.size w1 W) => iflexpasses az cz xs gap inner W (HZ1.out.below hb) (by omega)
  have ks := fun W (hb : Below w1.heap.size w1 W) => sflexline az cz xs gap inner W (HZ1.out.below hb) (by omega)
  have kq := fun W (hb : Below w1.heap.size w1 W) => sflexpasses az cz xs gap inner W (HZ1.out.below hb) (by omega)
  obtain ⟨ZS, ezs⟩ : ∃ q, q = (fxV xs gap inner).1 := ⟨_, rfl⟩
  obtain ⟨NP, enp⟩ : ∃ q, q = (fxV xs gap inner).2 := ⟨_, rfl⟩
  rw [← ezs] at kk ks hflen HFA
  rw [← enp] at kp kq hfpass
  have EZS := Lib.hid ezs
  have ENP := Lib.hid enp
  have KP := Lib.hid kp
  have KS := Lib.hid ks
  have KQ := Lib.hid kq
  clear ezs enp kp ks kq
  have HLEN := Lib.hid hflen
  clear hflen
  (try dsimp only)
  go_wp2_with (fail)
  refine kk.mono ?_
  rintro e w2 ⟨v2, rfl, r2, b2⟩
  have HR2 := Lib.hid r2
  have U2 := Lib.hid b2
  have B2 := Lib.hid (B1.out.trans (b2.mono B1.out.size))
  clear kk r2 b2
  (try dsimp only)
  go_wp2_with (fail)
  refine (KP.out w2 U2.out).mono ?_
  rintro e w3 ⟨rfl, b3⟩
  have HR3 := Lib.hid (HR2.out.below b3)
  have U3 := Lib.hid (U2.out.trans (b3.mono U2.out.size))
  have B3 := Lib.hid (B2.out.trans (b3.mono B2.out.size))
  clear HR2 U2 B2 b3
  (try dsimp only)
  go_wp2_with (fail)
  refine (KS.out w3 U3.out).mono ?_
  rintro e w4 ⟨v4, rfl, r4, b4⟩
  have HR4 := Lib.hid (HR3.out.below b4)
  have HS4 := Lib.hid r4
  have U4 := Lib.hid (U3.out.trans (b4.mono U3.out.size))
  have B4 := Lib.hid (B3.out.trans (b4.mono B3.out.size))
  clear HR3 U3 B3 b4 r4
  (try dsimp only)
  go_wp2_with (fail)
  refine (sameR_any _ _ _ _ ZS w4 HFA.out (by rw [HLEN.out]; omega) HR4.out HS4.out).mono ?_
  rintro e w5 ⟨rfl, b5⟩
  have HR5 := Lib.hid (HR4.out.below b5)
  have U5 := Lib.hid (U4.out.trans (b5.mono U4.out.size))
  have B5 := Lib.hid (B4.out.trans (b5.mono B4.out.size))
  clear HR4 HS4 U4 B4 b5
  (try dsimp only)
  go_wp2_with (fail)
  refine (KQ.out w5 U5.out).mono ?_
  rintro e w6 ⟨rfl, b6⟩
  have HR6 := Lib.hid (HR5.out.below b6)
  have U6 := Lib.hid (U5.out.trans (b6.mono U5.out.size))
  have B6 := Lib.hid (B5.out.trans (b6.mono B5.out.size))
  clear HR5 U5 B5 b6
  (try dsimp only)
  go_wp2_with (fail)
  refine (iitsok az cz xs w6 (HZ1.out.below U6.out) (by omega)).mono ?_
  rintro e w7 ⟨rfl, b7⟩
  have HR7 := Lib.hid (HR6.out.below b7)
  have U7 := Lib.hid (U6.out.trans (b7.mono U6.out.size))
  have B7 := Lib.hid (B6.out.trans (b7.mono B6.out.size))
  clear HR6 U6 B6 b7
  have kso := fun W (hb : Below w1.heap.size w1 W) => sitsok az cz xs W (HZ1.out.below hb) (by omega)
  have hfl : flOk xs gap inner = (itsOk xs && rnB gap 0 1048576 && rnB inner 0 1048576) := rfl
  obtain ⟨ok, eok⟩ : ∃ q, q = itsOk xs := ⟨_, rfl⟩
  rw [← eok] at kso hfl ⊢
  have KSO := Lib.hid kso
  have HFL := Lib.hid hfl
  clear kso hfl
  have EOK := Lib.hid eok
  clear eok
  (try dsimp only)
  go_wp2_with (fail)
  refine (KSO.out w7 U7.out).mono ?_
  rintro e w8 ⟨rfl, b8⟩
  have HR8 := Lib.hid (HR7.out.below b8)
  have U8 := Lib.hid (U7.out.trans (b8.mono U7.out.size))
  have B8 := Lib.hid (B7.out.trans (b8.mono B7.out.size))
  clear HR7 U7 B7 b8
  have hbb : (ok != ok) = false := by cases ok <;> rfl
  (try dsimp only)
  go_wp2_with (fail)
  refine (igrows_any az cz xs gap inner w8 (HZ1.out.below U8.out) (by omega)).mono ?_
  rintro e w9 ⟨rfl, b9⟩
  have HR9 := Lib.hid (HR8.out.below b9)
  have U9 := Lib.hid (U8.out.trans (b9.mono U8.out.size))
  have B9 := Lib.hid (B8.out.trans (b9.mono B8.out.size))
  clear HR8 U8 B8 b9
  have ksg := sgrows_any az cz xs gap inner w9 (HZ1.out.below U9.out) (by omega)
  generalize decide (ouV xs (hypL xs) gap < inner) = gb at *
  have hgb : (gb != gb) = false := by cases gb <;> rfl
  (try dsimp only)
  go_wp2_with (fail)
  refine ksg.mono ?_
  rintro e w10 ⟨rfl, b10⟩
  have HR10 := Lib.hid (HR9.out.below b10)
  have U10 := Lib.hid (U9.out.trans (b10.mono U9.out.size))
  have B10 := Lib.hid (B9.out.trans (b10.mono B9.out.size))
  clear HR9 U9 B9 b10 ksg
  have h1 := hp_new w10 (.cells #[.int .i64 10, .int .i64 0, .int .i64 (-1), .int .i64 1, .int .i64 0, .int .i64 0, .int .i64 0, .bool false, .bool false] 34)
  have RG := Lib.hid (show (w10.alloc (.cells #[.int .i64 10, .int .i64 0, .int .i64 (-1), .int .i64 1, .int .i64 0, .int .i64 0, .int .i64 0, .bool false, .bool false] 34)).rangeAt w10.heap.size 0 (⟨10, 0, -1, 1, 0, 0, 0, false, false⟩ : It).L from range_block h1)
  clear h1
  obtain ⟨u, eu⟩ : ∃ q, q = w10.alloc (.cells #[.int .i64 10, .int .i64 0, .int .i64 (-1), .int .i64 1, .int .i64 0, .int .i64 0, .int .i64 0, .bool false, .bool false] 34) := ⟨_, rfl⟩
  rw [← eu] at RG
  have EU := Lib.hid eu
  clear eu
  (try dsimp only)
  go_wp2_with (first | (rw [← EU.out]) | ((with_reducible apply list_load_it (x := (⟨10, 0, -1, 1, 0, 0, 0, false, false⟩ : It))); exact rfl; exact rfl; exact rfl; (with_reducible exact RG.out); simp only [World.size_alloc, Act.put, List.setIfInBounds_toArray, List.set_cons_succ, List.set_cons_zero]) | fail)
  -- printed by gen/genflexed.py from here on
  have hl3 := lit_its u [(⟨10, 0, -1, 1, 0, 0, 0, false, false⟩ : It), (⟨10, 0, -1, 1, 0, 0, 0, false, false⟩ : It), (⟨10, 0, -1, 1, 0, 0, 0, false, false⟩ : It)] 34 (by intro x hx; simp at hx; subst hx; simp only [It.inr, I64]; omega)
  have bu : Below w10.heap.size w10 u := EU.out ▸ (Below.refl _ _).alloc (Nat.le_refl _) _
  have hb3 : Below u.heap.size u (u.alloc (.cells (cellsI [(⟨10, 0, -1, 1, 0, 0, 0, false, false⟩ : It), (⟨10, 0, -1, 1, 0, 0, 0, false, false⟩ : It), (⟨10, 0, -1, 1, 0, 0, 0, false, false⟩ : It)]).toArray 34)) := (Below.refl _ _).alloc (Nat.le_refl _) _
  have kt := iflexline _ 3 _ 0 100 _ hl3 (by decide)
  rw [fx_two] at kt
  have U11 := Lib.hid ((U10.out.trans (bu.mono U10.out.size)).trans (hb3.mono (by have := U10.out.size; have := bu.size; omega)))
  have B11 := Lib.hid ((B10.out.trans (bu.mono B10.out.size)).trans (hb3.mono (by have := B10.out.size; have := bu.size; omega)))
  have HR11 := Lib.hid ((HR10.out.below bu).below hb3)
  clear hl3 bu hb3 HR10 U10 B10 EU RG
  refine kt.mono ?_
  rintro e w12 ⟨v12, rfl, r12, b12⟩
  have HR12 := Lib.hid (HR11.out.below b12)
  have HT12 := Lib.hid r12
  have U12 := Lib.hid (U11.out.trans (b12.mono U11.out.size))
  have B12 := Lib.hid (B11.out.trans (b12.mono B11.out.size))
  clear kt HR11 U11 B11 b12 r12
  (try dsimp only)
  go_wp2_with (fail)
  refine (KSO.out w12 U12.out).mono ?_
  rintro e w13 ⟨rfl, b13⟩
  have HR13 := Lib.hid (HR12.out.below b13)
  have HT13 := Lib.hid (HT12.out.below b13)
  have U13 := Lib.hid (U12.out.trans (b13.mono U12.out.size))
  have B13 := Lib.hid (B12.out.trans (b13.mono B12.out.size))
  clear HR12 HT12 U12 B12 b13 KSO
  have KSAME := Lib.hid (fun W (hb : Below w13.heap.size w13 W) (b' : Nat) (v' : Value) (h : RowI b' v' [33, 33, 34] W) => sameR_any _ b' v12 v' [33, 33, 34] W (by intro z hz; simp at hz; omega) (by decide) (HT13.out.below hb) h)
  have HBAD := Lib.hid (fun (h : flOk xs gap inner = false) => (by have := HFB.out h; rw [ENP.out, this] : NP = 0))
  clear HT13 HFB
  cases ok with
  | false =>
    have hb0 : flOk xs gap inner = false := by rw [HFL.out]; rfl
    obtain rfl : NP = 0 := HBAD.out hb0
    have HBW := Lib.hid (Below.refl w13.heap.size w13)
    have HSZ := Lib.hid (Nat.le_refl w13.heap.size)
    clear hb0 HBAD HFL HR13 U13 HFO
    (try dsimp only)
    go_wp2_with (fail)
    have hr33 : RowI w13.heap.size (.slice (some ⟨w13.heap.size, 0, none⟩) 3 3) [33, 33, 34] (w13.alloc (.cells #[.int .i64 33, .int .i64 33, .int .i64 34] 3)) := World.ownsRow_lit w13 #[.int .i64 33, .int .i64 33, .int .i64 34] 3 HSZ.out (by unfold maxLen; omega) rfl
    have hb33 : Below w13.heap.size w13 (w13.alloc (.cells #[.int .i64 33, .int .i64 33, .int .i64 34] 3)) := HBW.out.alloc HSZ.out _
    refine (KSAME.out _ hb33 _ _ hr33).mono ?_
    rintro e w15 ⟨rfl, b15⟩
    have B15 := Lib.hid (B13.out.trans ((hb33.trans (b15.mono hb33.size)).mono B13.out.size))
    clear hr33 hb33 b15
    (try dsimp only)
    go_wp2
    go_ret
    exact ⟨rfl, B15.out⟩
  | true =>
    by_cases q0 : gap < 0
    ·
      have hb0 : flOk xs gap inner = false := by rw [HFL.out]; simp [rnB]; omega
      obtain rfl : NP = 0 := HBAD.out hb0
      have HBW := Lib.hid (Below.refl w13.heap.size w13)
      have HSZ := Lib.hid (Nat.le_refl w13.heap.size)
      clear hb0 HBAD HFL HR13 U13 HFO
      (try dsimp only)
      go_wp2_with (fail)
      have hr33 : RowI w13.heap.size (.slice (some ⟨w13.heap.size, 0, none⟩) 3 3) [33, 33, 34] (w13.alloc (.cells #[.int .i64 33, .int .i64 33, .int .i64 34] 3)) := World.ownsRow_lit w13 #[.int .i64 33, .int .i64 33, .int .i64 34] 3 HSZ.out (by unfold maxLen; omega) rfl
      have hb33 : Below w13.heap.size w13 (w13.alloc (.cells #[.int .i64 33, .int .i64 33, .int .i64 34] 3)) := HBW.out.alloc HSZ.out _
      refine (KSAME.out _ hb33 _ _ hr33).mono ?_
      rintro e w15 ⟨rfl, b15⟩
      have B15 := Lib.hid (B13.out.trans ((hb33.trans (b15.mono hb33.size)).mono B13.out.size))
      clear hr33 hb33 b15
      (try dsimp only)
      go_wp2
      go_ret
      exact ⟨rfl, B15.out⟩
    by_cases q1 : 1048576 < gap
    ·
      have hb0 : flOk xs gap inner = false := by rw [HFL.out]; simp [rnB]; omega
      obtain rfl : NP = 0 := HBAD.out hb0
      have HBW := Lib.hid (Below.refl w13.heap.size w13)
      have HSZ := Lib.hid (Nat.le_refl w13.heap.size)
      clear hb0 HBAD HFL HR13 U13 HFO
      (try dsimp only)
      go_wp2_with (fail)
      have hr33 : RowI w13.heap.size (.slice (some ⟨w13.heap.size, 0, none⟩) 3 3) [33, 33, 34] (w13.alloc (.cells #[.int .i64 33, .int .i64 33, .int .i64 34] 3)) := World.ownsRow_lit w13 #[.int .i64 33, .int .i64 33, .int .i64 34] 3 HSZ.out (by unfold maxLen; omega) rfl
      have hb33 : Below w13.heap.size w13 (w13.alloc (.cells #[.int .i64 33, .int .i64 33, .int .i64 34] 3)) := HBW.out.alloc HSZ.out _
      refine (KSAME.out _ hb33 _ _ hr33).mono ?_
      rintro e w15 ⟨rfl, b15⟩
      have B15 := Lib.hid (B13.out.trans ((hb33.trans (b15.mono hb33.size)).mono B13.out.size))
      clear hr33 hb33 b15
      (try dsimp only)
      go_wp2
      go_ret
      exact ⟨rfl, B15.out⟩
    by_cases q2 : inner < 0
    ·
      have hb0 : flOk xs gap inner = false := by rw [HFL.out]; simp [rnB]; omega
      obtain rfl : NP = 0 := HBAD.out hb0
      have HBW := Lib.hid (Below.refl w13.heap.size w13)
      have HSZ := Lib.hid (Nat.le_refl w13.heap.size)
      clear hb0 HBAD HFL HR13 U13 HFO
      (try dsimp only)
      go_wp2_with (fail)
      have hr33 : RowI w13.heap.size (.slice (some ⟨w13.heap.size, 0, none⟩) 3 3) [33, 33, 34] (w13.alloc (.cells #[.int .i64 33, .int .i64 33, .int .i64 34] 3)) := World.ownsRow_lit w13 #[.int .i64 33, .int .i64 33, .int .i64 34] 3 HSZ.out (by unfold maxLen; omega) rfl
      have hb33 : Below w13.heap.size w13 (w13.alloc (.cells #[.int .i64 33, .int .i64 33, .int .i64 34] 3)) := HBW.out.alloc HSZ.out _
      refine (KSAME.out _ hb33 _ _ hr33).mono ?_
      rintro e w15 ⟨rfl, b15⟩
      have B15 := Lib.hid (B13.out.trans ((hb33.trans (b15.mono hb33.size)).mono B13.out.size))
      clear hr33 hb33 b15
      (try dsimp only)
      go_wp2
      go_ret
      exact ⟨rfl, B15.out⟩
    by_cases q3 : 1048576 < inner
    ·
      have hb0 : flOk xs gap inner = false := by rw [HFL.out]; simp [rnB]; omega
      obtain rfl : NP = 0 := HBAD.out hb0
      have HBW := Lib.hid (Below.refl w13.heap.size w13)
      have HSZ := Lib.hid (Nat.le_refl w13.heap.size)
      clear hb0 HBAD HFL HR13 U13 HFO
      (try dsimp only)
      go_wp2_with (fail)
      have hr33 : RowI w13.heap.size (.slice (some ⟨w13.heap.size, 0, none⟩) 3 3) [33, 33, 34] (w13.alloc (.cells #[.int .i64 33, .int .i64 33, .int .i64 34] 3)) := World.ownsRow_lit w13 #[.int .i64 33, .int .i64 33, .int .i64 34] 3 HSZ.out (by unfold maxLen; omega) rfl
      have hb33 : Below w13.heap.size w13 (w13.alloc (.cells #[.int .i64 33, .int .i64 33, .int .i64 34] 3)) := HBW.out.alloc HSZ.out _
      refine (KSAME.out _ hb33 _ _ hr33).mono ?_
      rintro e w15 ⟨rfl, b15⟩
      have B15 := Lib.hid (B13.out.trans ((hb33.trans (b15.mono hb33.size)).mono B13.out.size))
      clear hr33 hb33 b15
      (try dsimp only)
      go_wp2
      go_ret
      exact ⟨rfl, B15.out⟩
    have hgood : flOk xs gap inner = true := by rw [HFL.out]; simp [rnB]; omega
    have HFIT := Lib.hid (HFO.out hgood)
    obtain ⟨ab, cb, rfl, hzi⟩ := HR13.out.slice HFA.out
    have HZI := Lib.hid hzi
    have HZ13 := Lib.hid (HZ1.out.below U13.out)
    rw [HLEN.out] at *
    clear hgood HFO HFL HBAD HR13 hzi
    (try dsimp only)
    go_wp2_with (fail)
    go_loopw [10] (fun i wr => ∃ k : Nat, k ≤ xs.length ∧ i = .int .i64 k ∧ Below w13.heap.size w13 wr) (fun i _ => xs.length - (intOf i).toNat)
    case atStart => exact ⟨0, Nat.zero_le _, rfl, Below.refl _ _⟩
    case round =>
      obtain ⟨k, hk, rfl, hbw⟩ := hrel
      have HBW := Lib.hid hbw
      have HSZ := Lib.hid hbw.size
      by_cases hlt : k < xs.length
      · obtain ⟨b, off, rfl, hbl, hrg⟩ := (HZ13.out.below hbw).look hlt
        obtain ⟨bi, oi, rfl, hbi, hci⟩ := (HZI.out.below hbw).look hlt
        have hlo : (0 : Int) ≤ (k : Int) := Int.natCast_nonneg _
        have hhi : (k : Int) < (xs.length : Int) := by omega
        have hf := HFIT.out.2 k hlt
        have hf' : (0 ≤ ZS.getD k 0 ∧ ZS.getD k 0 ≤ 1048576) ∧ (itD xs k).least ≤ ZS.getD k 0 ∧ (0 ≤ (itD xs k).most → ZS.getD k 0 ≤ mmV (itD xs k)) := by rw [EZS.out]; exact hf
        obtain ⟨_, hf1, hf2⟩ := hf'
        obtain ⟨c0, c1, c2, c3, c4, c5, c6, c7, c8⟩ := rg_it hrg
        clear c0 c3 c4 c5 c6 c7 c8 hrg hf hbw
        have hcs := hci
        generalize ZS.getD k 0 = z at *
        unfold mmV at hf2
        generalize (itD xs k).least = le at *
        generalize (itD xs k).most = mo at *
        have D1 := fun d os => cell_regrown c1 d os
        have DI := fun d os => cell_regrown hci d os
        clear hci hcs
        by_cases m0 : 0 ≤ mo
        · have hf3 := hf2 m0
          clear hf2
          by_cases m1 : mo < le
          · rw [if_pos m1] at hf3
            have hd1 : decide (z < le) = false := by simp; omega
            have hd2 : decide (0 ≤ le) = true := by simp; omega
            have hd3 : decide (le < z) = false := by simp; omega
            go_wp2_with (fail)
            refine wp_region_quiet_below (by kernel_rfl) (by kernel_rfl) ?_
            repeat (go_big_quiet_step (fail))
            refine wpQuiet_nil ?_
            intro _ hw'
            obtain ⟨⟨dq, osq⟩, hw''⟩ := hw'
            subst hw''
            clear c1 c2 D1 DI hd1
            (try dsimp only)
            go_wp2
            go_roundw
            case rel => exact ⟨k + 1, by omega, by go_num, HBW.out.trans ((below_regrown wr dq osq).mono HSZ.out)⟩
            case measure => simp [intOf]; omega
          · rw [if_neg m1] at hf3
            have hd1 : decide (z < le) = false := by simp; omega
            have hd2 : decide (0 ≤ mo) = true := by simp; omega
            have hd3 : decide (mo < z) = false := by simp; omega
            go_wp2_with (fail)
            refine wp_region_quiet_below (by kernel_rfl) (by kernel_rfl) ?_
            repeat (go_big_quiet_step (fail))
            refine wpQuiet_nil ?_
            intro _ hw'
            obtain ⟨⟨dq, osq⟩, hw''⟩ := hw'
            subst hw''
            clear c1 c2 D1 DI hd1
            (try dsimp only)
            go_wp2
            go_roundw
            case rel => exact ⟨k + 1, by omega, by go_num, HBW.out.trans ((below_regrown wr dq osq).mono HSZ.out)⟩
            case measure => simp [intOf]; omega
        · clear hf2
          have hd1 : decide (z < le) = false := by simp; omega
          have hd2 : decide (0 ≤ mo) = false := by simp; omega
          go_wp2_with (fail)
          refine wp_region_quiet_below (by kernel_rfl) (by kernel_rfl) ?_
          repeat (go_big_quiet_step (fail))
          refine wpQuiet_nil ?_
          intro _ hw'
          obtain ⟨⟨dq, osq⟩, hw''⟩ := hw'
          subst hw''
          clear c1 c2 D1 DI hd1
          (try dsimp only)
          go_wp2
          go_roundw
          case rel => exact ⟨k + 1, by omega, by go_num, HBW.out.trans ((below_regrown wr dq osq).mono HSZ.out)⟩
          case measure => simp [intOf]; omega
      · obtain rfl : k = xs.length := by omega
        clear hbw HZI HZ13
        (try dsimp only)
        go_wp2_with (fail)
        have hr33 : RowI w13.heap.size (.slice (some ⟨wr.heap.size, 0, none⟩) 3 3) [33, 33, 34] (wr.alloc (.cells #[.int .i64 33, .int .i64 33, .int .i64 34] 3)) := World.ownsRow_lit wr #[.int .i64 33, .int .i64 33, .int .i64 34] 3 HSZ.out (by unfold maxLen; omega) rfl
        have hb33 : Below w13.heap.size w13 (wr.alloc (.cells #[.int .i64 33, .int .i64 33, .int .i64 34] 3)) := HBW.out.alloc HSZ.out _
        refine (KSAME.out _ hb33 _ _ hr33).mono ?_
        rintro e w15 ⟨rfl, b15⟩
        have B15 := Lib.hid (B13.out.trans ((hb33.trans (b15.mono hb33.size)).mono B13.out.size))
        clear hr33 hb33 b15
        (try dsimp only)
        go_wp2
        go_ret
        exact ⟨rfl, B15.out⟩

set_option maxRecDepth 100000 in
theorem walk_big (a : Option Addr) (len cap : Nat) (w : World) (hl : 1048576 < len) (hm : len ≤ 9223372036854775807) :
    Calls Try.prog 3 #[.slice a len cap] w fun e w' => e = .returned (.bool true) ∧ Below w.heap.size w w' := by
  go_enter Try.func3, Try.ntmps3
  go_wp2
  go_ret
  exact ⟨rfl, Below.refl _ _⟩

theorem laidOut : laidOutB Try.prog = true := by kernel_rfl

theorem contract (H : Type) (enc : TypeId × Value → H) (W : World) (base : Nat) (args : Array Value) (ds gs : List (DataW H)) (before : List MemPlace)
    (hval : ∀ (j : Nat) t v, Try.f3.params[j]? = some t → args[j]? = some v → Value.okWide Try.prog W .any base t v)
    (hW : DataW.Whole enc Try.prog Try.f3.params.toList Rows.fnFlexedSpec.vars false W args.toList ds gs before) :
    Calls Try.prog 3 args W fun e W' => ∃ v, e = .returned v ∧ Rows.fnFlexedSpec.post enc Try.prog Try.f3 false true false false W args v W' := by
  have hW' := hW
  obtain ⟨p, q, hA0, hV, rfl, hfz, hnd⟩ := hW
  have hA : DataW.TrodAll enc Try.prog W 0 (fun _ => true) true Try.f3.params.toList args.toList ds p := hA0
  rw [Try.params3] at hA hval
  obtain ⟨v0, vs0, d0, ds0, p0, q0, hargs, rfl, rfl, h0, r0⟩ := trodAll_cons hA
  obtain ⟨rfl, rfl, rfl⟩ := trodAll_nil r0
  obtain rfl : args = #[v0] := by cases args; simp_all
  obtain ⟨rfl, rfl⟩ := trodVars_none hV
  obtain ⟨a, len, cap, rfl⟩ := okWide_slice Try.underlying22 (hval 0 22 v0 rfl rfl)
  have lt0 : ∀ x ∈ p0, x.block < W.heap.size := by obtain ⟨m, hm⟩ := h0; exact DataW.trod_lt m _ _ _ hm
  obtain ⟨hc, hm⟩ := code_of h0
  have all : Calls Try.prog 3 #[.slice a len cap] W fun e w' => e = .returned (.bool true) ∧ Below W.heap.size W w' := by
    by_cases hl : len ≤ 1048576
    · exact walk a len cap W hl hc
    · exact walk_big a len cap W (by omega) hm
  refine all.mono fun e W' ⟨he, bel⟩ => ?_
  subst he
  exact ⟨_, rfl, law_post (pa := _) (pv := []) hW' (trodAll_cons_mk (shut_bool Try.underlying4 _) trodAll_mk0) (trodAll_cons_mk (Below.trod laidOut (by kernel_rfl) (of_decide_eq_true (by kernel_rfl)) h0 bel lt0) trodAll_mk0) rfl rfl bel⟩


set_option maxRecDepth 100000 in
theorem lifted (os : Os) (started : os.Started) (H : Type) (enc : TypeId × Value → H) :
    ReturnsInHanded {} Try.checked os 3 .any (Rows.fnFlexedSpec.pre6 enc Try.prog Try.f3 Rows.fnFlexedRow.domain false) (Rows.fnFlexedSpec.post enc Try.prog Try.f3 false true false false) := by
  refine returnsInHanded_of_change (C := Try.checked) own started (by kernel_rfl) Try.func3
    (ChangeSpec.witness6 (enc := enc) (C := Try.checked) false ⟨#[], #[.slice none 0 0], []⟩ 8 (by kernel_rfl) (by kernel_rfl) (by kernel_rfl) (by kernel_rfl)) ?_
  intro W base args ds gs before hval hW _ _
  exact contract H enc W base args ds gs before hval hW

/-- The given statement. -/
theorem proved : Rows.FnFlexedSaid :=
  OpenClaim.holds_of_wide 3 Try.f3 rfl rfl rfl rfl rfl rfl rfl ⟨rfl, rfl, rfl, rfl, rfl⟩ rfl rfl rfl rfl rfl (by kernel_rfl) Try.func3 (by kernel_rfl)
    (of_decide_eq_true (by kernel_rfl)) (by unfold Func.isWrapper; first | (rw [if_pos (by decide +kernel)]; kernel_rfl) | (rw [if_neg (by decide +kernel)]; exact ⟨rfl, rfl⟩))
    (fun os started H enc _ => lifted os started H enc)
#print axioms proved
end Go.Proofs.Ytopfiogmbnfjcaa.fnFlexed

/-
  For all arguments, laws.FnExactPlacesAlong returns true: the function answers as its model, writes into no argument, and its answer is memory of its own; the arguments read as before. Conditions: none.
-/
import Derived.Test.YtnncdpkmhpjmbaaLgT
import Derived.Test.YtnncdpkmhpjmbaaItL
import Derived.Test.YtnncdpkmhpjmbaaItK
import Derived.Test.YtnncdpkmhpjmbaaIntS
namespace Go.Proofs.Ytnncdpkmhpjmbaa.fnExactPlacesAlong
open Go.ChangeShapes Go.WideShapes Go.ChangeAt Go.RowKit
set_option linter.unusedVariables false
set_option linter.unusedSimpArgs false

theorem walk_big_zs (axs : Option Addr) (capxs : Nat) (xs : List It) (azs : Option Addr) (lenzs capzs : Nat) (zs : List Int) (gap : Int) (gap0 : -9223372036854775808 ≤ gap) (gap1 : gap ≤ 9223372036854775807) (inner : Int) (inner0 : -9223372036854775808 ≤ inner) (inner1 : inner ≤ 9223372036854775807) (js : Int) (js0 : -9223372036854775808 ≤ js) (js1 : js ≤ 9223372036854775807) (w : World)  (hlzs : 1048576 < lenzs) (hmzs : lenzs ≤ 9223372036854775807) :
    Calls Try.prog 10 #[.slice axs xs.length capxs, .slice azs lenzs capzs, .int .i64 gap, .int .i64 inner, .int .i64 js] w fun e w' => e = .returned (.bool true) ∧ Below w.heap.size w w' := by
  go_enter Try.func10, Try.ntmps10
  go_wp2
  go_ret
  exact ⟨rfl, Below.refl _ _⟩
theorem walk_big_xs (axs : Option Addr) (capxs : Nat) (xs : List It) (azs : Option Addr) (lenzs capzs : Nat) (zs : List Int) (gap : Int) (gap0 : -9223372036854775808 ≤ gap) (gap1 : gap ≤ 9223372036854775807) (inner : Int) (inner0 : -9223372036854775808 ≤ inner) (inner1 : inner ≤ 9223372036854775807) (js : Int) (js0 : -9223372036854775808 ≤ js) (js1 : js ≤ 9223372036854775807) (w : World) (hlzs : lenzs ≤ 1048576) (hlxs : 1048576 < xs.length) (hmxs : xs.length ≤ 9223372036854775807) :
    Calls Try.prog 10 #[.slice axs xs.length capxs, .slice azs lenzs capzs, .int .i64 gap, .int .i64 inner, .int .i64 js] w fun e w' => e = .returned (.bool true) ∧ Below w.heap.size w w' := by
  go_enter Try.func10, Try.ntmps10
  go_wp2_with (fail)
  refine (szit_big axs xs.length capxs 1048576 _ (by omega) (by omega) hmxs).mono ?_
  rintro e w1 ⟨rfl, rfl⟩
  go_wp2
  go_ret
  exact ⟨rfl, Below.refl _ _⟩
set_option maxHeartbeats 4000000 in
theorem walk_small (axs : Option Addr) (capxs : Nat) (xs : List It) (azs : Option Addr) (lenzs capzs : Nat) (zs : List Int) (gap : Int) (gap0 : -9223372036854775808 ≤ gap) (gap1 : gap ≤ 9223372036854775807) (inner : Int) (inner0 : -9223372036854775808 ≤ inner) (inner1 : inner ≤ 9223372036854775807) (js : Int) (js0 : -9223372036854775808 ≤ js) (js1 : js ≤ 9223372036854775807) (w : World) (hzxs : Its w axs xs) (hlxs : xs.length ≤ 1048576) (hzzs : Ints w azs lenzs zs) (hlzs : lenzs ≤ 1048576) :
    Calls Try.prog 10 #[.slice axs xs.length capxs, .slice azs lenzs capzs, .int .i64 gap, .int .i64 inner, .int .i64 js] w fun e w' => e = .returned (.bool true) ∧ Below w.heap.size w w' := by
  have hrxs := hzxs.1
  have HZxs := Lib.hid hzxs
  clear hzxs
  have hrzs := hzzs.2.1
  have hzlzs := hzzs.1
  have HZzs := Lib.hid hzzs
  clear hzzs
  have B0 := Lib.hid (Below.refl w.heap.size w)
  go_enter Try.func10, Try.ntmps10
  go_wp2_with (fail)
  refine (szit_fit axs xs.length capxs 1048576 w (by omega) (by omega)).mono ?_
  rintro e w1 ⟨rfl, b1⟩
  replace b1 : Below w.heap.size w w1 := by rw [b1]; exact Below.refl _ _
  have B1 := Lib.hid (B0.out.trans (b1.mono B0.out.size))
  have S1 := Lib.hid b1.size
  clear b1
  go_wp2_with (fail)
  refine (tois_any axs capxs xs w1 (HZxs.out.below B1.out) hlxs).mono ?_
  rintro e w2 ⟨rfl, r2, b2⟩
  have B2 := Lib.hid (B1.out.trans (b2.mono B1.out.size))
  have S2 := Lib.hid b2.size
  clear b2
  have Upxs := Lib.hid (World.ownsRow.lt r2)
  have Rpxs := Lib.hid r2
  clear r2
  go_wp2_with (fail)
  refine (toI_any azs lenzs capzs zs w2 (HZzs.out.below B2.out) hlzs).mono ?_
  rintro e w3 ⟨rfl, r3, b3⟩
  have Rpxs := Lib.hid (Rpxs.out.below b3)
  have B3 := Lib.hid (B2.out.trans (b3.mono B2.out.size))
  have S3 := Lib.hid b3.size
  clear b3
  have Upzs := Lib.hid (World.ownsRow.lt r3)
  have Rpzs := Lib.hid r3
  clear r3
  go_wp2_with (fail)
  refine (splaces_along _ _ xs _ lenzs lenzs zs gap inner js w3 (Rpxs.out.its hrxs) (by omega) (Rpzs.out.ints hzlzs hrzs) (by omega)).mono ?_
  rintro e w4 ⟨v4, rfl, r4, b4⟩
  have Rpxs := Lib.hid (Rpxs.out.below b4)
  have Rpzs := Lib.hid (Rpzs.out.below b4)
  have B4 := Lib.hid (B3.out.trans (b4.mono B3.out.size))
  have S4 := Lib.hid b4.size
  clear b4
  have Uw := Lib.hid (World.ownsRow.lt r4)
  have Rw := Lib.hid r4
  clear r4
  clear Rpxs
  clear Rpzs
  go_wp2_with (fail)
  refine (tois_any axs capxs xs w4 (HZxs.out.below B4.out) hlxs).mono ?_
  rintro e w5 ⟨rfl, r5, b5⟩
  have Rw := Lib.hid (Rw.out.below b5)
  have B5 := Lib.hid (B4.out.trans (b5.mono B4.out.size))
  have S5 := Lib.hid b5.size
  clear b5
  have Uxxs := Lib.hid (World.ownsRow.lt r5)
  have Rxxs := Lib.hid r5
  clear r5
  go_wp2_with (fail)
  refine (toI_any azs lenzs capzs zs w5 (HZzs.out.below B5.out) hlzs).mono ?_
  rintro e w6 ⟨rfl, r6, b6⟩
  have Rw := Lib.hid (Rw.out.below b6)
  have Rxxs := Lib.hid (Rxxs.out.below b6)
  have B6 := Lib.hid (B5.out.trans (b6.mono B5.out.size))
  have S6 := Lib.hid b6.size
  clear b6
  have Uxzs := Lib.hid (World.ownsRow.lt r6)
  have Rxzs := Lib.hid r6
  clear r6
  go_wp2_with (fail)
  refine (iplaces_along _ _ xs _ lenzs lenzs zs gap inner js w6 (Rxxs.out.its hrxs) (by omega) (Rxzs.out.ints hzlzs hrzs) (by omega)).mono ?_
  rintro e w7 ⟨v7, rfl, r7, b7⟩
  have Rw := Lib.hid (Rw.out.below b7)
  have Rxxs := Lib.hid (Rxxs.out.below b7)
  have Rxzs := Lib.hid (Rxzs.out.below b7)
  have B7 := Lib.hid (B6.out.trans (b7.mono B6.out.size))
  have S7 := Lib.hid b7.size
  clear b7
  have Ug := Lib.hid (World.ownsRow.lt r7)
  have Rg := Lib.hid r7
  clear r7
  go_wp2_with (fail)
  refine (eqR_any _ _ _ _ (plV xs zs gap inner js) w7 (plV_all xs zs gap inner js) ((Nat.le_trans (plV_len xs zs gap inner js) (by omega))) Rg.out Rw.out).mono ?_
  rintro e w8 ⟨rfl, b8⟩
  have Rw := Lib.hid (Rw.out.below b8)
  have Rxxs := Lib.hid (Rxxs.out.below b8)
  have Rxzs := Lib.hid (Rxzs.out.below b8)
  have Rg := Lib.hid (Rg.out.below b8)
  have B8 := Lib.hid (B7.out.trans (b8.mono B7.out.size))
  have S8 := Lib.hid b8.size
  clear b8
  go_wp2_with (fail)
  refine (tois_any axs capxs xs w8 (HZxs.out.below B8.out) hlxs).mono ?_
  rintro e w9 ⟨rfl, r9, b9⟩
  have Rw := Lib.hid (Rw.out.below b9)
  have Rxxs := Lib.hid (Rxxs.out.below b9)
  have Rxzs := Lib.hid (Rxzs.out.below b9)
  have Rg := Lib.hid (Rg.out.below b9)
  have B9 := Lib.hid (B8.out.trans (b9.mono B8.out.size))
  have S9 := Lib.hid b9.size
  clear b9
  have Uq := Lib.hid (World.ownsRow.lt r9)
  have Rq := Lib.hid r9
  clear r9
  go_wp2_with (fail)
  refine (eqis_any _ _ _ _ xs w9 (Rxxs.out.its hrxs) (Rq.out.its hrxs) (by have := hlxs; omega)).mono ?_
  rintro e w10 ⟨rfl, b10⟩
  have Rw := Lib.hid (Rw.out.below b10)
  have Rxxs := Lib.hid (Rxxs.out.below b10)
  have Rxzs := Lib.hid (Rxzs.out.below b10)
  have Rg := Lib.hid (Rg.out.below b10)
  have Rq := Lib.hid (Rq.out.below b10)
  have B10 := Lib.hid (B9.out.trans (b10.mono B9.out.size))
  have S10 := Lib.hid b10.size
  clear b10
  clear Rq
  go_wp2_with (fail)
  refine (toI_any azs lenzs capzs zs w10 (HZzs.out.below B10.out) hlzs).mono ?_
  rintro e w11 ⟨rfl, r11, b11⟩
  have Rw := Lib.hid (Rw.out.below b11)
  have Rxxs := Lib.hid (Rxxs.out.below b11)
  have Rxzs := Lib.hid (Rxzs.out.below b11)
  have Rg := Lib.hid (Rg.out.below b11)
  have B11 := Lib.hid (B10.out.trans (b11.mono B10.out.size))
  have S11 := Lib.hid b11.size
  clear b11
  have Uq := Lib.hid (World.ownsRow.lt r11)
  have Rq := Lib.hid r11
  clear r11
  go_wp2_with (fail)
  refine (eqR_any _ _ _ _ zs w11 hrzs (by rw [hzlzs]; exact hlzs) Rxzs.out Rq.out).mono ?_
  rintro e w12 ⟨rfl, b12⟩
  have Rw := Lib.hid (Rw.out.below b12)
  have Rxxs := Lib.hid (Rxxs.out.below b12)
  have Rxzs := Lib.hid (Rxzs.out.below b12)
  have Rg := Lib.hid (Rg.out.below b12)
  have Rq := Lib.hid (Rq.out.below b12)
  have B12 := Lib.hid (B11.out.trans (b12.mono B11.out.size))
  have S12 := Lib.hid b12.size
  clear b12
  clear Rq
  go_wp2_with (fail)
  refine (markis_any _ _ _ (1) _ xs w12 rfl hlxs (by omega) (by omega) Rxxs.out).mono ?_
  rintro e w13 ⟨rfl, r13, g13⟩
  have B13 := Lib.hid (B12.out.grown g13 B12.out.size (fun k hk => Nat.le_trans B4.out.size (Uxxs.out k hk).1))
  have S13 := Lib.hid g13.size
  have Rw := Lib.hid (Rw.out.kept g13 (apart_U Uw.out Uxxs.out (Nat.le_refl _)))
  have Rxzs := Lib.hid (Rxzs.out.kept g13 (apart_sym (apart_U Uxxs.out Uxzs.out (Nat.le_refl _))))
  have Rg := Lib.hid (Rg.out.kept g13 (apart_sym (apart_U Uxxs.out Ug.out (by have := S6.out; omega))))
  have Rxxs := Lib.hid r13
  clear r13 g13
  go_wp2_with (fail)
  refine (markI_int _ (1 + xs.length * 9) _ _ zs w13 (by rw [hzlzs]; exact hlzs) (by omega) (by omega) Rxzs.out).mono ?_
  rintro e w14 ⟨rfl, r14, g14⟩
  have B14 := Lib.hid (B13.out.grown g14 B13.out.size (fun k hk => Nat.le_trans B5.out.size (Uxzs.out k hk).1))
  have S14 := Lib.hid g14.size
  have Rw := Lib.hid (Rw.out.kept g14 (apart_U Uw.out Uxzs.out (by have := S5.out; omega)))
  have Rxxs := Lib.hid (Rxxs.out.kept g14 (apart_U Uxxs.out Uxzs.out (Nat.le_refl _)))
  have Rg := Lib.hid (Rg.out.kept g14 (apart_sym (apart_U Uxzs.out Ug.out (Nat.le_refl _))))
  have Rxzs := Lib.hid r14
  clear r14 g14
  clear Rxxs
  clear Rxzs
  go_wp2_with (fail)
  refine (eqR_any _ _ _ _ (plV xs zs gap inner js) w14 (plV_all xs zs gap inner js) ((Nat.le_trans (plV_len xs zs gap inner js) (by omega))) Rg.out Rw.out).mono ?_
  rintro e w15 ⟨rfl, b15⟩
  have Rw := Lib.hid (Rw.out.below b15)
  have Rg := Lib.hid (Rg.out.below b15)
  have B15 := Lib.hid (B14.out.trans (b15.mono B14.out.size))
  have S15 := Lib.hid b15.size
  clear b15
  go_wp2_with (fail)
  refine (markI_int _ (1) _ _ (plV xs zs gap inner js) w15 ((Nat.le_trans (plV_len xs zs gap inner js) (by omega))) (by omega) (by omega) Rg.out).mono ?_
  rintro e w16 ⟨rfl, r16, g16⟩
  have B16 := Lib.hid (B15.out.grown g16 B15.out.size (fun k hk => Nat.le_trans B6.out.size (Ug.out k hk).1))
  have S16 := Lib.hid g16.size
  have Rw := Lib.hid (Rw.out.kept g16 (apart_U Uw.out Ug.out (by have := S5.out; have := S6.out; omega)))
  have Rg := Lib.hid r16
  clear r16 g16
  go_wp2_with (fail)
  refine (heldI_any _ 1 (plV xs zs gap inner js).length _ w16 ((Nat.le_trans (plV_len xs zs gap inner js) (by omega))) (by omega) Rg.out).mono ?_
  rintro e w17 ⟨rfl, h17⟩
  have b17 : Below w16.heap.size w16 w17 := by rw [h17]; exact Below.refl _ _
  clear h17
  have Rw := Lib.hid (Rw.out.below b17)
  have Rg := Lib.hid (Rg.out.below b17)
  have B17 := Lib.hid (B16.out.trans (b17.mono B16.out.size))
  have S17 := Lib.hid b17.size
  clear b17
  go_wp2_with (fail)
  refine (tois_any axs capxs xs w17 (HZxs.out.below B17.out) hlxs).mono ?_
  rintro e w18 ⟨rfl, r18, b18⟩
  have Rw := Lib.hid (Rw.out.below b18)
  have Rg := Lib.hid (Rg.out.below b18)
  have B18 := Lib.hid (B17.out.trans (b18.mono B17.out.size))
  have S18 := Lib.hid b18.size
  clear b18
  have Upxs := Lib.hid (World.ownsRow.lt r18)
  have Rpxs := Lib.hid r18
  clear r18
  go_wp2_with (fail)
  refine (toI_any azs lenzs capzs zs w18 (HZzs.out.below B18.out) hlzs).mono ?_
  rintro e w19 ⟨rfl, r19, b19⟩
  have Rw := Lib.hid (Rw.out.below b19)
  have Rg := Lib.hid (Rg.out.below b19)
  have Rpxs := Lib.hid (Rpxs.out.below b19)
  have B19 := Lib.hid (B18.out.trans (b19.mono B18.out.size))
  have S19 := Lib.hid b19.size
  clear b19
  have Upzs := Lib.hid (World.ownsRow.lt r19)
  have Rpzs := Lib.hid r19
  clear r19
  go_wp2_with (fail)
  refine (iplaces_along _ _ xs _ lenzs lenzs zs gap inner js w19 (Rpxs.out.its hrxs) (by omega) (Rpzs.out.ints hzlzs hrzs) (by omega)).mono ?_
  rintro e w20 ⟨v20, rfl, r20, b20⟩
  have Rw := Lib.hid (Rw.out.below b20)
  have Rg := Lib.hid (Rg.out.below b20)
  have Rpxs := Lib.hid (Rpxs.out.below b20)
  have Rpzs := Lib.hid (Rpzs.out.below b20)
  have B20 := Lib.hid (B19.out.trans (b20.mono B19.out.size))
  have S20 := Lib.hid b20.size
  clear b20
  have Uh := Lib.hid (World.ownsRow.lt r20)
  have Rh := Lib.hid r20
  clear r20
  clear Rpxs
  clear Rpzs
  go_wp2_with (fail)
  refine (eqR_any _ _ _ _ (plV xs zs gap inner js) w20 (plV_all xs zs gap inner js) ((Nat.le_trans (plV_len xs zs gap inner js) (by omega))) Rh.out Rw.out).mono ?_
  rintro e w21 ⟨rfl, b21⟩
  have Rw := Lib.hid (Rw.out.below b21)
  have Rg := Lib.hid (Rg.out.below b21)
  have Rh := Lib.hid (Rh.out.below b21)
  have B21 := Lib.hid (B20.out.trans (b21.mono B20.out.size))
  have S21 := Lib.hid b21.size
  clear b21
  go_wp2_with (fail)
  refine (heldI_any _ 1 (plV xs zs gap inner js).length _ w21 ((Nat.le_trans (plV_len xs zs gap inner js) (by omega))) (by omega) Rg.out).mono ?_
  rintro e w22 ⟨rfl, h22⟩
  have b22 : Below w21.heap.size w21 w22 := by rw [h22]; exact Below.refl _ _
  clear h22
  have Rw := Lib.hid (Rw.out.below b22)
  have Rg := Lib.hid (Rg.out.below b22)
  have Rh := Lib.hid (Rh.out.below b22)
  have B22 := Lib.hid (B21.out.trans (b22.mono B21.out.size))
  have S22 := Lib.hid b22.size
  clear b22
  go_wp2
  go_ret
  exact ⟨rfl, B22.out⟩
theorem walk (axs : Option Addr) (capxs : Nat) (xs : List It) (azs : Option Addr) (lenzs capzs : Nat) (zs : List Int) (gap : Int) (gap0 : -9223372036854775808 ≤ gap) (gap1 : gap ≤ 9223372036854775807) (inner : Int) (inner0 : -9223372036854775808 ≤ inner) (inner1 : inner ≤ 9223372036854775807) (js : Int) (js0 : -9223372036854775808 ≤ js) (js1 : js ≤ 9223372036854775807) (w : World) (hzxs : Its w axs xs) (hmxs : xs.length ≤ 9223372036854775807) (hzzs : Ints w azs lenzs zs) (hmzs : lenzs ≤ 9223372036854775807) :
    Calls Try.prog 10 #[.slice axs xs.length capxs, .slice azs lenzs capzs, .int .i64 gap, .int .i64 inner, .int .i64 js] w fun e w' => e = .returned (.bool true) ∧ Below w.heap.size w w' := by
  by_cases hlzs : 1048576 < lenzs
  · exact walk_big_zs axs capxs xs azs lenzs capzs zs gap gap0 gap1 inner inner0 inner1 js js0 js1 w  hlzs hmzs
  · by_cases hlxs : 1048576 < xs.length
    · exact walk_big_xs axs capxs xs azs lenzs capzs zs gap gap0 gap1 inner inner0 inner1 js js0 js1 w (by omega) hlxs hmxs
    · exact walk_small axs capxs xs azs lenzs capzs zs gap gap0 gap1 inner inner0 inner1 js js0 js1 w hzxs (by omega) hzzs (by omega)

theorem laidOut : laidOutB Try.prog = true := by kernel_rfl

set_option maxRecDepth 100000 in
theorem lifted (os : Os) (started : os.Started) (H : Type) (enc : TypeId × Value → H) :
    ReturnsInHanded {} Try.checked os 10 .any (Rows.fnExactPlacesAlongSpec.pre6 enc Try.prog Try.f10 Rows.fnExactPlacesAlongRow.domain false) (Rows.fnExactPlacesAlongSpec.post enc Try.prog Try.f10 false true false false) := by
  refine returnsInHanded_of_change (C := Try.checked) own started (by kernel_rfl) Try.func10
    (ChangeSpec.witness6 (enc := enc) (C := Try.checked) false ⟨#[], #[.slice none 0 0, .slice none 0 0, .int .i64 0, .int .i64 0, .int .i64 0], []⟩ 8 (by kernel_rfl) (by kernel_rfl) (by kernel_rfl) (by kernel_rfl)) ?_
  intro W base args ds gs before hval0 hW hcnd _
  have hval : ∀ (j : Nat) t v, Try.f10.params[j]? = some t → args[j]? = some v → Value.okWide Try.prog W .any base t v := hval0
  have hW' := hW
  obtain ⟨p, q, hA0, hV, rfl, hfz, hnd⟩ := hW
  have hA : DataW.TrodAll enc Try.prog W 0 (fun _ => true) true Try.f10.params.toList args.toList ds p := hA0
  rw [Try.params10] at hA hval
  obtain ⟨v0, vs0, d0, ds0, p0, q0, hargs, rfl, rfl, h0, r0⟩ := trodAll_cons hA
  obtain ⟨v1, vs1, d1, ds1, p1, q1, rfl, rfl, rfl, h1, r1⟩ := trodAll_cons r0
  obtain ⟨v2, vs2, d2, ds2, p2, q2, rfl, rfl, rfl, h2, r2⟩ := trodAll_cons r1
  obtain ⟨v3, vs3, d3, ds3, p3, q3, rfl, rfl, rfl, h3, r3⟩ := trodAll_cons r2
  obtain ⟨v4, vs4, d4, ds4, p4, q4, rfl, rfl, rfl, h4, r4⟩ := trodAll_cons r3
  obtain ⟨rfl, rfl, rfl⟩ := trodAll_nil r4
  obtain rfl : args = #[v0, v1, v2, v3, v4] := by cases args; simp_all
  obtain ⟨rfl, rfl⟩ := trodVars_none hV
  have k0 := h0
  have lt0 : ∀ x ∈ p0, x.block < W.heap.size := by obtain ⟨m, hm⟩ := k0; exact DataW.trod_lt m _ _ _ hm
  obtain ⟨a0, len0, cap0, rfl⟩ := okWide_slice Try.underlying44 (hval 0 44 v0 rfl rfl)
  obtain ⟨z0, rfl, hz0, hm0⟩ := items_of h0
  have k1 := h1
  have lt1 : ∀ x ∈ p1, x.block < W.heap.size := by obtain ⟨m, hm⟩ := k1; exact DataW.trod_lt m _ _ _ hm
  obtain ⟨a1, len1, cap1, rfl⟩ := okWide_slice Try.underlying24 (hval 1 24 v1 rfl rfl)
  obtain ⟨z1, hz1, hm1⟩ := ints_of h1
  have k2 := h2
  have lt2 : ∀ x ∈ p2, x.block < W.heap.size := by obtain ⟨m, hm⟩ := k2; exact DataW.trod_lt m _ _ _ hm
  obtain ⟨a2, rfl, rfl, rfl, w2⟩ := open_int Try.underlying3 (hval 2 3 v2 rfl rfl) h2
  have b2 := bounds_i64 w2
  have k3 := h3
  have lt3 : ∀ x ∈ p3, x.block < W.heap.size := by obtain ⟨m, hm⟩ := k3; exact DataW.trod_lt m _ _ _ hm
  obtain ⟨a3, rfl, rfl, rfl, w3⟩ := open_int Try.underlying3 (hval 3 3 v3 rfl rfl) h3
  have b3 := bounds_i64 w3
  have k4 := h4
  have lt4 : ∀ x ∈ p4, x.block < W.heap.size := by obtain ⟨m, hm⟩ := k4; exact DataW.trod_lt m _ _ _ hm
  obtain ⟨a4, rfl, rfl, rfl, w4⟩ := open_int Try.underlying3 (hval 4 3 v4 rfl rfl) h4
  have b4 := bounds_i64 w4
  clear hA0 hval0
  refine (walk a0 cap0 z0 a1 len1 cap1 z1 a2 b2.1 b2.2 a3 b3.1 b3.2 a4 b4.1 b4.2 W hz0 hm0 hz1 hm1).mono fun e W' ⟨he, bel⟩ => ?_
  subst he
  exact ⟨_, rfl, law_post (pa := _) (pv := []) hW' (trodAll_cons_mk (shut_bool Try.underlying4 _) trodAll_mk0) (trodAll_cons_mk (Below.trod laidOut (by kernel_rfl) (of_decide_eq_true (by kernel_rfl)) k0 bel lt0) (trodAll_cons_mk (Below.trod laidOut (by kernel_rfl) (of_decide_eq_true (by kernel_rfl)) k1 bel lt1) (trodAll_cons_mk (Below.trod laidOut (by kernel_rfl) (of_decide_eq_true (by kernel_rfl)) k2 bel lt2) (trodAll_cons_mk (Below.trod laidOut (by kernel_rfl) (of_decide_eq_true (by kernel_rfl)) k3 bel lt3) (trodAll_cons_mk (Below.trod laidOut (by kernel_rfl) (of_decide_eq_true (by kernel_rfl)) k4 bel lt4) trodAll_mk0))))) rfl rfl bel⟩

/-- The given statement. -/
theorem proved : Rows.FnExactPlacesAlongSaid :=
  OpenClaim.holds_of_wide 10 Try.f10 rfl rfl rfl rfl rfl rfl rfl ⟨rfl, rfl, rfl, rfl, rfl⟩ rfl rfl rfl rfl rfl (by kernel_rfl) Try.func10 (by kernel_rfl)
    (of_decide_eq_true (by kernel_rfl)) (by unfold Func.isWrapper; first | (rw [if_pos (by decide +kernel)]; kernel_rfl) | (rw [if_neg (by decide +kernel)]; exact ⟨rfl, rfl⟩))
    (fun os started H enc _ => lifted os started H enc)
#print axioms proved
end Go.Proofs.Ytnncdpkmhpjmbaa.fnExactPlacesAlong

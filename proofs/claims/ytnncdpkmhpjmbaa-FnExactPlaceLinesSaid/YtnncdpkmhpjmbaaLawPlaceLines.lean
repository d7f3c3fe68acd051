/-
  For all arguments, laws.FnExactPlaceLines returns true: the function answers as its model, writes into no argument, and its answer is memory of its own; the arguments read as before. Conditions: none.
-/
import Derived.Test.YtnncdpkmhpjmbaaCrS
import Derived.Test.YtnncdpkmhpjmbaaIntS
namespace Go.Proofs.Ytnncdpkmhpjmbaa.fnExactPlaceLines
open Go.ChangeShapes Go.WideShapes Go.ChangeAt Go.RowKit
set_option linter.unusedVariables false
set_option linter.unusedSimpArgs false

theorem walk_big_zs (azs : Option Addr) (lenzs capzs : Nat) (zs : List Int) (gap : Int) (gap0 : -9223372036854775808 ≤ gap) (gap1 : gap ≤ 9223372036854775807) (inner : Int) (inner0 : -9223372036854775808 ≤ inner) (inner1 : inner ≤ 9223372036854775807) (ct : Int) (ct0 : -9223372036854775808 ≤ ct) (ct1 : ct ≤ 9223372036854775807) (w : World)  (hlzs : 1048576 < lenzs) (hmzs : lenzs ≤ 9223372036854775807) :
    Calls Try.prog 5 #[.slice azs lenzs capzs, .int .i64 gap, .int .i64 inner, .int .i64 ct] w fun e w' => e = .returned (.bool true) ∧ Below w.heap.size w w' := by
  go_enter Try.func5, Try.ntmps5
  go_wp2
  go_ret
  exact ⟨rfl, Below.refl _ _⟩
set_option maxHeartbeats 4000000 in
theorem walk_small (azs : Option Addr) (lenzs capzs : Nat) (zs : List Int) (gap : Int) (gap0 : -9223372036854775808 ≤ gap) (gap1 : gap ≤ 9223372036854775807) (inner : Int) (inner0 : -9223372036854775808 ≤ inner) (inner1 : inner ≤ 9223372036854775807) (ct : Int) (ct0 : -9223372036854775808 ≤ ct) (ct1 : ct ≤ 9223372036854775807) (w : World) (hzzs : Ints w azs lenzs zs) (hlzs : lenzs ≤ 1048576) :
    Calls Try.prog 5 #[.slice azs lenzs capzs, .int .i64 gap, .int .i64 inner, .int .i64 ct] w fun e w' => e = .returned (.bool true) ∧ Below w.heap.size w w' := by
  have hrzs := hzzs.2.1
  have hzlzs := hzzs.1
  have HZzs := Lib.hid hzzs
  clear hzzs
  have B0 := Lib.hid (Below.refl w.heap.size w)
  go_enter Try.func5, Try.ntmps5
  go_wp2_with (fail)
  refine (toI_any azs lenzs capzs zs w (HZzs.out.below B0.out) hlzs).mono ?_
  rintro e w1 ⟨rfl, r1, b1⟩
  have B1 := Lib.hid (B0.out.trans (b1.mono B0.out.size))
  have S1 := Lib.hid b1.size
  clear b1
  have Upzs := Lib.hid (World.ownsRow.lt r1)
  have Rpzs := Lib.hid r1
  clear r1
  go_wp2_with (fail)
  refine (splacelines _ lenzs lenzs zs gap inner ct w1 (Rpzs.out.ints hzlzs hrzs) (by omega)).mono ?_
  rintro e w2 ⟨v2, rfl, r2, b2⟩
  have Rpzs := Lib.hid (Rpzs.out.below b2)
  have B2 := Lib.hid (B1.out.trans (b2.mono B1.out.size))
  have S2 := Lib.hid b2.size
  clear b2
  have Uw := Lib.hid (World.ownsRow.lt r2)
  have Rw := Lib.hid r2
  clear r2
  clear Rpzs
  go_wp2_with (fail)
  refine (toI_any azs lenzs capzs zs w2 (HZzs.out.below B2.out) hlzs).mono ?_
  rintro e w3 ⟨rfl, r3, b3⟩
  have Rw := Lib.hid (Rw.out.below b3)
  have B3 := Lib.hid (B2.out.trans (b3.mono B2.out.size))
  have S3 := Lib.hid b3.size
  clear b3
  have Uxzs := Lib.hid (World.ownsRow.lt r3)
  have Rxzs := Lib.hid r3
  clear r3
  go_wp2_with (fail)
  refine (iplacelines _ lenzs lenzs zs gap inner ct w3 (Rxzs.out.ints hzlzs hrzs) (by omega)).mono ?_
  rintro e w4 ⟨v4, rfl, r4, b4⟩
  have Rw := Lib.hid (Rw.out.below b4)
  have Rxzs := Lib.hid (Rxzs.out.below b4)
  have B4 := Lib.hid (B3.out.trans (b4.mono B3.out.size))
  have S4 := Lib.hid b4.size
  clear b4
  have Ug := Lib.hid (World.ownsRow.lt r4)
  have Rg := Lib.hid r4
  clear r4
  go_wp2_with (fail)
  refine (eqR_any _ _ _ _ (acV zs gap inner ct) w4 (acV_all zs gap inner ct) ((Nat.le_trans (acV_len zs gap inner ct) (by omega))) Rg.out Rw.out).mono ?_
  rintro e w5 ⟨rfl, b5⟩
  have Rw := Lib.hid (Rw.out.below b5)
  have Rxzs := Lib.hid (Rxzs.out.below b5)
  have Rg := Lib.hid (Rg.out.below b5)
  have B5 := Lib.hid (B4.out.trans (b5.mono B4.out.size))
  have S5 := Lib.hid b5.size
  clear b5
  go_wp2_with (fail)
  refine (toI_any azs lenzs capzs zs w5 (HZzs.out.below B5.out) hlzs).mono ?_
  rintro e w6 ⟨rfl, r6, b6⟩
  have Rw := Lib.hid (Rw.out.below b6)
  have Rxzs := Lib.hid (Rxzs.out.below b6)
  have Rg := Lib.hid (Rg.out.below b6)
  have B6 := Lib.hid (B5.out.trans (b6.mono B5.out.size))
  have S6 := Lib.hid b6.size
  clear b6
  have Uq := Lib.hid (World.ownsRow.lt r6)
  have Rq := Lib.hid r6
  clear r6
  go_wp2_with (fail)
  refine (eqR_any _ _ _ _ zs w6 hrzs (by rw [hzlzs]; exact hlzs) Rxzs.out Rq.out).mono ?_
  rintro e w7 ⟨rfl, b7⟩
  have Rw := Lib.hid (Rw.out.below b7)
  have Rxzs := Lib.hid (Rxzs.out.below b7)
  have Rg := Lib.hid (Rg.out.below b7)
  have Rq := Lib.hid (Rq.out.below b7)
  have B7 := Lib.hid (B6.out.trans (b7.mono B6.out.size))
  have S7 := Lib.hid b7.size
  clear b7
  clear Rq
  go_wp2_with (fail)
  refine (markI_int _ (1) _ _ zs w7 (by rw [hzlzs]; exact hlzs) (by omega) (by omega) Rxzs.out).mono ?_
  rintro e w8 ⟨rfl, r8, g8⟩
  have B8 := Lib.hid (B7.out.grown g8 B7.out.size (fun k hk => Nat.le_trans B2.out.size (Uxzs.out k hk).1))
  have S8 := Lib.hid g8.size
  have Rw := Lib.hid (Rw.out.kept g8 (apart_U Uw.out Uxzs.out (Nat.le_refl _)))
  have Rg := Lib.hid (Rg.out.kept g8 (apart_sym (apart_U Uxzs.out Ug.out (Nat.le_refl _))))
  have Rxzs := Lib.hid r8
  clear r8 g8
  clear Rxzs
  go_wp2_with (fail)
  refine (eqR_any _ _ _ _ (acV zs gap inner ct) w8 (acV_all zs gap inner ct) ((Nat.le_trans (acV_len zs gap inner ct) (by omega))) Rg.out Rw.out).mono ?_
  rintro e w9 ⟨rfl, b9⟩
  have Rw := Lib.hid (Rw.out.below b9)
  have Rg := Lib.hid (Rg.out.below b9)
  have B9 := Lib.hid (B8.out.trans (b9.mono B8.out.size))
  have S9 := Lib.hid b9.size
  clear b9
  go_wp2_with (fail)
  refine (markI_int _ (1) _ _ (acV zs gap inner ct) w9 ((Nat.le_trans (acV_len zs gap inner ct) (by omega))) (by omega) (by omega) Rg.out).mono ?_
  rintro e w10 ⟨rfl, r10, g10⟩
  have B10 := Lib.hid (B9.out.grown g10 B9.out.size (fun k hk => Nat.le_trans B3.out.size (Ug.out k hk).1))
  have S10 := Lib.hid g10.size
  have Rw := Lib.hid (Rw.out.kept g10 (apart_U Uw.out Ug.out (by have := S3.out; omega)))
  have Rg := Lib.hid r10
  clear r10 g10
  go_wp2_with (fail)
  refine (heldI_any _ 1 (acV zs gap inner ct).length _ w10 ((Nat.le_trans (acV_len zs gap inner ct) (by omega))) (by omega) Rg.out).mono ?_
  rintro e w11 ⟨rfl, h11⟩
  have b11 : Below w10.heap.size w10 w11 := by rw [h11]; exact Below.refl _ _
  clear h11
  have Rw := Lib.hid (Rw.out.below b11)
  have Rg := Lib.hid (Rg.out.below b11)
  have B11 := Lib.hid (B10.out.trans (b11.mono B10.out.size))
  have S11 := Lib.hid b11.size
  clear b11
  go_wp2_with (fail)
  refine (toI_any azs lenzs capzs zs w11 (HZzs.out.below B11.out) hlzs).mono ?_
  rintro e w12 ⟨rfl, r12, b12⟩
  have Rw := Lib.hid (Rw.out.below b12)
  have Rg := Lib.hid (Rg.out.below b12)
  have B12 := Lib.hid (B11.out.trans (b12.mono B11.out.size))
  have S12 := Lib.hid b12.size
  clear b12
  have Upzs := Lib.hid (World.ownsRow.lt r12)
  have Rpzs := Lib.hid r12
  clear r12
  go_wp2_with (fail)
  refine (iplacelines _ lenzs lenzs zs gap inner ct w12 (Rpzs.out.ints hzlzs hrzs) (by omega)).mono ?_
  rintro e w13 ⟨v13, rfl, r13, b13⟩
  have Rw := Lib.hid (Rw.out.below b13)
  have Rg := Lib.hid (Rg.out.below b13)
  have Rpzs := Lib.hid (Rpzs.out.below b13)
  have B13 := Lib.hid (B12.out.trans (b13.mono B12.out.size))
  have S13 := Lib.hid b13.size
  clear b13
  have Uh := Lib.hid (World.ownsRow.lt r13)
  have Rh := Lib.hid r13
  clear r13
  clear Rpzs
  go_wp2_with (fail)
  refine (eqR_any _ _ _ _ (acV zs gap inner ct) w13 (acV_all zs gap inner ct) ((Nat.le_trans (acV_len zs gap inner ct) (by omega))) Rh.out Rw.out).mono ?_
  rintro e w14 ⟨rfl, b14⟩
  have Rw := Lib.hid (Rw.out.below b14)
  have Rg := Lib.hid (Rg.out.below b14)
  have Rh := Lib.hid (Rh.out.below b14)
  have B14 := Lib.hid (B13.out.trans (b14.mono B13.out.size))
  have S14 := Lib.hid b14.size
  clear b14
  go_wp2_with (fail)
  refine (heldI_any _ 1 (acV zs gap inner ct).length _ w14 ((Nat.le_trans (acV_len zs gap inner ct) (by omega))) (by omega) Rg.out).mono ?_
  rintro e w15 ⟨rfl, h15⟩
  have b15 : Below w14.heap.size w14 w15 := by rw [h15]; exact Below.refl _ _
  clear h15
  have Rw := Lib.hid (Rw.out.below b15)
  have Rg := Lib.hid (Rg.out.below b15)
  have Rh := Lib.hid (Rh.out.below b15)
  have B15 := Lib.hid (B14.out.trans (b15.mono B14.out.size))
  have S15 := Lib.hid b15.size
  clear b15
  go_wp2
  go_ret
  exact ⟨rfl, B15.out⟩
theorem walk (azs : Option Addr) (lenzs capzs : Nat) (zs : List Int) (gap : Int) (gap0 : -9223372036854775808 ≤ gap) (gap1 : gap ≤ 9223372036854775807) (inner : Int) (inner0 : -9223372036854775808 ≤ inner) (inner1 : inner ≤ 9223372036854775807) (ct : Int) (ct0 : -9223372036854775808 ≤ ct) (ct1 : ct ≤ 9223372036854775807) (w : World) (hzzs : Ints w azs lenzs zs) (hmzs : lenzs ≤ 9223372036854775807) :
    Calls Try.prog 5 #[.slice azs lenzs capzs, .int .i64 gap, .int .i64 inner, .int .i64 ct] w fun e w' => e = .returned (.bool true) ∧ Below w.heap.size w w' := by
  by_cases hlzs : 1048576 < lenzs
  · exact walk_big_zs azs lenzs capzs zs gap gap0 gap1 inner inner0 inner1 ct ct0 ct1 w  hlzs hmzs
  · exact walk_small azs lenzs capzs zs gap gap0 gap1 inner inner0 inner1 ct ct0 ct1 w hzzs (by omega)

theorem laidOut : laidOutB Try.prog = true := by kernel_rfl

set_option maxRecDepth 100000 in
theorem lifted (os : Os) (started : os.Started) (H : Type) (enc : TypeId × Value → H) :
    ReturnsInHanded {} Try.checked os 5 .any (Rows.fnExactPlaceLinesSpec.pre6 enc Try.prog Try.f5 Rows.fnExactPlaceLinesRow.domain false) (Rows.fnExactPlaceLinesSpec.post enc Try.prog Try.f5 false true false false) := by
  refine returnsInHanded_of_change (C := Try.checked) own started (by kernel_rfl) Try.func5
    (ChangeSpec.witness6 (enc := enc) (C := Try.checked) false ⟨#[], #[.slice none 0 0, .int .i64 0, .int .i64 0, .int .i64 0], []⟩ 8 (by kernel_rfl) (by kernel_rfl) (by kernel_rfl) (by kernel_rfl)) ?_
  intro W base args ds gs before hval0 hW hcnd _
  have hval : ∀ (j : Nat) t v, Try.f5.params[j]? = some t → args[j]? = some v → Value.okWide Try.prog W .any base t v := hval0
  have hW' := hW
  obtain ⟨p, q, hA0, hV, rfl, hfz, hnd⟩ := hW
  have hA : DataW.TrodAll enc Try.prog W 0 (fun _ => true) true Try.f5.params.toList args.toList ds p := hA0
  rw [Try.params5] at hA hval
  obtain ⟨v0, vs0, d0, ds0, p0, q0, hargs, rfl, rfl, h0, r0⟩ := trodAll_cons hA
  obtain ⟨v1, vs1, d1, ds1, p1, q1, rfl, rfl, rfl, h1, r1⟩ := trodAll_cons r0
  obtain ⟨v2, vs2, d2, ds2, p2, q2, rfl, rfl, rfl, h2, r2⟩ := trodAll_cons r1
  obtain ⟨v3, vs3, d3, ds3, p3, q3, rfl, rfl, rfl, h3, r3⟩ := trodAll_cons r2
  obtain ⟨rfl, rfl, rfl⟩ := trodAll_nil r3
  obtain rfl : args = #[v0, v1, v2, v3] := by cases args; simp_all
  obtain ⟨rfl, rfl⟩ := trodVars_none hV
  have k0 := h0
  have lt0 : ∀ x ∈ p0, x.block < W.heap.size := by obtain ⟨m, hm⟩ := k0; exact DataW.trod_lt m _ _ _ hm
  obtain ⟨a0, len0, cap0, rfl⟩ := okWide_slice Try.underlying24 (hval 0 24 v0 rfl rfl)
  obtain ⟨z0, hz0, hm0⟩ := ints_of h0
  have k1 := h1
  have lt1 : ∀ x ∈ p1, x.block < W.heap.size := by obtain ⟨m, hm⟩ := k1; exact DataW.trod_lt m _ _ _ hm
  obtain ⟨a1, rfl, rfl, rfl, w1⟩ := open_int Try.underlying3 (hval 1 3 v1 rfl rfl) h1
  have b1 := bounds_i64 w1
  have k2 := h2
  have lt2 : ∀ x ∈ p2, x.block < W.heap.size := by obtain ⟨m, hm⟩ := k2; exact DataW.trod_lt m _ _ _ hm
  obtain ⟨a2, rfl, rfl, rfl, w2⟩ := open_int Try.underlying3 (hval 2 3 v2 rfl rfl) h2
  have b2 := bounds_i64 w2
  have k3 := h3
  have lt3 : ∀ x ∈ p3, x.block < W.heap.size := by obtain ⟨m, hm⟩ := k3; exact DataW.trod_lt m _ _ _ hm
  obtain ⟨a3, rfl, rfl, rfl, w3⟩ := open_int Try.underlying3 (hval 3 3 v3 rfl rfl) h3
  have b3 := bounds_i64 w3
  clear hA0 hval0
  refine (walk a0 len0 cap0 z0 a1 b1.1 b1.2 a2 b2.1 b2.2 a3 b3.1 b3.2 W hz0 hm0).mono fun e W' ⟨he, bel⟩ => ?_
  subst he
  exact ⟨_, rfl, law_post (pa := _) (pv := []) hW' (trodAll_cons_mk (shut_bool Try.underlying4 _) trodAll_mk0) (trodAll_cons_mk (Below.trod laidOut (by kernel_rfl) (of_decide_eq_true (by kernel_rfl)) k0 bel lt0) (trodAll_cons_mk (Below.trod laidOut (by kernel_rfl) (of_decide_eq_true (by kernel_rfl)) k1 bel lt1) (trodAll_cons_mk (Below.trod laidOut (by kernel_rfl) (of_decide_eq_true (by kernel_rfl)) k2 bel lt2) (trodAll_cons_mk (Below.trod laidOut (by kernel_rfl) (of_decide_eq_true (by kernel_rfl)) k3 bel lt3) trodAll_mk0)))) rfl rfl bel⟩

/-- The given statement. -/
theorem proved : Rows.FnExactPlaceLinesSaid :=
  OpenClaim.holds_of_wide 5 Try.f5 rfl rfl rfl rfl rfl rfl rfl ⟨rfl, rfl, rfl, rfl, rfl⟩ rfl rfl rfl rfl rfl (by kernel_rfl) Try.func5 (by kernel_rfl)
    (of_decide_eq_true (by kernel_rfl)) (by unfold Func.isWrapper; first | (rw [if_pos (by decide +kernel)]; kernel_rfl) | (rw [if_neg (by decide +kernel)]; exact ⟨rfl, rfl⟩))
    (fun os started H enc _ => lifted os started H enc)
#print axioms proved
end Go.Proofs.Ytnncdpkmhpjmbaa.fnExactPlaceLines

/-
  For all arguments, laws.FnExactScaled returns true: the function answers as its model, writes into no argument, and its answer is memory of its own; the arguments read as before. Conditions: none.
-/
import Derived.Test.YtohpcjoifeoolaaScS
import Derived.Test.YtohpcjoifeoolaaScI
namespace Go.Proofs.Ytohpcjoifeoolaa.fnExactScaled
open Go.ChangeShapes Go.WideShapes Go.ChangeAt Go.RowKit
set_option linter.unusedVariables false

theorem walk_big_xs (axs : Option Addr) (lenxs capxs : Nat) (xs : List Int) (ays : Option Addr) (lenys capys : Nat) (ys : List Int) (w : World)  (hlxs : 1048576 < lenxs) (hmxs : lenxs ≤ 9223372036854775807) :
    Calls Try.prog 8 #[.slice axs lenxs capxs, .slice ays lenys capys] w fun e w' => e = .returned (.bool true) ∧ Below w.heap.size w w' := by
  go_enter Try.func8, Try.ntmps8
  go_wp2
  go_ret
  exact ⟨rfl, Below.refl _ _⟩
theorem walk_big_ys (axs : Option Addr) (lenxs capxs : Nat) (xs : List Int) (ays : Option Addr) (lenys capys : Nat) (ys : List Int) (w : World) (hlxs : lenxs ≤ 1048576) (hlys : 1048576 < lenys) (hmys : lenys ≤ 9223372036854775807) :
    Calls Try.prog 8 #[.slice axs lenxs capxs, .slice ays lenys capys] w fun e w' => e = .returned (.bool true) ∧ Below w.heap.size w w' := by
  go_enter Try.func8, Try.ntmps8
  go_wp2
  go_ret
  exact ⟨rfl, Below.refl _ _⟩
set_option maxHeartbeats 4000000 in
theorem walk_small (axs : Option Addr) (lenxs capxs : Nat) (xs : List Int) (ays : Option Addr) (lenys capys : Nat) (ys : List Int) (w : World) (hzxs : Ints w axs lenxs xs) (hlxs : lenxs ≤ 1048576) (hzys : Ints w ays lenys ys) (hlys : lenys ≤ 1048576) :
    Calls Try.prog 8 #[.slice axs lenxs capxs, .slice ays lenys capys] w fun e w' => e = .returned (.bool true) ∧ Below w.heap.size w w' := by
  have hrxs : AllI xs := hzxs.2.1
  have hzlxs := hzxs.1
  have HZxs := Lib.hid hzxs
  clear hzxs
  have hrys : AllI ys := hzys.2.1
  have hzlys := hzys.1
  have HZys := Lib.hid hzys
  clear hzys
  have B0 := Lib.hid (Below.refl w.heap.size w)
  go_enter Try.func8, Try.ntmps8
  go_wp2_with (fail)
  refine (toI_any axs lenxs capxs xs w (HZxs.out.below B0.out) hlxs).mono ?_
  rintro e w1 ⟨rfl, r1, b1⟩
  have B1 := Lib.hid (B0.out.trans (b1.mono B0.out.size))
  have S1 := Lib.hid b1.size
  clear b1
  have Upxs := Lib.hid (World.ownsRow.lt r1)
  have Rpxs := Lib.hid r1
  clear r1
  go_wp2_with (fail)
  refine (toI_any ays lenys capys ys w1 (HZys.out.below B1.out) hlys).mono ?_
  rintro e w2 ⟨rfl, r2, b2⟩
  have Rpxs := Lib.hid (Rpxs.out.below b2)
  have B2 := Lib.hid (B1.out.trans (b2.mono B1.out.size))
  have S2 := Lib.hid b2.size
  clear b2
  have Upys := Lib.hid (World.ownsRow.lt r2)
  have Rpys := Lib.hid r2
  clear r2
  go_wp2_with (fail)
  refine (ssc_any _ lenxs lenxs xs _ lenys lenys ys w2 (Rpxs.out.ints hzlxs hrxs) hlxs (Rpys.out.ints hzlys hrys) hlys).mono ?_
  rintro e w3 ⟨v3, rfl, r3, b3⟩
  have Rpxs := Lib.hid (Rpxs.out.below b3)
  have Rpys := Lib.hid (Rpys.out.below b3)
  have B3 := Lib.hid (B2.out.trans (b3.mono B2.out.size))
  have S3 := Lib.hid b3.size
  clear b3
  have Uw := Lib.hid (World.ownsRow.lt r3)
  have Rw := Lib.hid r3
  clear r3
  clear Rpxs
  clear Rpys
  go_wp2_with (fail)
  refine (toI_any axs lenxs capxs xs w3 (HZxs.out.below B3.out) hlxs).mono ?_
  rintro e w4 ⟨rfl, r4, b4⟩
  have Rw := Lib.hid (Rw.out.below b4)
  have B4 := Lib.hid (B3.out.trans (b4.mono B3.out.size))
  have S4 := Lib.hid b4.size
  clear b4
  have Uxxs := Lib.hid (World.ownsRow.lt r4)
  have Rxxs := Lib.hid r4
  clear r4
  go_wp2_with (fail)
  refine (toI_any ays lenys capys ys w4 (HZys.out.below B4.out) hlys).mono ?_
  rintro e w5 ⟨rfl, r5, b5⟩
  have Rw := Lib.hid (Rw.out.below b5)
  have Rxxs := Lib.hid (Rxxs.out.below b5)
  have B5 := Lib.hid (B4.out.trans (b5.mono B4.out.size))
  have S5 := Lib.hid b5.size
  clear b5
  have Uxys := Lib.hid (World.ownsRow.lt r5)
  have Rxys := Lib.hid r5
  clear r5
  go_wp2_with (fail)
  refine (isc_any _ lenxs lenxs xs _ lenys lenys ys w5 (Rxxs.out.ints hzlxs hrxs) hlxs (Rxys.out.ints hzlys hrys) hlys).mono ?_
  rintro e w6 ⟨v6, rfl, r6, b6⟩
  have Rw := Lib.hid (Rw.out.below b6)
  have Rxxs := Lib.hid (Rxxs.out.below b6)
  have Rxys := Lib.hid (Rxys.out.below b6)
  have B6 := Lib.hid (B5.out.trans (b6.mono B5.out.size))
  have S6 := Lib.hid b6.size
  clear b6
  have Ug := Lib.hid (World.ownsRow.lt r6)
  have Rg := Lib.hid r6
  clear r6
  go_wp2_with (fail)
  refine (eqR_any _ _ _ _ (scL xs ys) w6 (scL_all xs ys) (by rw [scL_len]; omega) Rg.out Rw.out).mono ?_
  rintro e w7 ⟨rfl, b7⟩
  have Rw := Lib.hid (Rw.out.below b7)
  have Rxxs := Lib.hid (Rxxs.out.below b7)
  have Rxys := Lib.hid (Rxys.out.below b7)
  have Rg := Lib.hid (Rg.out.below b7)
  have B7 := Lib.hid (B6.out.trans (b7.mono B6.out.size))
  have S7 := Lib.hid b7.size
  clear b7
  go_wp2_with (fail)
  refine (toI_any axs lenxs capxs xs w7 (HZxs.out.below B7.out) hlxs).mono ?_
  rintro e w8 ⟨rfl, r8, b8⟩
  have Rw := Lib.hid (Rw.out.below b8)
  have Rxxs := Lib.hid (Rxxs.out.below b8)
  have Rxys := Lib.hid (Rxys.out.below b8)
  have Rg := Lib.hid (Rg.out.below b8)
  have B8 := Lib.hid (B7.out.trans (b8.mono B7.out.size))
  have S8 := Lib.hid b8.size
  clear b8
  have Uq := Lib.hid (World.ownsRow.lt r8)
  have Rq := Lib.hid r8
  clear r8
  go_wp2_with (fail)
  refine (eqR_any _ _ _ _ xs w8 hrxs (by rw [hzlxs]; exact hlxs) Rxxs.out Rq.out).mono ?_
  rintro e w9 ⟨rfl, b9⟩
  have Rw := Lib.hid (Rw.out.below b9)
  have Rxxs := Lib.hid (Rxxs.out.below b9)
  have Rxys := Lib.hid (Rxys.out.below b9)
  have Rg := Lib.hid (Rg.out.below b9)
  have Rq := Lib.hid (Rq.out.below b9)
  have B9 := Lib.hid (B8.out.trans (b9.mono B8.out.size))
  have S9 := Lib.hid b9.size
  clear b9
  clear Rq
  go_wp2_with (fail)
  refine (toI_any ays lenys capys ys w9 (HZys.out.below B9.out) hlys).mono ?_
  rintro e w10 ⟨rfl, r10, b10⟩
  have Rw := Lib.hid (Rw.out.below b10)
  have Rxxs := Lib.hid (Rxxs.out.below b10)
  have Rxys := Lib.hid (Rxys.out.below b10)
  have Rg := Lib.hid (Rg.out.below b10)
  have B10 := Lib.hid (B9.out.trans (b10.mono B9.out.size))
  have S10 := Lib.hid b10.size
  clear b10
  have Uq := Lib.hid (World.ownsRow.lt r10)
  have Rq := Lib.hid r10
  clear r10
  go_wp2_with (fail)
  refine (eqR_any _ _ _ _ ys w10 hrys (by rw [hzlys]; exact hlys) Rxys.out Rq.out).mono ?_
  rintro e w11 ⟨rfl, b11⟩
  have Rw := Lib.hid (Rw.out.below b11)
  have Rxxs := Lib.hid (Rxxs.out.below b11)
  have Rxys := Lib.hid (Rxys.out.below b11)
  have Rg := Lib.hid (Rg.out.below b11)
  have Rq := Lib.hid (Rq.out.below b11)
  have B11 := Lib.hid (B10.out.trans (b11.mono B10.out.size))
  have S11 := Lib.hid b11.size
  clear b11
  clear Rq
  go_wp2_with (fail)
  refine (markI_int _ (1) _ _ xs w11 (by rw [hzlxs]; exact hlxs) (by omega) (by omega) Rxxs.out).mono ?_
  rintro e w12 ⟨rfl, r12, g12⟩
  have B12 := Lib.hid (B11.out.grown g12 B11.out.size (fun k hk => Nat.le_trans B3.out.size (Uxxs.out k hk).1))
  have S12 := Lib.hid g12.size
  have Rw := Lib.hid (Rw.out.kept g12 (apart_U Uw.out Uxxs.out (Nat.le_refl _)))
  have Rxys := Lib.hid (Rxys.out.kept g12 (apart_sym (apart_U Uxxs.out Uxys.out (Nat.le_refl _))))
  have Rg := Lib.hid (Rg.out.kept g12 (apart_sym (apart_U Uxxs.out Ug.out (by have := S5.out; omega))))
  have Rxxs := Lib.hid r12
  clear r12 g12
  go_wp2_with (fail)
  refine (markI_int _ (1 + xs.length) _ _ ys w12 (by rw [hzlys]; exact hlys) (by omega) (by omega) Rxys.out).mono ?_
  rintro e w13 ⟨rfl, r13, g13⟩
  have B13 := Lib.hid (B12.out.grown g13 B12.out.size (fun k hk => Nat.le_trans B4.out.size (Uxys.out k hk).1))
  have S13 := Lib.hid g13.size
  have Rw := Lib.hid (Rw.out.kept g13 (apart_U Uw.out Uxys.out (by have := S4.out; omega)))
  have Rxxs := Lib.hid (Rxxs.out.kept g13 (apart_U Uxxs.out Uxys.out (Nat.le_refl _)))
  have Rg := Lib.hid (Rg.out.kept g13 (apart_sym (apart_U Uxys.out Ug.out (Nat.le_refl _))))
  have Rxys := Lib.hid r13
  clear r13 g13
  clear Rxxs
  clear Rxys
  go_wp2_with (fail)
  refine (eqR_any _ _ _ _ (scL xs ys) w13 (scL_all xs ys) (by rw [scL_len]; omega) Rg.out Rw.out).mono ?_
  rintro e w14 ⟨rfl, b14⟩
  have Rw := Lib.hid (Rw.out.below b14)
  have Rg := Lib.hid (Rg.out.below b14)
  have B14 := Lib.hid (B13.out.trans (b14.mono B13.out.size))
  have S14 := Lib.hid b14.size
  clear b14
  go_wp2_with (fail)
  refine (markI_int _ (1) _ _ (scL xs ys) w14 (by rw [scL_len]; omega) (by omega) (by omega) Rg.out).mono ?_
  rintro e w15 ⟨rfl, r15, g15⟩
  have B15 := Lib.hid (B14.out.grown g15 B14.out.size (fun k hk => Nat.le_trans B5.out.size (Ug.out k hk).1))
  have S15 := Lib.hid g15.size
  have Rw := Lib.hid (Rw.out.kept g15 (apart_U Uw.out Ug.out (by have := S4.out; have := S5.out; omega)))
  have Rg := Lib.hid r15
  clear r15 g15
  go_wp2_with (fail)
  refine (heldI_any _ 1 (scL xs ys).length _ w15 (by rw [scL_len]; omega) (by omega) Rg.out).mono ?_
  rintro e w16 ⟨rfl, h16⟩
  have b16 : Below w15.heap.size w15 w16 := by rw [h16]; exact Below.refl _ _
  clear h16
  have Rw := Lib.hid (Rw.out.below b16)
  have Rg := Lib.hid (Rg.out.below b16)
  have B16 := Lib.hid (B15.out.trans (b16.mono B15.out.size))
  have S16 := Lib.hid b16.size
  clear b16
  go_wp2_with (fail)
  refine (toI_any axs lenxs capxs xs w16 (HZxs.out.below B16.out) hlxs).mono ?_
  rintro e w17 ⟨rfl, r17, b17⟩
  have Rw := Lib.hid (Rw.out.below b17)
  have Rg := Lib.hid (Rg.out.below b17)
  have B17 := Lib.hid (B16.out.trans (b17.mono B16.out.size))
  have S17 := Lib.hid b17.size
  clear b17
  have Upxs := Lib.hid (World.ownsRow.lt r17)
  have Rpxs := Lib.hid r17
  clear r17
  go_wp2_with (fail)
  refine (toI_any ays lenys capys ys w17 (HZys.out.below B17.out) hlys).mono ?_
  rintro e w18 ⟨rfl, r18, b18⟩
  have Rw := Lib.hid (Rw.out.below b18)
  have Rg := Lib.hid (Rg.out.below b18)
  have Rpxs := Lib.hid (Rpxs.out.below b18)
  have B18 := Lib.hid (B17.out.trans (b18.mono B17.out.size))
  have S18 := Lib.hid b18.size
  clear b18
  have Upys := Lib.hid (World.ownsRow.lt r18)
  have Rpys := Lib.hid r18
  clear r18
  go_wp2_with (fail)
  refine (isc_any _ lenxs lenxs xs _ lenys lenys ys w18 (Rpxs.out.ints hzlxs hrxs) hlxs (Rpys.out.ints hzlys hrys) hlys).mono ?_
  rintro e w19 ⟨v19, rfl, r19, b19⟩
  have Rw := Lib.hid (Rw.out.below b19)
  have Rg := Lib.hid (Rg.out.below b19)
  have Rpxs := Lib.hid (Rpxs.out.below b19)
  have Rpys := Lib.hid (Rpys.out.below b19)
  have B19 := Lib.hid (B18.out.trans (b19.mono B18.out.size))
  have S19 := Lib.hid b19.size
  clear b19
  have Uh := Lib.hid (World.ownsRow.lt r19)
  have Rh := Lib.hid r19
  clear r19
  clear Rpxs
  clear Rpys
  go_wp2_with (fail)
  refine (eqR_any _ _ _ _ (scL xs ys) w19 (scL_all xs ys) (by rw [scL_len]; omega) Rh.out Rw.out).mono ?_
  rintro e w20 ⟨rfl, b20⟩
  have Rw := Lib.hid (Rw.out.below b20)
  have Rg := Lib.hid (Rg.out.below b20)
  have Rh := Lib.hid (Rh.out.below b20)
  have B20 := Lib.hid (B19.out.trans (b20.mono B19.out.size))
  have S20 := Lib.hid b20.size
  clear b20
  go_wp2_with (fail)
  refine (heldI_any _ 1 (scL xs ys).length _ w20 (by rw [scL_len]; omega) (by omega) Rg.out).mono ?_
  rintro e w21 ⟨rfl, h21⟩
  have b21 : Below w20.heap.size w20 w21 := by rw [h21]; exact Below.refl _ _
  clear h21
  have Rw := Lib.hid (Rw.out.below b21)
  have Rg := Lib.hid (Rg.out.below b21)
  have Rh := Lib.hid (Rh.out.below b21)
  have B21 := Lib.hid (B20.out.trans (b21.mono B20.out.size))
  have S21 := Lib.hid b21.size
  clear b21
  go_wp2
  go_ret
  exact ⟨rfl, B21.out⟩
theorem walk (axs : Option Addr) (lenxs capxs : Nat) (xs : List Int) (ays : Option Addr) (lenys capys : Nat) (ys : List Int) (w : World) (hzxs : Ints w axs lenxs xs) (hmxs : lenxs ≤ 9223372036854775807) (hzys : Ints w ays lenys ys) (hmys : lenys ≤ 9223372036854775807) :
    Calls Try.prog 8 #[.slice axs lenxs capxs, .slice ays lenys capys] w fun e w' => e = .returned (.bool true) ∧ Below w.heap.size w w' := by
  by_cases hlxs : 1048576 < lenxs
  · exact walk_big_xs axs lenxs capxs xs ays lenys capys ys w  hlxs hmxs
  · by_cases hlys : 1048576 < lenys
    · exact walk_big_ys axs lenxs capxs xs ays lenys capys ys w (by omega) hlys hmys
    · exact walk_small axs lenxs capxs xs ays lenys capys ys w hzxs (by omega) hzys (by omega)

theorem laidOut : laidOutB Try.prog = true := by kernel_rfl

set_option maxRecDepth 100000 in
theorem lifted (os : Os) (started : os.Started) (H : Type) (enc : TypeId × Value → H) :
    ReturnsInHanded {} Try.checked os 8 .any (Rows.fnExactScaledSpec.pre6 enc Try.prog Try.f8 Rows.fnExactScaledRow.domain false) (Rows.fnExactScaledSpec.post enc Try.prog Try.f8 false true false false) := by
  refine returnsInHanded_of_change (C := Try.checked) own started (by kernel_rfl) Try.func8
    (ChangeSpec.witness6 (enc := enc) (C := Try.checked) false ⟨#[], #[.slice none 0 0, .slice none 0 0], []⟩ 8 (by kernel_rfl) (by kernel_rfl) (by kernel_rfl) (by kernel_rfl)) ?_
  intro W base args ds gs before hval0 hW hcnd _
  have hval : ∀ (j : Nat) t v, Try.f8.params[j]? = some t → args[j]? = some v → Value.okWide Try.prog W .any base t v := hval0
  have hW' := hW
  obtain ⟨p, q, hA0, hV, rfl, hfz, hnd⟩ := hW
  have hA : DataW.TrodAll enc Try.prog W 0 (fun _ => true) true Try.f8.params.toList args.toList ds p := hA0
  rw [Try.params8] at hA hval
  obtain ⟨v0, vs0, d0, ds0, p0, q0, hargs, rfl, rfl, h0, r0⟩ := trodAll_cons hA
  obtain ⟨v1, vs1, d1, ds1, p1, q1, rfl, rfl, rfl, h1, r1⟩ := trodAll_cons r0
  obtain ⟨rfl, rfl, rfl⟩ := trodAll_nil r1
  obtain rfl : args = #[v0, v1] := by cases args; simp_all
  obtain ⟨rfl, rfl⟩ := trodVars_none hV
  have k0 := h0
  have lt0 : ∀ x ∈ p0, x.block < W.heap.size := by obtain ⟨m, hm⟩ := k0; exact DataW.trod_lt m _ _ _ hm
  obtain ⟨a0, len0, cap0, rfl⟩ := okWide_slice Try.underlying24 (hval 0 24 v0 rfl rfl)
  obtain ⟨z0, hz0, hm0⟩ := ints_of h0
  have k1 := h1
  have lt1 : ∀ x ∈ p1, x.block < W.heap.size := by obtain ⟨m, hm⟩ := k1; exact DataW.trod_lt m _ _ _ hm
  obtain ⟨a1, len1, cap1, rfl⟩ := okWide_slice Try.underlying24 (hval 1 24 v1 rfl rfl)
  obtain ⟨z1, hz1, hm1⟩ := ints_of h1
  clear hA0 hval0
  refine (walk a0 len0 cap0 z0 a1 len1 cap1 z1 W hz0 hm0 hz1 hm1).mono fun e W' ⟨he, bel⟩ => ?_
  subst he
  exact ⟨_, rfl, law_post (pa := _) (pv := []) hW' (trodAll_cons_mk (shut_bool Try.underlying4 _) trodAll_mk0) (trodAll_cons_mk (Below.trod laidOut (by kernel_rfl) (of_decide_eq_true (by kernel_rfl)) k0 bel lt0) (trodAll_cons_mk (Below.trod laidOut (by kernel_rfl) (of_decide_eq_true (by kernel_rfl)) k1 bel lt1) trodAll_mk0)) rfl rfl bel⟩

/-- The given statement. -/
theorem proved : Rows.FnExactScaledSaid :=
  OpenClaim.holds_of_wide 8 Try.f8 rfl rfl rfl rfl rfl rfl rfl ⟨rfl, rfl, rfl, rfl, rfl⟩ rfl rfl rfl rfl rfl (by kernel_rfl) Try.func8 (by kernel_rfl)
    (of_decide_eq_true (by kernel_rfl)) (by unfold Func.isWrapper; first | (rw [if_pos (by decide +kernel)]; kernel_rfl) | (rw [if_neg (by decide +kernel)]; exact ⟨rfl, rfl⟩))
    (fun os started H enc _ => lifted os started H enc)
#print axioms proved
end Go.Proofs.Ytohpcjoifeoolaa.fnExactScaled

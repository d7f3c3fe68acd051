/-
  For all arguments, laws.FnExactLineSizes returns true: the function answers as its model, writes into no argument, and its answer is memory of its own; the arguments read as before. Conditions: none.
-/
import Derived.Test.YtopfiogmbnfjcaaLnZ
import Derived.Test.YtopfiogmbnfjcaaItL
import Derived.Test.YtopfiogmbnfjcaaItK
import Derived.Test.YtopfiogmbnfjcaaIntS
namespace Go.Proofs.Ytopfiogmbnfjcaa.fnExactLineSizes
open Go.ChangeShapes Go.WideShapes Go.ChangeAt Go.RowKit
set_option linter.unusedVariables false
set_option linter.unusedSimpArgs false

theorem walk_big_xs (axs : Option Addr) (capxs : Nat) (xs : List It) (gap : Int) (gap0 : -9223372036854775808 ≤ gap) (gap1 : gap ≤ 9223372036854775807) (room : Int) (room0 : -9223372036854775808 ≤ room) (room1 : room ≤ 9223372036854775807) (wraps : Bool) (inner : Int) (inner0 : -9223372036854775808 ≤ inner) (inner1 : inner ≤ 9223372036854775807) (w : World)  (hlxs : 1048576 < xs.length) (hmxs : xs.length ≤ 9223372036854775807) :
    Calls Try.prog 13 #[.slice axs xs.length capxs, .int .i64 gap, .int .i64 room, .bool wraps, .int .i64 inner] w fun e w' => e = .returned (.bool true) ∧ Below w.heap.size w w' := by
  go_enter Try.func13, Try.ntmps13
  go_wp2_with (fail)
  refine (szit_big axs xs.length capxs 1048576 _ (by omega) (by omega) hmxs).mono ?_
  rintro e w1 ⟨rfl, rfl⟩
  go_wp2
  go_ret
  exact ⟨rfl, Below.refl _ _⟩
set_option maxHeartbeats 4000000 in
theorem walk_small (axs : Option Addr) (capxs : Nat) (xs : List It) (gap : Int) (gap0 : -9223372036854775808 ≤ gap) (gap1 : gap ≤ 9223372036854775807) (room : Int) (room0 : -9223372036854775808 ≤ room) (room1 : room ≤ 9223372036854775807) (wraps : Bool) (inner : Int) (inner0 : -9223372036854775808 ≤ inner) (inner1 : inner ≤ 9223372036854775807) (w : World) (hzxs : Its w axs xs) (hlxs : xs.length ≤ 1048576) :
    Calls Try.prog 13 #[.slice axs xs.length capxs, .int .i64 gap, .int .i64 room, .bool wraps, .int .i64 inner] w fun e w' => e = .returned (.bool true) ∧ Below w.heap.size w w' := by
  have hrxs := hzxs.1
  have HZxs := Lib.hid hzxs
  clear hzxs
  have B0 := Lib.hid (Below.refl w.heap.size w)
  go_enter Try.func13, Try.ntmps13
  go_wp2_with (fail)
  refine (szit_fit axs xs.length capxs 1048576 w (by omega) (by omega)).mono ?_
  rintro e w1 ⟨rfl, b1⟩
  replace b1 : Below w.heap.size w w1 := by rw [b1]; exact Below.refl _ _
  have B1 := Lib.hid (B0.out.trans (b1.mono B0.out.size))
  have S1 := Lib.hid b1.size
  clear b1
  go_wp2_with (fail)
  refine (tois_any axs capxs xs w1 (HZxs.out.below B1.out) hlxs).mono ?_
  rintro e w2 ⟨rfl, r2, b2⟩
  have B2 := Lib.hid (B1.out.trans (b2.mono B1.out.size))
  have S2 := Lib.hid b2.size
  clear b2
  have Upxs := Lib.hid (World.ownsRow.lt r2)
  have Rpxs := Lib.hid r2
  clear r2
  go_wp2_with (fail)
  refine (ssizes _ _ xs gap room wraps inner w2 (Rpxs.out.its hrxs) (by omega)).mono ?_
  rintro e w3 ⟨v3, rfl, r3, b3⟩
  have Rpxs := Lib.hid (Rpxs.out.below b3)
  have B3 := Lib.hid (B2.out.trans (b3.mono B2.out.size))
  have S3 := Lib.hid b3.size
  clear b3
  have Uw := Lib.hid (World.ownsRow.lt r3)
  have Rw := Lib.hid r3
  clear r3
  clear Rpxs
  go_wp2_with (fail)
  refine (tois_any axs capxs xs w3 (HZxs.out.below B3.out) hlxs).mono ?_
  rintro e w4 ⟨rfl, r4, b4⟩
  have Rw := Lib.hid (Rw.out.below b4)
  have B4 := Lib.hid (B3.out.trans (b4.mono B3.out.size))
  have S4 := Lib.hid b4.size
  clear b4
  have Uxxs := Lib.hid (World.ownsRow.lt r4)
  have Rxxs := Lib.hid r4
  clear r4
  go_wp2_with (fail)
  refine (isizes _ _ xs gap room wraps inner w4 (Rxxs.out.its hrxs) (by omega) (Nat.le_refl _)).mono ?_
  rintro e w5 ⟨v5, rfl, r5, b5⟩
  have Rw := Lib.hid (Rw.out.below b5)
  have Rxxs := Lib.hid (Rxxs.out.below b5)
  have B5 := Lib.hid (B4.out.trans (b5.mono B4.out.size))
  have S5 := Lib.hid b5.size
  clear b5
  have Ug := Lib.hid (World.ownsRow.lt r5)
  have Rg := Lib.hid r5
  clear r5
  go_wp2_with (fail)
  refine (eqR_any _ _ _ _ (szA xs gap room wraps inner) w5 (szA_all gap room wraps inner hrxs) ((by rw [szA_len]; exact hlxs)) Rg.out Rw.out).mono ?_
  rintro e w6 ⟨rfl, b6⟩
  have Rw := Lib.hid (Rw.out.below b6)
  have Rxxs := Lib.hid (Rxxs.out.below b6)
  have Rg := Lib.hid (Rg.out.below b6)
  have B6 := Lib.hid (B5.out.trans (b6.mono B5.out.size))
  have S6 := Lib.hid b6.size
  clear b6
  go_wp2_with (fail)
  refine (tois_any axs capxs xs w6 (HZxs.out.below B6.out) hlxs).mono ?_
  rintro e w7 ⟨rfl, r7, b7⟩
  have Rw := Lib.hid (Rw.out.below b7)
  have Rxxs := Lib.hid (Rxxs.out.below b7)
  have Rg := Lib.hid (Rg.out.below b7)
  have B7 := Lib.hid (B6.out.trans (b7.mono B6.out.size))
  have S7 := Lib.hid b7.size
  clear b7
  have Uq := Lib.hid (World.ownsRow.lt r7)
  have Rq := Lib.hid r7
  clear r7
  go_wp2_with (fail)
  refine (eqis_any _ _ _ _ xs w7 (Rxxs.out.its hrxs) (Rq.out.its hrxs) (by have := hlxs; omega)).mono ?_
  rintro e w8 ⟨rfl, b8⟩
  have Rw := Lib.hid (Rw.out.below b8)
  have Rxxs := Lib.hid (Rxxs.out.below b8)
  have Rg := Lib.hid (Rg.out.below b8)
  have Rq := Lib.hid (Rq.out.below b8)
  have B8 := Lib.hid (B7.out.trans (b8.mono B7.out.size))
  have S8 := Lib.hid b8.size
  clear b8
  clear Rq
  go_wp2_with (fail)
  refine (markis_any _ _ _ (1) _ xs w8 rfl hlxs (by omega) (by omega) Rxxs.out).mono ?_
  rintro e w9 ⟨rfl, r9, g9⟩
  have B9 := Lib.hid (B8.out.grown g9 B8.out.size (fun k hk => Nat.le_trans B3.out.size (Uxxs.out k hk).1))
  have S9 := Lib.hid g9.size
  have Rw := Lib.hid (Rw.out.kept g9 (apart_U Uw.out Uxxs.out (Nat.le_refl _)))
  have Rg := Lib.hid (Rg.out.kept g9 (apart_sym (apart_U Uxxs.out Ug.out (Nat.le_refl _))))
  have Rxxs := Lib.hid r9
  clear r9 g9
  clear Rxxs
  go_wp2_with (fail)
  refine (eqR_any _ _ _ _ (szA xs gap room wraps inner) w9 (szA_all gap room wraps inner hrxs) ((by rw [szA_len]; exact hlxs)) Rg.out Rw.out).mono ?_
  rintro e w10 ⟨rfl, b10⟩
  have Rw := Lib.hid (Rw.out.below b10)
  have Rg := Lib.hid (Rg.out.below b10)
  have B10 := Lib.hid (B9.out.trans (b10.mono B9.out.size))
  have S10 := Lib.hid b10.size
  clear b10
  go_wp2_with (fail)
  refine (markI_int _ (1) _ _ (szA xs gap room wraps inner) w10 ((by rw [szA_len]; exact hlxs)) (by omega) (by omega) Rg.out).mono ?_
  rintro e w11 ⟨rfl, r11, g11⟩
  have B11 := Lib.hid (B10.out.grown g11 B10.out.size (fun k hk => Nat.le_trans B4.out.size (Ug.out k hk).1))
  have S11 := Lib.hid g11.size
  have Rw := Lib.hid (Rw.out.kept g11 (apart_U Uw.out Ug.out (by have := S4.out; omega)))
  have Rg := Lib.hid r11
  clear r11 g11
  go_wp2_with (fail)
  refine (heldI_any _ 1 (szA xs gap room wraps inner).length _ w11 ((by rw [szA_len]; exact hlxs)) (by omega) Rg.out).mono ?_
  rintro e w12 ⟨rfl, h12⟩
  have b12 : Below w11.heap.size w11 w12 := by rw [h12]; exact Below.refl _ _
  clear h12
  have Rw := Lib.hid (Rw.out.below b12)
  have Rg := Lib.hid (Rg.out.below b12)
  have B12 := Lib.hid (B11.out.trans (b12.mono B11.out.size))
  have S12 := Lib.hid b12.size
  clear b12
  go_wp2_with (fail)
  refine (tois_any axs capxs xs w12 (HZxs.out.below B12.out) hlxs).mono ?_
  rintro e w13 ⟨rfl, r13, b13⟩
  have Rw := Lib.hid (Rw.out.below b13)
  have Rg := Lib.hid (Rg.out.below b13)
  have B13 := Lib.hid (B12.out.trans (b13.mono B12.out.size))
  have S13 := Lib.hid b13.size
  clear b13
  have Upxs := Lib.hid (World.ownsRow.lt r13)
  have Rpxs := Lib.hid r13
  clear r13
  go_wp2_with (fail)
  refine (isizes _ _ xs gap room wraps inner w13 (Rpxs.out.its hrxs) (by omega) (Nat.le_refl _)).mono ?_
  rintro e w14 ⟨v14, rfl, r14, b14⟩
  have Rw := Lib.hid (Rw.out.below b14)
  have Rg := Lib.hid (Rg.out.below b14)
  have Rpxs := Lib.hid (Rpxs.out.below b14)
  have B14 := Lib.hid (B13.out.trans (b14.mono B13.out.size))
  have S14 := Lib.hid b14.size
  clear b14
  have Uh := Lib.hid (World.ownsRow.lt r14)
  have Rh := Lib.hid r14
  clear r14
  clear Rpxs
  go_wp2_with (fail)
  refine (eqR_any _ _ _ _ (szA xs gap room wraps inner) w14 (szA_all gap room wraps inner hrxs) ((by rw [szA_len]; exact hlxs)) Rh.out Rw.out).mono ?_
  rintro e w15 ⟨rfl, b15⟩
  have Rw := Lib.hid (Rw.out.below b15)
  have Rg := Lib.hid (Rg.out.below b15)
  have Rh := Lib.hid (Rh.out.below b15)
  have B15 := Lib.hid (B14.out.trans (b15.mono B14.out.size))
  have S15 := Lib.hid b15.size
  clear b15
  go_wp2_with (fail)
  refine (heldI_any _ 1 (szA xs gap room wraps inner).length _ w15 ((by rw [szA_len]; exact hlxs)) (by omega) Rg.out).mono ?_
  rintro e w16 ⟨rfl, h16⟩
  have b16 : Below w15.heap.size w15 w16 := by rw [h16]; exact Below.refl _ _
  clear h16
  have Rw := Lib.hid (Rw.out.below b16)
  have Rg := Lib.hid (Rg.out.below b16)
  have Rh := Lib.hid (Rh.out.below b16)
  have B16 := Lib.hid (B15.out.trans (b16.mono B15.out.size))
  have S16 := Lib.hid b16.size
  clear b16
  go_wp2
  go_ret
  exact ⟨rfl, B16.out⟩
theorem walk (axs : Option Addr) (capxs : Nat) (xs : List It) (gap : Int) (gap0 : -9223372036854775808 ≤ gap) (gap1 : gap ≤ 9223372036854775807) (room : Int) (room0 : -9223372036854775808 ≤ room) (room1 : room ≤ 9223372036854775807) (wraps : Bool) (inner : Int) (inner0 : -9223372036854775808 ≤ inner) (inner1 : inner ≤ 9223372036854775807) (w : World) (hzxs : Its w axs xs) (hmxs : xs.length ≤ 9223372036854775807) :
    Calls Try.prog 13 #[.slice axs xs.length capxs, .int .i64 gap, .int .i64 room, .bool wraps, .int .i64 inner] w fun e w' => e = .returned (.bool true) ∧ Below w.heap.size w w' := by
  by_cases hlxs : 1048576 < xs.length
  · exact walk_big_xs axs capxs xs gap gap0 gap1 room room0 room1 wraps inner inner0 inner1 w  hlxs hmxs
  · exact walk_small axs capxs xs gap gap0 gap1 room room0 room1 wraps inner inner0 inner1 w hzxs (by omega)

theorem laidOut : laidOutB Try.prog = true := by kernel_rfl

set_option maxRecDepth 100000 in
theorem lifted (os : Os) (started : os.Started) (H : Type) (enc : TypeId × Value → H) :
    ReturnsInHanded {} Try.checked os 13 .any (Rows.fnExactLineSizesSpec.pre6 enc Try.prog Try.f13 Rows.fnExactLineSizesRow.domain false) (Rows.fnExactLineSizesSpec.post enc Try.prog Try.f13 false true false false) := by
  refine returnsInHanded_of_change (C := Try.checked) own started (by kernel_rfl) Try.func13
    (ChangeSpec.witness6 (enc := enc) (C := Try.checked) false ⟨#[], #[.slice none 0 0, .int .i64 0, .int .i64 0, .bool false, .int .i64 0], []⟩ 8 (by kernel_rfl) (by kernel_rfl) (by kernel_rfl) (by kernel_rfl)) ?_
  intro W base args ds gs before hval0 hW hcnd _
  have hval : ∀ (j : Nat) t v, Try.f13.params[j]? = some t → args[j]? = some v → Value.okWide Try.prog W .any base t v := hval0
  have hW' := hW
  obtain ⟨p, q, hA0, hV, rfl, hfz, hnd⟩ := hW
  have hA : DataW.TrodAll enc Try.prog W 0 (fun _ => true) true Try.f13.params.toList args.toList ds p := hA0
  rw [Try.params13] at hA hval
  obtain ⟨v0, vs0, d0, ds0, p0, q0, hargs, rfl, rfl, h0, r0⟩ := trodAll_cons hA
  obtain ⟨v1, vs1, d1, ds1, p1, q1, rfl, rfl, rfl, h1, r1⟩ := trodAll_cons r0
  obtain ⟨v2, vs2, d2, ds2, p2, q2, rfl, rfl, rfl, h2, r2⟩ := trodAll_cons r1
  obtain ⟨v3, vs3, d3, ds3, p3, q3, rfl, rfl, rfl, h3, r3⟩ := trodAll_cons r2
  obtain ⟨v4, vs4, d4, ds4, p4, q4, rfl, rfl, rfl, h4, r4⟩ := trodAll_cons r3
  obtain ⟨rfl, rfl, rfl⟩ := trodAll_nil r4
  obtain rfl : args = #[v0, v1, v2, v3, v4] := by cases args; simp_all
  obtain ⟨rfl, rfl⟩ := trodVars_none hV
  have k0 := h0
  have lt0 : ∀ x ∈ p0, x.block < W.heap.size := by obtain ⟨m, hm⟩ := k0; exact DataW.trod_lt m _ _ _ hm
  obtain ⟨a0, len0, cap0, rfl⟩ := okWide_slice Try.underlying51 (hval 0 51 v0 rfl rfl)
  obtain ⟨z0, rfl, hz0, hm0⟩ := items_of h0
  have k1 := h1
  have lt1 : ∀ x ∈ p1, x.block < W.heap.size := by obtain ⟨m, hm⟩ := k1; exact DataW.trod_lt m _ _ _ hm
  obtain ⟨a1, rfl, rfl, rfl, w1⟩ := open_int Try.underlying3 (hval 1 3 v1 rfl rfl) h1
  have b1 := bounds_i64 w1
  have k2 := h2
  have lt2 : ∀ x ∈ p2, x.block < W.heap.size := by obtain ⟨m, hm⟩ := k2; exact DataW.trod_lt m _ _ _ hm
  obtain ⟨a2, rfl, rfl, rfl, w2⟩ := open_int Try.underlying3 (hval 2 3 v2 rfl rfl) h2
  have b2 := bounds_i64 w2
  have k3 := h3
  have lt3 : ∀ x ∈ p3, x.block < W.heap.size := by obtain ⟨m, hm⟩ := k3; exact DataW.trod_lt m _ _ _ hm
  obtain ⟨a3, rfl, rfl, rfl⟩ := open_bool Try.underlying4 (hval 3 4 v3 rfl rfl) h3
  have k4 := h4
  have lt4 : ∀ x ∈ p4, x.block < W.heap.size := by obtain ⟨m, hm⟩ := k4; exact DataW.trod_lt m _ _ _ hm
  obtain ⟨a4, rfl, rfl, rfl, w4⟩ := open_int Try.underlying3 (hval 4 3 v4 rfl rfl) h4
  have b4 := bounds_i64 w4
  clear hA0 hval0
  refine (walk a0 cap0 z0 a1 b1.1 b1.2 a2 b2.1 b2.2 a3 a4 b4.1 b4.2 W hz0 hm0).mono fun e W' ⟨he, bel⟩ => ?_
  subst he
  exact ⟨_, rfl, law_post (pa := _) (pv := []) hW' (trodAll_cons_mk (shut_bool Try.underlying4 _) trodAll_mk0) (trodAll_cons_mk (Below.trod laidOut (by kernel_rfl) (of_decide_eq_true (by kernel_rfl)) k0 bel lt0) (trodAll_cons_mk (Below.trod laidOut (by kernel_rfl) (of_decide_eq_true (by kernel_rfl)) k1 bel lt1) (trodAll_cons_mk (Below.trod laidOut (by kernel_rfl) (of_decide_eq_true (by kernel_rfl)) k2 bel lt2) (trodAll_cons_mk (Below.trod laidOut (by kernel_rfl) (of_decide_eq_true (by kernel_rfl)) k3 bel lt3) (trodAll_cons_mk (Below.trod laidOut (by kernel_rfl) (of_decide_eq_true (by kernel_rfl)) k4 bel lt4) trodAll_mk0))))) rfl rfl bel⟩

/-- The given statement. -/
theorem proved : Rows.FnExactLineSizesSaid :=
  OpenClaim.holds_of_wide 13 Try.f13 rfl rfl rfl rfl rfl rfl rfl ⟨rfl, rfl, rfl, rfl, rfl⟩ rfl rfl rfl rfl rfl (by kernel_rfl) Try.func13 (by kernel_rfl)
    (of_decide_eq_true (by kernel_rfl)) (by unfold Func.isWrapper; first | (rw [if_pos (by decide +kernel)]; kernel_rfl) | (rw [if_neg (by decide +kernel)]; exact ⟨rfl, rfl⟩))
    (fun os started H enc _ => lifted os started H enc)
#print axioms proved
end Go.Proofs.Ytopfiogmbnfjcaa.fnExactLineSizes

/-
  For all arguments, laws.FnExactEndsAlong returns true: the function answers as its model, writes into no argument; the arguments read as before. Conditions: none.
-/
import Derived.Test.YtnncdpkmhpjmbaaLgT
import Derived.Test.YtnncdpkmhpjmbaaItL
import Derived.Test.YtnncdpkmhpjmbaaIntS
namespace Go.Proofs.Ytnncdpkmhpjmbaa.fnExactEndsAlong
open Go.ChangeShapes Go.WideShapes Go.ChangeAt Go.RowKit
set_option linter.unusedVariables false
set_option linter.unusedSimpArgs false

theorem walk_big_zs (axs : Option Addr) (capxs : Nat) (xs : List It) (azs : Option Addr) (lenzs capzs : Nat) (zs : List Int) (gap : Int) (gap0 : -9223372036854775808 ≤ gap) (gap1 : gap ≤ 9223372036854775807) (inner : Int) (inner0 : -9223372036854775808 ≤ inner) (inner1 : inner ≤ 9223372036854775807) (js : Int) (js0 : -9223372036854775808 ≤ js) (js1 : js ≤ 9223372036854775807) (w : World)  (hlzs : 1048576 < lenzs) (hmzs : lenzs ≤ 9223372036854775807) :
    Calls Try.prog 11 #[.slice axs xs.length capxs, .slice azs lenzs capzs, .int .i64 gap, .int .i64 inner, .int .i64 js] w fun e w' => e = .returned (.bool true) ∧ Below w.heap.size w w' := by
  go_enter Try.func11, Try.ntmps11
  go_wp2
  go_ret
  exact ⟨rfl, Below.refl _ _⟩
theorem walk_big_xs (axs : Option Addr) (capxs : Nat) (xs : List It) (azs : Option Addr) (lenzs capzs : Nat) (zs : List Int) (gap : Int) (gap0 : -9223372036854775808 ≤ gap) (gap1 : gap ≤ 9223372036854775807) (inner : Int) (inner0 : -9223372036854775808 ≤ inner) (inner1 : inner ≤ 9223372036854775807) (js : Int) (js0 : -9223372036854775808 ≤ js) (js1 : js ≤ 9223372036854775807) (w : World) (hlzs : lenzs ≤ 1048576) (hlxs : 1048576 < xs.length) (hmxs : xs.length ≤ 9223372036854775807) :
    Calls Try.prog 11 #[.slice axs xs.length capxs, .slice azs lenzs capzs, .int .i64 gap, .int .i64 inner, .int .i64 js] w fun e w' => e = .returned (.bool true) ∧ Below w.heap.size w w' := by
  go_enter Try.func11, Try.ntmps11
  go_wp2_with (fail)
  refine (szit_big axs xs.length capxs 1048576 _ (by omega) (by omega) hmxs).mono ?_
  rintro e w1 ⟨rfl, rfl⟩
  go_wp2
  go_ret
  exact ⟨rfl, Below.refl _ _⟩
set_option maxHeartbeats 4000000 in
theorem walk_small (axs : Option Addr) (capxs : Nat) (xs : List It) (azs : Option Addr) (lenzs capzs : Nat) (zs : List Int) (gap : Int) (gap0 : -9223372036854775808 ≤ gap) (gap1 : gap ≤ 9223372036854775807) (inner : Int) (inner0 : -9223372036854775808 ≤ inner) (inner1 : inner ≤ 9223372036854775807) (js : Int) (js0 : -9223372036854775808 ≤ js) (js1 : js ≤ 9223372036854775807) (w : World) (hzxs : Its w axs xs) (hlxs : xs.length ≤ 1048576) (hzzs : Ints w azs lenzs zs) (hlzs : lenzs ≤ 1048576) :
    Calls Try.prog 11 #[.slice axs xs.length capxs, .slice azs lenzs capzs, .int .i64 gap, .int .i64 inner, .int .i64 js] w fun e w' => e = .returned (.bool true) ∧ Below w.heap.size w w' := by
  have hrxs := hzxs.1
  have HZxs := Lib.hid hzxs
  clear hzxs
  have hrzs := hzzs.2.1
  have hzlzs := hzzs.1
  have HZzs := Lib.hid hzzs
  clear hzzs
  have B0 := Lib.hid (Below.refl w.heap.size w)
  go_enter Try.func11, Try.ntmps11
  go_wp2_with (fail)
  refine (szit_fit axs xs.length capxs 1048576 w (by omega) (by omega)).mono ?_
  rintro e w1 ⟨rfl, b1⟩
  replace b1 : Below w.heap.size w w1 := by rw [b1]; exact Below.refl _ _
  have B1 := Lib.hid (B0.out.trans (b1.mono B0.out.size))
  have S1 := Lib.hid b1.size
  clear b1
  go_wp2_with (fail)
  refine (tois_any axs capxs xs w1 (HZxs.out.below B1.out) hlxs).mono ?_
  rintro e w2 ⟨rfl, r2, b2⟩
  have B2 := Lib.hid (B1.out.trans (b2.mono B1.out.size))
  have S2 := Lib.hid b2.size
  clear b2
  have Upxs := Lib.hid (World.ownsRow.lt r2)
  have Rpxs := Lib.hid r2
  clear r2
  go_wp2_with (fail)
  refine (toI_any azs lenzs capzs zs w2 (HZzs.out.below B2.out) hlzs).mono ?_
  rintro e w3 ⟨rfl, r3, b3⟩
  have Rpxs := Lib.hid (Rpxs.out.below b3)
  have B3 := Lib.hid (B2.out.trans (b3.mono B2.out.size))
  have S3 := Lib.hid b3.size
  clear b3
  have Upzs := Lib.hid (World.ownsRow.lt r3)
  have Rpzs := Lib.hid r3
  clear r3
  go_wp2_with (fail)
  refine (sends_along _ _ xs _ lenzs lenzs zs gap inner js w3 (Rpxs.out.its hrxs) (by omega) (Rpzs.out.ints hzlzs hrzs) (by omega)).mono ?_
  rintro e w4 ⟨rfl, b4⟩
  have Rpxs := Lib.hid (Rpxs.out.below b4)
  have Rpzs := Lib.hid (Rpzs.out.below b4)
  have B4 := Lib.hid (B3.out.trans (b4.mono B3.out.size))
  have S4 := Lib.hid b4.size
  clear b4
  clear Rpxs
  clear Rpzs
  go_wp2_with (fail)
  refine (tois_any axs capxs xs w4 (HZxs.out.below B4.out) hlxs).mono ?_
  rintro e w5 ⟨rfl, r5, b5⟩
  have B5 := Lib.hid (B4.out.trans (b5.mono B4.out.size))
  have S5 := Lib.hid b5.size
  clear b5
  have Uxxs := Lib.hid (World.ownsRow.lt r5)
  have Rxxs := Lib.hid r5
  clear r5
  go_wp2_with (fail)
  refine (toI_any azs lenzs capzs zs w5 (HZzs.out.below B5.out) hlzs).mono ?_
  rintro e w6 ⟨rfl, r6, b6⟩
  have Rxxs := Lib.hid (Rxxs.out.below b6)
  have B6 := Lib.hid (B5.out.trans (b6.mono B5.out.size))
  have S6 := Lib.hid b6.size
  clear b6
  have Uxzs := Lib.hid (World.ownsRow.lt r6)
  have Rxzs := Lib.hid r6
  clear r6
  go_wp2_with (fail)
  refine (iends_along _ _ xs _ lenzs lenzs zs gap inner js w6 (Rxxs.out.its hrxs) (by omega) (Rxzs.out.ints hzlzs hrzs) (by omega)).mono ?_
  rintro e w7 ⟨rfl, b7⟩
  have Rxxs := Lib.hid (Rxxs.out.below b7)
  have Rxzs := Lib.hid (Rxzs.out.below b7)
  have B7 := Lib.hid (B6.out.trans (b7.mono B6.out.size))
  have S7 := Lib.hid b7.size
  clear b7
  generalize (edA xs zs gap inner js) = ANSW at *
  go_wp2_with (fail)
  refine (tois_any axs capxs xs w7 (HZxs.out.below B7.out) hlxs).mono ?_
  rintro e w8 ⟨rfl, r8, b8⟩
  have Rxxs := Lib.hid (Rxxs.out.below b8)
  have Rxzs := Lib.hid (Rxzs.out.below b8)
  have B8 := Lib.hid (B7.out.trans (b8.mono B7.out.size))
  have S8 := Lib.hid b8.size
  clear b8
  have Uq := Lib.hid (World.ownsRow.lt r8)
  have Rq := Lib.hid r8
  clear r8
  go_wp2_with (fail)
  refine (eqis_any _ _ _ _ xs w8 (Rxxs.out.its hrxs) (Rq.out.its hrxs) (by have := hlxs; omega)).mono ?_
  rintro e w9 ⟨rfl, b9⟩
  have Rxxs := Lib.hid (Rxxs.out.below b9)
  have Rxzs := Lib.hid (Rxzs.out.below b9)
  have Rq := Lib.hid (Rq.out.below b9)
  have B9 := Lib.hid (B8.out.trans (b9.mono B8.out.size))
  have S9 := Lib.hid b9.size
  clear b9
  clear Rq
  go_wp2_with (fail)
  refine (toI_any azs lenzs capzs zs w9 (HZzs.out.below B9.out) hlzs).mono ?_
  rintro e w10 ⟨rfl, r10, b10⟩
  have Rxxs := Lib.hid (Rxxs.out.below b10)
  have Rxzs := Lib.hid (Rxzs.out.below b10)
  have B10 := Lib.hid (B9.out.trans (b10.mono B9.out.size))
  have S10 := Lib.hid b10.size
  clear b10
  have Uq := Lib.hid (World.ownsRow.lt r10)
  have Rq := Lib.hid r10
  clear r10
  go_wp2_with (fail)
  refine (eqR_any _ _ _ _ zs w10 hrzs (by rw [hzlzs]; exact hlzs) Rxzs.out Rq.out).mono ?_
  rintro e w11 ⟨rfl, b11⟩
  have Rxxs := Lib.hid (Rxxs.out.below b11)
  have Rxzs := Lib.hid (Rxzs.out.below b11)
  have Rq := Lib.hid (Rq.out.below b11)
  have B11 := Lib.hid (B10.out.trans (b11.mono B10.out.size))
  have S11 := Lib.hid b11.size
  clear b11
  clear Rq
  go_wp2
  go_ret
  exact ⟨rfl, B11.out⟩
theorem walk (axs : Option Addr) (capxs : Nat) (xs : List It) (azs : Option Addr) (lenzs capzs : Nat) (zs : List Int) (gap : Int) (gap0 : -9223372036854775808 ≤ gap) (gap1 : gap ≤ 9223372036854775807) (inner : Int) (inner0 : -9223372036854775808 ≤ inner) (inner1 : inner ≤ 9223372036854775807) (js : Int) (js0 : -9223372036854775808 ≤ js) (js1 : js ≤ 9223372036854775807) (w : World) (hzxs : Its w axs xs) (hmxs : xs.length ≤ 9223372036854775807) (hzzs : Ints w azs lenzs zs) (hmzs : lenzs ≤ 9223372036854775807) :
    Calls Try.prog 11 #[.slice axs xs.length capxs, .slice azs lenzs capzs, .int .i64 gap, .int .i64 inner, .int .i64 js] w fun e w' => e = .returned (.bool true) ∧ Below w.heap.size w w' := by
  by_cases hlzs : 1048576 < lenzs
  · exact walk_big_zs axs capxs xs azs lenzs capzs zs gap gap0 gap1 inner inner0 inner1 js js0 js1 w  hlzs hmzs
  · by_cases hlxs : 1048576 < xs.length
    · exact walk_big_xs axs capxs xs azs lenzs capzs zs gap gap0 gap1 inner inner0 inner1 js js0 js1 w (by omega) hlxs hmxs
    · exact walk_small axs capxs xs azs lenzs capzs zs gap gap0 gap1 inner inner0 inner1 js js0 js1 w hzxs (by omega) hzzs (by omega)

theorem laidOut : laidOutB Try.prog = true := by kernel_rfl

set_option maxRecDepth 100000 in
theorem lifted (os : Os) (started : os.Started) (H : Type) (enc : TypeId × Value → H) :
    ReturnsInHanded {} Try.checked os 11 .any (Rows.fnExactEndsAlongSpec.pre6 enc Try.prog Try.f11 Rows.fnExactEndsAlongRow.domain false) (Rows.fnExactEndsAlongSpec.post enc Try.prog Try.f11 false true false false) := by
  refine returnsInHanded_of_change (C := Try.checked) own started (by kernel_rfl) Try.func11
    (ChangeSpec.witness6 (enc := enc) (C := Try.checked) false ⟨#[], #[.slice none 0 0, .slice none 0 0, .int .i64 0, .int .i64 0, .int .i64 0], []⟩ 8 (by kernel_rfl) (by kernel_rfl) (by kernel_rfl) (by kernel_rfl)) ?_
  intro W base args ds gs before hval0 hW hcnd _
  have hval : ∀ (j : Nat) t v, Try.f11.params[j]? = some t → args[j]? = some v → Value.okWide Try.prog W .any base t v := hval0
  have hW' := hW
  obtain ⟨p, q, hA0, hV, rfl, hfz, hnd⟩ := hW
  have hA : DataW.TrodAll enc Try.prog W 0 (fun _ => true) true Try.f11.params.toList args.toList ds p := hA0
  rw [Try.params11] at hA hval
  obtain ⟨v0, vs0, d0, ds0, p0, q0, hargs, rfl, rfl, h0, r0⟩ := trodAll_cons hA
  obtain ⟨v1, vs1, d1, ds1, p1, q1, rfl, rfl, rfl, h1, r1⟩ := trodAll_cons r0
  obtain ⟨v2, vs2, d2, ds2, p2, q2, rfl, rfl, rfl, h2, r2⟩ := trodAll_cons r1
  obtain ⟨v3, vs3, d3, ds3, p3, q3, rfl, rfl, rfl, h3, r3⟩ := trodAll_cons r2
  obtain ⟨v4, vs4, d4, ds4, p4, q4, rfl, rfl, rfl, h4, r4⟩ := trodAll_cons r3
  obtain ⟨rfl, rfl, rfl⟩ := trodAll_nil r4
  obtain rfl : args = #[v0, v1, v2, v3, v4] := by cases args; simp_all
  obtain ⟨rfl, rfl⟩ := trodVars_none hV
  have k0 := h0
  have lt0 : ∀ x ∈ p0, x.block < W.heap.size := by obtain ⟨m, hm⟩ := k0; exact DataW.trod_lt m _ _ _ hm
  obtain ⟨a0, len0, cap0, rfl⟩ := okWide_slice Try.underlying44 (hval 0 44 v0 rfl rfl)
  obtain ⟨z0, rfl, hz0, hm0⟩ := items_of h0
  have k1 := h1
  have lt1 : ∀ x ∈ p1, x.block < W.heap.size := by obtain ⟨m, hm⟩ := k1; exact DataW.trod_lt m _ _ _ hm
  obtain ⟨a1, len1, cap1, rfl⟩ := okWide_slice Try.underlying24 (hval 1 24 v1 rfl rfl)
  obtain ⟨z1, hz1, hm1⟩ := ints_of h1
  have k2 := h2
  have lt2 : ∀ x ∈ p2, x.block < W.heap.size := by obtain ⟨m, hm⟩ := k2; exact DataW.trod_lt m _ _ _ hm
  obtain ⟨a2, rfl, rfl, rfl, w2⟩ := open_int Try.underlying3 (hval 2 3 v2 rfl rfl) h2
  have b2 := bounds_i64 w2
  have k3 := h3
  have lt3 : ∀ x ∈ p3, x.block < W.heap.size := by obtain ⟨m, hm⟩ := k3; exact DataW.trod_lt m _ _ _ hm
  obtain ⟨a3, rfl, rfl, rfl, w3⟩ := open_int Try.underlying3 (hval 3 3 v3 rfl rfl) h3
  have b3 := bounds_i64 w3
  have k4 := h4
  have lt4 : ∀ x ∈ p4, x.block < W.heap.size := by obtain ⟨m, hm⟩ := k4; exact DataW.trod_lt m _ _ _ hm
  obtain ⟨a4, rfl, rfl, rfl, w4⟩ := open_int Try.underlying3 (hval 4 3 v4 rfl rfl) h4
  have b4 := bounds_i64 w4
  clear hA0 hval0
  refine (walk a0 cap0 z0 a1 len1 cap1 z1 a2 b2.1 b2.2 a3 b3.1 b3.2 a4 b4.1 b4.2 W hz0 hm0 hz1 hm1).mono fun e W' ⟨he, bel⟩ => ?_
  subst he
  exact ⟨_, rfl, law_post (pa := _) (pv := []) hW' (trodAll_cons_mk (shut_bool Try.underlying4 _) trodAll_mk0) (trodAll_cons_mk (Below.trod laidOut (by kernel_rfl) (of_decide_eq_true (by kernel_rfl)) k0 bel lt0) (trodAll_cons_mk (Below.trod laidOut (by kernel_rfl) (of_decide_eq_true (by kernel_rfl)) k1 bel lt1) (trodAll_cons_mk (Below.trod laidOut (by kernel_rfl) (of_decide_eq_true (by kernel_rfl)) k2 bel lt2) (trodAll_cons_mk (Below.trod laidOut (by kernel_rfl) (of_decide_eq_true (by kernel_rfl)) k3 bel lt3) (trodAll_cons_mk (Below.trod laidOut (by kernel_rfl) (of_decide_eq_true (by kernel_rfl)) k4 bel lt4) trodAll_mk0))))) rfl rfl bel⟩

/-- The given statement. -/
theorem proved : Rows.FnExactEndsAlongSaid :=
  OpenClaim.holds_of_wide 11 Try.f11 rfl rfl rfl rfl rfl rfl rfl ⟨rfl, rfl, rfl, rfl, rfl⟩ rfl rfl rfl rfl rfl (by kernel_rfl) Try.func11 (by kernel_rfl)
    (of_decide_eq_true (by kernel_rfl)) (by unfold Func.isWrapper; first | (rw [if_pos (by decide +kernel)]; kernel_rfl) | (rw [if_neg (by decide +kernel)]; exact ⟨rfl, rfl⟩))
    (fun os started H enc _ => lifted os started H enc)
#print axioms proved
end Go.Proofs.Ytnncdpkmhpjmbaa.fnExactEndsAlong

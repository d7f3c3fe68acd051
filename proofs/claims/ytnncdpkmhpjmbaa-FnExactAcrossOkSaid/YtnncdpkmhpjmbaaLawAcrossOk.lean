/-
  For all arguments, laws.FnExactAcrossOk returns true: the function answers as its model, writes into no argument; the arguments read as before. Conditions: none.
-/
import Derived.Test.YtnncdpkmhpjmbaaCrA
import Derived.Test.YtnncdpkmhpjmbaaIntS
namespace Go.Proofs.Ytnncdpkmhpjmbaa.fnExactAcrossOk
open Go.ChangeShapes Go.WideShapes Go.ChangeAt Go.RowKit
set_option linter.unusedVariables false
set_option linter.unusedSimpArgs false

theorem walk_big_zs (azs : Option Addr) (lenzs capzs : Nat) (zs : List Int) (gap : Int) (gap0 : -9223372036854775808 ≤ gap) (gap1 : gap ≤ 9223372036854775807) (inner : Int) (inner0 : -9223372036854775808 ≤ inner) (inner1 : inner ≤ 9223372036854775807) (w : World)  (hlzs : 1048576 < lenzs) (hmzs : lenzs ≤ 9223372036854775807) :
    Calls Try.prog 7 #[.slice azs lenzs capzs, .int .i64 gap, .int .i64 inner] w fun e w' => e = .returned (.bool true) ∧ Below w.heap.size w w' := by
  go_enter Try.func7, Try.ntmps7
  go_wp2
  go_ret
  exact ⟨rfl, Below.refl _ _⟩
set_option maxHeartbeats 4000000 in
theorem walk_small (azs : Option Addr) (lenzs capzs : Nat) (zs : List Int) (gap : Int) (gap0 : -9223372036854775808 ≤ gap) (gap1 : gap ≤ 9223372036854775807) (inner : Int) (inner0 : -9223372036854775808 ≤ inner) (inner1 : inner ≤ 9223372036854775807) (w : World) (hzzs : Ints w azs lenzs zs) (hlzs : lenzs ≤ 1048576) :
    Calls Try.prog 7 #[.slice azs lenzs capzs, .int .i64 gap, .int .i64 inner] w fun e w' => e = .returned (.bool true) ∧ Below w.heap.size w w' := by
  have hrzs := hzzs.2.1
  have hzlzs := hzzs.1
  have HZzs := Lib.hid hzzs
  clear hzzs
  have B0 := Lib.hid (Below.refl w.heap.size w)
  go_enter Try.func7, Try.ntmps7
  go_wp2_with (fail)
  refine (toI_any azs lenzs capzs zs w (HZzs.out.below B0.out) hlzs).mono ?_
  rintro e w1 ⟨rfl, r1, b1⟩
  have B1 := Lib.hid (B0.out.trans (b1.mono B0.out.size))
  have S1 := Lib.hid b1.size
  clear b1
  have Upzs := Lib.hid (World.ownsRow.lt r1)
  have Rpzs := Lib.hid r1
  clear r1
  go_wp2_with (fail)
  refine (sacok _ lenzs lenzs zs gap inner w1 (Rpzs.out.ints hzlzs hrzs) (by omega)).mono ?_
  rintro e w2 ⟨rfl, b2⟩
  have Rpzs := Lib.hid (Rpzs.out.below b2)
  have B2 := Lib.hid (B1.out.trans (b2.mono B1.out.size))
  have S2 := Lib.hid b2.size
  clear b2
  clear Rpzs
  go_wp2_with (fail)
  refine (toI_any azs lenzs capzs zs w2 (HZzs.out.below B2.out) hlzs).mono ?_
  rintro e w3 ⟨rfl, r3, b3⟩
  have B3 := Lib.hid (B2.out.trans (b3.mono B2.out.size))
  have S3 := Lib.hid b3.size
  clear b3
  have Uxzs := Lib.hid (World.ownsRow.lt r3)
  have Rxzs := Lib.hid r3
  clear r3
  go_wp2_with (fail)
  refine (iacok _ lenzs lenzs zs gap inner w3 (Rxzs.out.ints hzlzs hrzs) (by omega)).mono ?_
  rintro e w4 ⟨rfl, b4⟩
  have Rxzs := Lib.hid (Rxzs.out.below b4)
  have B4 := Lib.hid (B3.out.trans (b4.mono B3.out.size))
  have S4 := Lib.hid b4.size
  clear b4
  generalize (acOk zs gap inner) = ANSW at *
  go_wp2_with (fail)
  refine (toI_any azs lenzs capzs zs w4 (HZzs.out.below B4.out) hlzs).mono ?_
  rintro e w5 ⟨rfl, r5, b5⟩
  have Rxzs := Lib.hid (Rxzs.out.below b5)
  have B5 := Lib.hid (B4.out.trans (b5.mono B4.out.size))
  have S5 := Lib.hid b5.size
  clear b5
  have Uq := Lib.hid (World.ownsRow.lt r5)
  have Rq := Lib.hid r5
  clear r5
  go_wp2_with (fail)
  refine (eqR_any _ _ _ _ zs w5 hrzs (by rw [hzlzs]; exact hlzs) Rxzs.out Rq.out).mono ?_
  rintro e w6 ⟨rfl, b6⟩
  have Rxzs := Lib.hid (Rxzs.out.below b6)
  have Rq := Lib.hid (Rq.out.below b6)
  have B6 := Lib.hid (B5.out.trans (b6.mono B5.out.size))
  have S6 := Lib.hid b6.size
  clear b6
  clear Rq
  go_wp2
  go_ret
  exact ⟨rfl, B6.out⟩
theorem walk (azs : Option Addr) (lenzs capzs : Nat) (zs : List Int) (gap : Int) (gap0 : -9223372036854775808 ≤ gap) (gap1 : gap ≤ 9223372036854775807) (inner : Int) (inner0 : -9223372036854775808 ≤ inner) (inner1 : inner ≤ 9223372036854775807) (w : World) (hzzs : Ints w azs lenzs zs) (hmzs : lenzs ≤ 9223372036854775807) :
    Calls Try.prog 7 #[.slice azs lenzs capzs, .int .i64 gap, .int .i64 inner] w fun e w' => e = .returned (.bool true) ∧ Below w.heap.size w w' := by
  by_cases hlzs : 1048576 < lenzs
  · exact walk_big_zs azs lenzs capzs zs gap gap0 gap1 inner inner0 inner1 w  hlzs hmzs
  · exact walk_small azs lenzs capzs zs gap gap0 gap1 inner inner0 inner1 w hzzs (by omega)

theorem laidOut : laidOutB Try.prog = true := by kernel_rfl

set_option maxRecDepth 100000 in
theorem lifted (os : Os) (started : os.Started) (H : Type) (enc : TypeId × Value → H) :
    ReturnsInHanded {} Try.checked os 7 .any (Rows.fnExactAcrossOkSpec.pre6 enc Try.prog Try.f7 Rows.fnExactAcrossOkRow.domain false) (Rows.fnExactAcrossOkSpec.post enc Try.prog Try.f7 false true false false) := by
  refine returnsInHanded_of_change (C := Try.checked) own started (by kernel_rfl) Try.func7
    (ChangeSpec.witness6 (enc := enc) (C := Try.checked) false ⟨#[], #[.slice none 0 0, .int .i64 0, .int .i64 0], []⟩ 8 (by kernel_rfl) (by kernel_rfl) (by kernel_rfl) (by kernel_rfl)) ?_
  intro W base args ds gs before hval0 hW hcnd _
  have hval : ∀ (j : Nat) t v, Try.f7.params[j]? = some t → args[j]? = some v → Value.okWide Try.prog W .any base t v := hval0
  have hW' := hW
  obtain ⟨p, q, hA0, hV, rfl, hfz, hnd⟩ := hW
  have hA : DataW.TrodAll enc Try.prog W 0 (fun _ => true) true Try.f7.params.toList args.toList ds p := hA0
  rw [Try.params7] at hA hval
  obtain ⟨v0, vs0, d0, ds0, p0, q0, hargs, rfl, rfl, h0, r0⟩ := trodAll_cons hA
  obtain ⟨v1, vs1, d1, ds1, p1, q1, rfl, rfl, rfl, h1, r1⟩ := trodAll_cons r0
  obtain ⟨v2, vs2, d2, ds2, p2, q2, rfl, rfl, rfl, h2, r2⟩ := trodAll_cons r1
  obtain ⟨rfl, rfl, rfl⟩ := trodAll_nil r2
  obtain rfl : args = #[v0, v1, v2] := by cases args; simp_all
  obtain ⟨rfl, rfl⟩ := trodVars_none hV
  have k0 := h0
  have lt0 : ∀ x ∈ p0, x.block < W.heap.size := by obtain ⟨m, hm⟩ := k0; exact DataW.trod_lt m _ _ _ hm
  obtain ⟨a0, len0, cap0, rfl⟩ := okWide_slice Try.underlying24 (hval 0 24 v0 rfl rfl)
  obtain ⟨z0, hz0, hm0⟩ := ints_of h0
  have k1 := h1
  have lt1 : ∀ x ∈ p1, x.block < W.heap.size := by obtain ⟨m, hm⟩ := k1; exact DataW.trod_lt m _ _ _ hm
  obtain ⟨a1, rfl, rfl, rfl, w1⟩ := open_int Try.underlying3 (hval 1 3 v1 rfl rfl) h1
  have b1 := bounds_i64 w1
  have k2 := h2
  have lt2 : ∀ x ∈ p2, x.block < W.heap.size := by obtain ⟨m, hm⟩ := k2; exact DataW.trod_lt m _ _ _ hm
  obtain ⟨a2, rfl, rfl, rfl, w2⟩ := open_int Try.underlying3 (hval 2 3 v2 rfl rfl) h2
  have b2 := bounds_i64 w2
  clear hA0 hval0
  refine (walk a0 len0 cap0 z0 a1 b1.1 b1.2 a2 b2.1 b2.2 W hz0 hm0).mono fun e W' ⟨he, bel⟩ => ?_
  subst he
  exact ⟨_, rfl, law_post (pa := _) (pv := []) hW' (trodAll_cons_mk (shut_bool Try.underlying4 _) trodAll_mk0) (trodAll_cons_mk (Below.trod laidOut (by kernel_rfl) (of_decide_eq_true (by kernel_rfl)) k0 bel lt0) (trodAll_cons_mk (Below.trod laidOut (by kernel_rfl) (of_decide_eq_true (by kernel_rfl)) k1 bel lt1) (trodAll_cons_mk (Below.trod laidOut (by kernel_rfl) (of_decide_eq_true (by kernel_rfl)) k2 bel lt2) trodAll_mk0))) rfl rfl bel⟩

/-- The given statement. -/
theorem proved : Rows.FnExactAcrossOkSaid :=
  OpenClaim.holds_of_wide 7 Try.f7 rfl rfl rfl rfl rfl rfl rfl ⟨rfl, rfl, rfl, rfl, rfl⟩ rfl rfl rfl rfl rfl (by kernel_rfl) Try.func7 (by kernel_rfl)
    (of_decide_eq_true (by kernel_rfl)) (by unfold Func.isWrapper; first | (rw [if_pos (by decide +kernel)]; kernel_rfl) | (rw [if_neg (by decide +kernel)]; exact ⟨rfl, rfl⟩))
    (fun os started H enc _ => lifted os started H enc)
#print axioms proved
end Go.Proofs.Ytnncdpkmhpjmbaa.fnExactAcrossOk

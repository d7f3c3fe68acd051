/-
  For all arguments, laws.FnExactLineOfItem returns true: the function answers as its model, writes into no argument; the arguments read as before. Conditions: none.
-/
import Derived.Test.YtopfiogmbnfjcaaLoL
import Derived.Test.YtopfiogmbnfjcaaLnK
import Derived.Test.YtopfiogmbnfjcaaLsO
namespace Go.Proofs.Ytopfiogmbnfjcaa.fnExactLineOfItem
open Go.ChangeShapes Go.WideShapes Go.ChangeAt Go.RowKit
set_option linter.unusedVariables false
set_option linter.unusedSimpArgs false
set_option maxRecDepth 8000

set_option maxHeartbeats 4000000 in
theorem walk (a : Option Addr) (cap : Nat) (L : List (List Int)) (x : Int) (x0 : -9223372036854775808 ≤ x) (x1 : x ≤ 9223372036854775807) (w : World) (hz : Ss w a L) (hm : L.length ≤ 9223372036854775807) (hmm : ∀ l ∈ L, l.length ≤ 9223372036854775807) :
    Calls Try.prog 14 #[.slice a L.length cap, .int .i64 x] w fun e w' => e = .returned (.bool true) ∧ Below w.heap.size w w' := by
  have ks := szss_any a cap L w hz hm hmm
  have HZ := Lib.hid hz
  clear hz hmm
  go_enter Try.func14, Try.ntmps14
  go_wp2_with (fail)
  refine ks.mono ?_
  rintro e w1 ⟨⟨z, rfl, hzz⟩, rfl⟩
  clear ks
  rcases hzz with h | ⟨h0, hl, hb⟩
  · go_wp2
    go_ret
    exact ⟨rfl, Below.refl _ _⟩
  · have HB := Lib.hid hb
    clear hb
    have B1 := Lib.hid (Below.refl w1.heap.size w1)
    go_wp2_with (fail)
    refine (toss_any a cap L w1 HZ.out hl HB.out).mono ?_
    rintro e w2 ⟨v2, rfl, r2, b2⟩
    obtain ⟨a2, c2, rfl, s2⟩ := r2.read
    have HS2 := Lib.hid s2
    have B2 := Lib.hid (B1.out.trans (b2.mono B1.out.size))
    clear r2 b2 s2
    go_wp2_with (fail)
    refine (slineof a2 c2 L x w2 HS2.out hl HB.out).mono ?_
    rintro e w3 ⟨rfl, b3⟩
    have B3 := Lib.hid (B2.out.trans (b3.mono B2.out.size))
    clear b3 HS2
    go_wp2_with (fail)
    refine (toss_any a cap L w3 (HZ.out.below B3.out) hl HB.out).mono ?_
    rintro e w4 ⟨v4, rfl, r4, b4⟩
    obtain ⟨a4, c4, rfl, s4⟩ := r4.read
    have HS4 := Lib.hid s4
    have B4 := Lib.hid (B3.out.trans (b4.mono B3.out.size))
    clear r4 b4 s4
    go_wp2_with (fail)
    refine (ilineof a4 c4 L x w4 HS4.out hl HB.out).mono ?_
    rintro e w5 ⟨rfl, b5⟩
    have HS5 := Lib.hid (HS4.out.below b5)
    have B5 := Lib.hid (B4.out.trans (b5.mono B4.out.size))
    clear b5 HS4
    generalize loV L x = ANSW at *
    go_wp2_with (fail)
    refine (toss_any a cap L w5 (HZ.out.below B5.out) hl HB.out).mono ?_
    rintro e w6 ⟨v6, rfl, r6, b6⟩
    obtain ⟨a6, c6, rfl, s6⟩ := r6.read
    have HS6 := Lib.hid s6
    have HT6 := Lib.hid (HS5.out.below b6)
    have B6 := Lib.hid (B5.out.trans (b6.mono B5.out.size))
    clear r6 b6 s6 HS5
    go_wp2_with (fail)
    refine (eqss_any a4 a6 c4 c6 L w6 HT6.out HS6.out hl HB.out).mono ?_
    rintro e w7 ⟨rfl, b7⟩
    have B7 := Lib.hid (B6.out.trans (b7.mono B6.out.size))
    clear b7
    go_wp2
    go_ret
    exact ⟨rfl, B7.out⟩

theorem laidOut : laidOutB Try.prog = true := by kernel_rfl

set_option maxRecDepth 100000 in
theorem lifted (os : Os) (started : os.Started) (H : Type) (enc : TypeId × Value → H) :
    ReturnsInHanded {} Try.checked os 14 .any (Rows.fnExactLineOfItemSpec.pre6 enc Try.prog Try.f14 Rows.fnExactLineOfItemRow.domain false) (Rows.fnExactLineOfItemSpec.post enc Try.prog Try.f14 false true false false) := by
  refine returnsInHanded_of_change (C := Try.checked) own started (by kernel_rfl) Try.func14
    (ChangeSpec.witness6 (enc := enc) (C := Try.checked) false ⟨#[], #[.slice none 0 0, .int .i64 0], []⟩ 8 (by kernel_rfl) (by kernel_rfl) (by kernel_rfl) (by kernel_rfl)) ?_
  intro W base args ds gs before hval0 hW hcnd _
  have hval : ∀ (j : Nat) t v, Try.f14.params[j]? = some t → args[j]? = some v → Value.okWide Try.prog W .any base t v := hval0
  have hW' := hW
  obtain ⟨p, q, hA0, hV, rfl, hfz, hnd⟩ := hW
  have hA : DataW.TrodAll enc Try.prog W 0 (fun _ => true) true Try.f14.params.toList args.toList ds p := hA0
  rw [Try.params14] at hA hval
  obtain ⟨v0, vs0, d0, ds0, p0, q0, hargs, rfl, rfl, h0, r0⟩ := trodAll_cons hA
  obtain ⟨v1, vs1, d1, ds1, p1, q1, rfl, rfl, rfl, h1, r1⟩ := trodAll_cons r0
  obtain ⟨rfl, rfl, rfl⟩ := trodAll_nil r1
  obtain rfl : args = #[v0, v1] := by cases args; simp_all
  obtain ⟨rfl, rfl⟩ := trodVars_none hV
  have k0 := h0
  have lt0 : ∀ x ∈ p0, x.block < W.heap.size := by obtain ⟨m, hm⟩ := k0; exact DataW.trod_lt m _ _ _ hm
  obtain ⟨a0, len0, cap0, rfl⟩ := okWide_slice Try.underlying40 (hval 0 40 v0 rfl rfl)
  obtain ⟨z0, rfl, hz0, hm0, hq0⟩ := lists_of h0
  have k1 := h1
  have lt1 : ∀ x ∈ p1, x.block < W.heap.size := by obtain ⟨m, hm⟩ := k1; exact DataW.trod_lt m _ _ _ hm
  obtain ⟨a1, rfl, rfl, rfl, w1⟩ := open_int Try.underlying3 (hval 1 3 v1 rfl rfl) h1
  have b1 := bounds_i64 w1
  clear hA0 hval0
  refine (walk a0 cap0 z0 a1 b1.1 b1.2 W hz0 hm0 hq0).mono fun e W' ⟨he, bel⟩ => ?_
  subst he
  exact ⟨_, rfl, law_post (pa := _) (pv := []) hW' (trodAll_cons_mk (shut_bool Try.underlying4 _) trodAll_mk0) (trodAll_cons_mk (Below.trod laidOut (by kernel_rfl) (of_decide_eq_true (by kernel_rfl)) k0 bel lt0) (trodAll_cons_mk (Below.trod laidOut (by kernel_rfl) (of_decide_eq_true (by kernel_rfl)) k1 bel lt1) trodAll_mk0)) rfl rfl bel⟩

/-- The given statement. -/
theorem proved : Rows.FnExactLineOfItemSaid :=
  OpenClaim.holds_of_wide 14 Try.f14 rfl rfl rfl rfl rfl rfl rfl ⟨rfl, rfl, rfl, rfl, rfl⟩ rfl rfl rfl rfl rfl (by kernel_rfl) Try.func14 (by kernel_rfl)
    (of_decide_eq_true (by kernel_rfl)) (by unfold Func.isWrapper; first | (rw [if_pos (by decide +kernel)]; kernel_rfl) | (rw [if_neg (by decide +kernel)]; exact ⟨rfl, rfl⟩))
    (fun os started H enc _ => lifted os started H enc)
#print axioms proved
end Go.Proofs.Ytopfiogmbnfjcaa.fnExactLineOfItem

/-
  For all arguments, laws.FnExactEvenly returns true: the function answers as its model, writes into no argument, and its answer is memory of its own; the arguments read as before. Conditions: none.
-/
import Derived.Test.YtehgelfoboocmaaEvn
namespace Go.Proofs.Ytehgelfoboocmaa.fnExactEvenly
open Go.ChangeShapes Go.WideShapes Go.ChangeAt Go.RowKit
set_option linter.unusedVariables false

set_option maxHeartbeats 4000000 in
theorem walk_small (n : Int) (n0 : -9223372036854775808 ≤ n) (n1 : n ≤ 9223372036854775807) (many : Int) (many0 : -9223372036854775808 ≤ many) (many1 : many ≤ 9223372036854775807) (w : World)  :
    Calls Try.prog 14 #[.int .i64 n, .int .i64 many] w fun e w' => e = .returned (.bool true) ∧ Below w.heap.size w w' := by
  have B0 := Lib.hid (Below.refl w.heap.size w)
  go_enter Try.func14, Try.ntmps14
  go_wp2_with (fail)
  refine (sev_any n many w ).mono ?_
  rintro e w1 ⟨v1, rfl, r1, b1⟩
  have B1 := Lib.hid (B0.out.trans (b1.mono B0.out.size))
  have S1 := Lib.hid b1.size
  clear b1
  have Uw := Lib.hid (World.ownsRow.lt r1)
  have Rw := Lib.hid r1
  clear r1
  go_wp2_with (fail)
  refine (iev_any n many w1 ).mono ?_
  rintro e w2 ⟨v2, rfl, r2, b2⟩
  have Rw := Lib.hid (Rw.out.below b2)
  have B2 := Lib.hid (B1.out.trans (b2.mono B1.out.size))
  have S2 := Lib.hid b2.size
  clear b2
  have Ug := Lib.hid (World.ownsRow.lt r2)
  have Rg := Lib.hid r2
  clear r2
  go_wp2_with (fail)
  refine (eqR_any _ _ _ _ (evnL n many) w2 (evnL_all n many) (Nat.le_trans (evnL_le n many) (by omega)) Rg.out Rw.out).mono ?_
  rintro e w3 ⟨rfl, b3⟩
  have Rw := Lib.hid (Rw.out.below b3)
  have Rg := Lib.hid (Rg.out.below b3)
  have B3 := Lib.hid (B2.out.trans (b3.mono B2.out.size))
  have S3 := Lib.hid b3.size
  clear b3
  go_wp2_with (fail)
  refine (markI_int _ (1) _ _ (evnL n many) w3 (Nat.le_trans (evnL_le n many) (by omega)) (by omega) (by omega) Rg.out).mono ?_
  rintro e w4 ⟨rfl, r4, g4⟩
  have B4 := Lib.hid (B3.out.grown g4 B3.out.size (fun k hk => Nat.le_trans B1.out.size (Ug.out k hk).1))
  have S4 := Lib.hid g4.size
  have Rw := Lib.hid (Rw.out.kept g4 (apart_U Uw.out Ug.out (Nat.le_refl _)))
  have Rg := Lib.hid r4
  clear r4 g4
  go_wp2_with (fail)
  refine (heldI_any _ 1 (evnL n many).length _ w4 (Nat.le_trans (evnL_le n many) (by omega)) (by omega) Rg.out).mono ?_
  rintro e w5 ⟨rfl, h5⟩
  have b5 : Below w4.heap.size w4 w5 := by rw [h5]; exact Below.refl _ _
  clear h5
  have Rw := Lib.hid (Rw.out.below b5)
  have Rg := Lib.hid (Rg.out.below b5)
  have B5 := Lib.hid (B4.out.trans (b5.mono B4.out.size))
  have S5 := Lib.hid b5.size
  clear b5
  go_wp2_with (fail)
  refine (iev_any n many w5 ).mono ?_
  rintro e w6 ⟨v6, rfl, r6, b6⟩
  have Rw := Lib.hid (Rw.out.below b6)
  have Rg := Lib.hid (Rg.out.below b6)
  have B6 := Lib.hid (B5.out.trans (b6.mono B5.out.size))
  have S6 := Lib.hid b6.size
  clear b6
  have Uh := Lib.hid (World.ownsRow.lt r6)
  have Rh := Lib.hid r6
  clear r6
  go_wp2_with (fail)
  refine (eqR_any _ _ _ _ (evnL n many) w6 (evnL_all n many) (Nat.le_trans (evnL_le n many) (by omega)) Rh.out Rw.out).mono ?_
  rintro e w7 ⟨rfl, b7⟩
  have Rw := Lib.hid (Rw.out.below b7)
  have Rg := Lib.hid (Rg.out.below b7)
  have Rh := Lib.hid (Rh.out.below b7)
  have B7 := Lib.hid (B6.out.trans (b7.mono B6.out.size))
  have S7 := Lib.hid b7.size
  clear b7
  go_wp2_with (fail)
  refine (heldI_any _ 1 (evnL n many).length _ w7 (Nat.le_trans (evnL_le n many) (by omega)) (by omega) Rg.out).mono ?_
  rintro e w8 ⟨rfl, h8⟩
  have b8 : Below w7.heap.size w7 w8 := by rw [h8]; exact Below.refl _ _
  clear h8
  have Rw := Lib.hid (Rw.out.below b8)
  have Rg := Lib.hid (Rg.out.below b8)
  have Rh := Lib.hid (Rh.out.below b8)
  have B8 := Lib.hid (B7.out.trans (b8.mono B7.out.size))
  have S8 := Lib.hid b8.size
  clear b8
  go_wp2
  go_ret
  exact ⟨rfl, B8.out⟩
theorem walk (n : Int) (n0 : -9223372036854775808 ≤ n) (n1 : n ≤ 9223372036854775807) (many : Int) (many0 : -9223372036854775808 ≤ many) (many1 : many ≤ 9223372036854775807) (w : World)  :
    Calls Try.prog 14 #[.int .i64 n, .int .i64 many] w fun e w' => e = .returned (.bool true) ∧ Below w.heap.size w w' := by
  exact walk_small n n0 n1 many many0 many1 w 

theorem laidOut : laidOutB Try.prog = true := by kernel_rfl

set_option maxRecDepth 100000 in
theorem lifted (os : Os) (started : os.Started) (H : Type) (enc : TypeId × Value → H) :
    ReturnsInHanded {} Try.checked os 14 .any (Rows.fnExactEvenlySpec.pre6 enc Try.prog Try.f14 Rows.fnExactEvenlyRow.domain false) (Rows.fnExactEvenlySpec.post enc Try.prog Try.f14 false true false false) := by
  refine returnsInHanded_of_change (C := Try.checked) own started (by kernel_rfl) Try.func14
    (ChangeSpec.witness6 (enc := enc) (C := Try.checked) false ⟨#[], #[.int .i64 0, .int .i64 0], []⟩ 8 (by kernel_rfl) (by kernel_rfl) (by kernel_rfl) (by kernel_rfl)) ?_
  intro W base args ds gs before hval0 hW hcnd _
  have hval : ∀ (j : Nat) t v, Try.f14.params[j]? = some t → args[j]? = some v → Value.okWide Try.prog W .any base t v := hval0
  have hW' := hW
  obtain ⟨p, q, hA0, hV, rfl, hfz, hnd⟩ := hW
  have hA : DataW.TrodAll enc Try.prog W 0 (fun _ => true) true Try.f14.params.toList args.toList ds p := hA0
  rw [Try.params14] at hA hval
  obtain ⟨v0, vs0, d0, ds0, p0, q0, hargs, rfl, rfl, h0, r0⟩ := trodAll_cons hA
  obtain ⟨v1, vs1, d1, ds1, p1, q1, rfl, rfl, rfl, h1, r1⟩ := trodAll_cons r0
  obtain ⟨rfl, rfl, rfl⟩ := trodAll_nil r1
  obtain rfl : args = #[v0, v1] := by cases args; simp_all
  obtain ⟨rfl, rfl⟩ := trodVars_none hV
  have k0 := h0
  have lt0 : ∀ x ∈ p0, x.block < W.heap.size := by obtain ⟨m, hm⟩ := k0; exact DataW.trod_lt m _ _ _ hm
  obtain ⟨a0, rfl, rfl, rfl, w0⟩ := open_int Try.underlying3 (hval 0 3 v0 rfl rfl) h0
  have b0 := bounds_i64 w0
  have k1 := h1
  have lt1 : ∀ x ∈ p1, x.block < W.heap.size := by obtain ⟨m, hm⟩ := k1; exact DataW.trod_lt m _ _ _ hm
  obtain ⟨a1, rfl, rfl, rfl, w1⟩ := open_int Try.underlying3 (hval 1 3 v1 rfl rfl) h1
  have b1 := bounds_i64 w1
  clear hA0 hval0
  refine (walk a0 b0.1 b0.2 a1 b1.1 b1.2 W).mono fun e W' ⟨he, bel⟩ => ?_
  subst he
  exact ⟨_, rfl, law_post (pa := _) (pv := []) hW' (trodAll_cons_mk (shut_bool Try.underlying4 _) trodAll_mk0) (trodAll_cons_mk (Below.trod laidOut (by kernel_rfl) (of_decide_eq_true (by kernel_rfl)) k0 bel lt0) (trodAll_cons_mk (Below.trod laidOut (by kernel_rfl) (of_decide_eq_true (by kernel_rfl)) k1 bel lt1) trodAll_mk0)) rfl rfl bel⟩

/-- The given statement. -/
theorem proved : Rows.FnExactEvenlySaid :=
  OpenClaim.holds_of_wide 14 Try.f14 rfl rfl rfl rfl rfl rfl rfl ⟨rfl, rfl, rfl, rfl, rfl⟩ rfl rfl rfl rfl rfl (by kernel_rfl) Try.func14 (by kernel_rfl)
    (of_decide_eq_true (by kernel_rfl)) (by unfold Func.isWrapper; first | (rw [if_pos (by decide +kernel)]; kernel_rfl) | (rw [if_neg (by decide +kernel)]; exact ⟨rfl, rfl⟩))
    (fun os started H enc _ => lifted os started H enc)
#print axioms proved
end Go.Proofs.Ytehgelfoboocmaa.fnExactEvenly

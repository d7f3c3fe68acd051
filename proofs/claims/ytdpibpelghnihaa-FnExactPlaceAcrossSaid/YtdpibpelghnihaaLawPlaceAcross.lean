/-
  For all arguments, laws.FnExactPlaceAcross returns true: the function answers as its model, writes into no argument; the arguments read as before. Conditions: none.
-/
import Derived.Test.YtdpibpelghnihaaSaB
import Derived.Test.YtdpibpelghnihaaSaL
namespace Go.Proofs.Ytdpibpelghnihaa.fnExactPlaceAcross
open Go.ChangeShapes Go.WideShapes Go.ChangeAt Go.RowKit
set_option linter.unusedVariables false
set_option linter.unusedSimpArgs false

set_option maxHeartbeats 4000000 in
theorem walk_small (x : Sa) (rx : x.inr) (cross : Int) (cross0 : -9223372036854775808 ≤ cross) (cross1 : cross ≤ 9223372036854775807) (base : Int) (base0 : -9223372036854775808 ≤ base) (base1 : base ≤ 9223372036854775807) (w : World)  :
    Calls Try.prog 8 #[.agg #[.int .i64 x.size, .int .i64 x.before, .int .i64 x.behind, .bool x.ab, .bool x.ah, .int .i64 x.al, .int .i64 x.base], .int .i64 cross, .int .i64 base] w fun e w' => e = .returned (.bool true) ∧ Below w.heap.size w w' := by
  have h0 := hp_new w (.cells #[.int .i64 x.size, .int .i64 x.before, .int .i64 x.behind, .bool x.ab, .bool x.ah, .int .i64 x.al, .int .i64 x.base] 33)
  have bb := Go.Joins.below_alloc1 w (.cells #[.int .i64 x.size, .int .i64 x.before, .int .i64 x.behind, .bool x.ab, .bool x.ah, .int .i64 x.al, .int .i64 x.base] 33)
  obtain ⟨w1, ew1⟩ : ∃ w1, w1 = w.alloc (.cells #[.int .i64 x.size, .int .i64 x.before, .int .i64 x.behind, .bool x.ab, .bool x.ah, .int .i64 x.al, .int .i64 x.base] 33) := ⟨_, rfl⟩
  rw [← ew1] at h0 bb
  have EW := Lib.hid ew1
  clear ew1
  have RGx := Lib.hid (range_block h0 : w1.rangeAt w.heap.size 0 x.L)
  have B1 := Lib.hid bb
  have S1 := Lib.hid bb.size
  clear h0 bb
  go_enter Try.func8, Try.ntmps8
  obtain ⟨cc0, cc1, cc2, cc3, cc4, cc5, cc6⟩ := rg_sa RGx.out
  simp only [Nat.zero_add] at cc0 cc1 cc2 cc3 cc4 cc5 cc6
  go_wp2_with (rw [← EW.out])
  refine (tosa_any x w1).mono ?_
  rintro e w2 ⟨rfl, b2⟩
  clear cc0 cc1 cc2 cc3 cc4 cc5 cc6
  have RGx := Lib.hid (rg_below RGx.out b2)
  have B2 := Lib.hid (B1.out.trans (b2.mono B1.out.size))
  have S2 := Lib.hid b2.size
  clear b2
  go_wp2_with (fail)
  refine (splaceacross x cross base w2 ).mono ?_
  rintro e w3 ⟨rfl, b3⟩
  have RGx := Lib.hid (rg_below RGx.out b3)
  have B3 := Lib.hid (B2.out.trans (b3.mono B2.out.size))
  have S3 := Lib.hid b3.size
  clear b3
  obtain ⟨cc0, cc1, cc2, cc3, cc4, cc5, cc6⟩ := rg_sa RGx.out
  simp only [Nat.zero_add] at cc0 cc1 cc2 cc3 cc4 cc5 cc6
  go_wp2_with (fail)
  refine (tosa_any x w3).mono ?_
  rintro e w4 ⟨rfl, b4⟩
  clear cc0 cc1 cc2 cc3 cc4 cc5 cc6
  have RGx := Lib.hid (rg_below RGx.out b4)
  have B4 := Lib.hid (B3.out.trans (b4.mono B3.out.size))
  have S4 := Lib.hid b4.size
  clear b4
  go_wp2_with (fail)
  refine (iplaceacross x cross base w4 ).mono ?_
  rintro e w5 ⟨rfl, b5⟩
  have RGx := Lib.hid (rg_below RGx.out b5)
  have B5 := Lib.hid (B4.out.trans (b5.mono B4.out.size))
  have S5 := Lib.hid b5.size
  clear b5
  generalize (paA x cross base) = ANSW at *
  go_wp2
  go_ret
  exact ⟨rfl, B5.out⟩
theorem walk (x : Sa) (rx : x.inr) (cross : Int) (cross0 : -9223372036854775808 ≤ cross) (cross1 : cross ≤ 9223372036854775807) (base : Int) (base0 : -9223372036854775808 ≤ base) (base1 : base ≤ 9223372036854775807) (w : World)  :
    Calls Try.prog 8 #[.agg #[.int .i64 x.size, .int .i64 x.before, .int .i64 x.behind, .bool x.ab, .bool x.ah, .int .i64 x.al, .int .i64 x.base], .int .i64 cross, .int .i64 base] w fun e w' => e = .returned (.bool true) ∧ Below w.heap.size w w' := by
  exact walk_small x rx cross cross0 cross1 base base0 base1 w 

theorem laidOut : laidOutB Try.prog = true := by kernel_rfl

set_option maxRecDepth 100000 in
theorem lifted (os : Os) (started : os.Started) (H : Type) (enc : TypeId × Value → H) :
    ReturnsInHanded {} Try.checked os 8 .any (Rows.fnExactPlaceAcrossSpec.pre6 enc Try.prog Try.f8 Rows.fnExactPlaceAcrossRow.domain false) (Rows.fnExactPlaceAcrossSpec.post enc Try.prog Try.f8 false true false false) := by
  refine returnsInHanded_of_change (C := Try.checked) own started (by kernel_rfl) Try.func8
    (ChangeSpec.witness6 (enc := enc) (C := Try.checked) false ⟨#[], #[.agg #[.int .i64 0, .int .i64 0, .int .i64 0, .bool false, .bool false, .int .i64 0, .int .i64 0], .int .i64 0, .int .i64 0], []⟩ 8 (by kernel_rfl) (by kernel_rfl) (by kernel_rfl) (by kernel_rfl)) ?_
  intro W base args ds gs before hval0 hW hcnd _
  have hval : ∀ (j : Nat) t v, Try.f8.params[j]? = some t → args[j]? = some v → Value.okWide Try.prog W .any base t v := hval0
  have hW' := hW
  obtain ⟨p, q, hA0, hV, rfl, hfz, hnd⟩ := hW
  have hA : DataW.TrodAll enc Try.prog W 0 (fun _ => true) true Try.f8.params.toList args.toList ds p := hA0
  rw [Try.params8] at hA hval
  obtain ⟨v0, vs0, d0, ds0, p0, q0, hargs, rfl, rfl, h0, r0⟩ := trodAll_cons hA
  obtain ⟨v1, vs1, d1, ds1, p1, q1, rfl, rfl, rfl, h1, r1⟩ := trodAll_cons r0
  obtain ⟨v2, vs2, d2, ds2, p2, q2, rfl, rfl, rfl, h2, r2⟩ := trodAll_cons r1
  obtain ⟨rfl, rfl, rfl⟩ := trodAll_nil r2
  obtain rfl : args = #[v0, v1, v2] := by cases args; simp_all
  obtain ⟨rfl, rfl⟩ := trodVars_none hV
  have k0 := h0
  have lt0 : ∀ x ∈ p0, x.block < W.heap.size := by obtain ⟨m, hm⟩ := k0; exact DataW.trod_lt m _ _ _ hm
  obtain ⟨a0, rfl, ra0⟩ := sa_of (hval 0 33 v0 rfl rfl) h0
  have k1 := h1
  have lt1 : ∀ x ∈ p1, x.block < W.heap.size := by obtain ⟨m, hm⟩ := k1; exact DataW.trod_lt m _ _ _ hm
  obtain ⟨a1, rfl, rfl, rfl, w1⟩ := open_int Try.underlying3 (hval 1 3 v1 rfl rfl) h1
  have b1 := bounds_i64 w1
  have k2 := h2
  have lt2 : ∀ x ∈ p2, x.block < W.heap.size := by obtain ⟨m, hm⟩ := k2; exact DataW.trod_lt m _ _ _ hm
  obtain ⟨a2, rfl, rfl, rfl, w2⟩ := open_int Try.underlying3 (hval 2 3 v2 rfl rfl) h2
  have b2 := bounds_i64 w2
  clear hA0 hval0
  refine (walk a0 ra0 a1 b1.1 b1.2 a2 b2.1 b2.2 W).mono fun e W' ⟨he, bel⟩ => ?_
  subst he
  exact ⟨_, rfl, law_post (pa := _) (pv := []) hW' (trodAll_cons_mk (shut_bool Try.underlying4 _) trodAll_mk0) (trodAll_cons_mk (Below.trod laidOut (by kernel_rfl) (of_decide_eq_true (by kernel_rfl)) k0 bel lt0) (trodAll_cons_mk (Below.trod laidOut (by kernel_rfl) (of_decide_eq_true (by kernel_rfl)) k1 bel lt1) (trodAll_cons_mk (Below.trod laidOut (by kernel_rfl) (of_decide_eq_true (by kernel_rfl)) k2 bel lt2) trodAll_mk0))) rfl rfl bel⟩

/-- The given statement. -/
theorem proved : Rows.FnExactPlaceAcrossSaid :=
  OpenClaim.holds_of_wide 8 Try.f8 rfl rfl rfl rfl rfl rfl rfl ⟨rfl, rfl, rfl, rfl, rfl⟩ rfl rfl rfl rfl rfl (by kernel_rfl) Try.func8 (by kernel_rfl)
    (of_decide_eq_true (by kernel_rfl)) (by unfold Func.isWrapper; first | (rw [if_pos (by decide +kernel)]; kernel_rfl) | (rw [if_neg (by decide +kernel)]; exact ⟨rfl, rfl⟩))
    (fun os started H enc _ => lifted os started H enc)
#print axioms proved
end Go.Proofs.Ytdpibpelghnihaa.fnExactPlaceAcross

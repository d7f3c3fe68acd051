/-
  For every input, laws.FnExactRuleFor returns true: the program answers as the document's model; the arguments read as before. Conditions: none.
-/
import Derived.Test.YtjkecmokmdnjlaaRfI
import Derived.Test.YtjkecmokmdnjlaaTbl
namespace Go.Proofs.Ytjkecmokmdnjlaa.fnExactRuleFor
open Go.ChangeShapes Go.WideShapes Go.ChangeAt Go.RowKit
set_option linter.unusedVariables false
set_option linter.unusedSimpArgs false

theorem walk_big0 (a0 : Option Addr) (len0 cap0 : Nat) (z0 : List Int) (a1 : Int) (u1 : -9223372036854775808 ≤ a1) (v1 : a1 ≤ 9223372036854775807) (w : World) (hz0 : Rls w a0 len0 z0) (hm0 : len0 ≤ 9223372036854775807)  (hb : 1048576 < len0) :
    Calls Try.prog 5 #[.agg #[.slice a0 len0 cap0], .int .i64 a1] w fun e w' => e = .returned (.bool true) ∧ Below w.heap.size w w' := by
  have H0 := hp_new w (.cells #[.slice a0 len0 cap0] 44)
  have B : Below w.heap.size w (w.alloc (.cells #[.slice a0 len0 cap0] 44)) := Go.Joins.below_alloc1 ..
  obtain ⟨u, eu⟩ : ∃ u, u = w.alloc (.cells #[.slice a0 len0 cap0] 44) := ⟨_, rfl⟩
  rw [← eu] at B H0
  have EU := Lib.hid eu
  clear eu
  go_enter Try.func5, Try.ntmps5
  have cH0_0 := Go.Joins.cell_of_block H0 0
  simp at cH0_0
  (try dsimp only)
  go_wp2_with (rw [← EU.out])
  clear cH0_0
  refine (szt_big a0 len0 cap0 1048576 _ (by omega) (by omega) hm0).mono ?_
  rintro e w1 ⟨rfl, b1⟩
  replace H0 := hp_below H0 b1
  replace B := B.trans (b1.mono B.size)
  clear b1
  (try dsimp only)
  go_wp2_with (fail)
  go_ret
  exact ⟨rfl, B⟩
set_option maxHeartbeats 2000000 in
theorem walk_small (a0 : Option Addr) (len0 cap0 : Nat) (z0 : List Int) (a1 : Int) (u1 : -9223372036854775808 ≤ a1) (v1 : a1 ≤ 9223372036854775807) (w : World) (hz0 : Rls w a0 len0 z0) (hm0 : len0 ≤ 9223372036854775807) (hl0 : len0 ≤ 1048576) :
    Calls Try.prog 5 #[.agg #[.slice a0 len0 cap0], .int .i64 a1] w fun e w' => e = .returned (.bool true) ∧ Below w.heap.size w w' := by
  have hr0 : AllI z0 := hz0.2.1
  have HZ0 := Lib.hid hz0
  clear hz0
  have H0 := hp_new w (.cells #[.slice a0 len0 cap0] 44)
  have B : Below w.heap.size w (w.alloc (.cells #[.slice a0 len0 cap0] 44)) := Go.Joins.below_alloc1 ..
  obtain ⟨u, eu⟩ : ∃ u, u = w.alloc (.cells #[.slice a0 len0 cap0] 44) := ⟨_, rfl⟩
  rw [← eu] at B H0
  have EU := Lib.hid eu
  clear eu
  go_enter Try.func5, Try.ntmps5
  have cH0_0 := Go.Joins.cell_of_block H0 0
  simp at cH0_0
  (try dsimp only)
  go_wp2_with (rw [← EU.out])
  clear cH0_0
  refine (szt_fit a0 len0 cap0 1048576 _ (by omega) (by omega)).mono ?_
  rintro e w1 ⟨rfl, b1⟩
  replace H0 := hp_below H0 b1
  replace B := B.trans (b1.mono B.size)
  clear b1
  have cH0_0 := Go.Joins.cell_of_block H0 0
  simp at cH0_0
  (try dsimp only)
  go_wp2_with (fail)
  clear cH0_0
  refine (toT_any a0 len0 cap0 z0 _ (HZ0.out.below B) (by omega)).mono ?_
  rintro e w2 ⟨gp, rfl, rgp, b2⟩
  replace H0 := hp_below H0 b2
  replace B := B.trans (b2.mono B.size)
  clear b2
  (try dsimp only)
  go_wp2_with (fail)
  refine (srulefor _ len0 len0 z0 a1 _ (rgp.rls hr0) (by omega)).mono ?_
  rintro e w3 ⟨rfl, b3⟩
  replace H0 := hp_below H0 b3
  replace rgp := rgp.below b3
  replace B := B.trans (b3.mono B.size)
  clear b3
  clear rgp
  have er : rfV z0 len0 a1 = .tuple #[.agg #[.int .i64 (rfX z0 len0 a1 0), .int .i64 (rfX z0 len0 a1 1), .int .i64 (rfX z0 len0 a1 2)], .bool (rfB z0 len0 a1)] := rfl
  have him := irulefor (zs := z0) (room := a1) (len := len0)
  rw [er] at him ⊢
  generalize rfX z0 len0 a1 0 = x0 at *
  generalize rfX z0 len0 a1 1 = x1 at *
  generalize rfX z0 len0 a1 2 = x2 at *
  generalize rfB z0 len0 a1 = x3 at *
  clear er
  obtain ⟨v0, ev0⟩ : ∃ v, v = w3.alloc (.cells #[.int .i64 x0, .int .i64 x1, .int .i64 x2] 32) := ⟨_, rfl⟩
  have HW := hp_new w3 (.cells #[.int .i64 x0, .int .i64 x1, .int .i64 x2] 32)
  replace H0 := hp_on H0 (.cells #[.int .i64 x0, .int .i64 x1, .int .i64 x2] 32)
  replace B := B.alloc B.size (.cells #[.int .i64 x0, .int .i64 x1, .int .i64 x2] 32)
  rw [← ev0] at HW H0 B
  have EV0 := Lib.hid ev0
  clear ev0
  have cH0_0 := Go.Joins.cell_of_block H0 0
  simp at cH0_0
  (try dsimp only)
  go_wp2_with (rw [← EV0.out])
  clear cH0_0
  refine (toT_any a0 len0 cap0 z0 _ (HZ0.out.below B) (by omega)).mono ?_
  rintro e w4 ⟨gx, rfl, rgx, b4⟩
  replace H0 := hp_below H0 b4
  replace HW := hp_below HW b4
  replace B := B.trans (b4.mono B.size)
  clear b4
  have HX := hp_new w4 (.cells #[.slice (some ⟨gx, 0, none⟩) len0 len0] 26)
  replace H0 := hp_on H0 (.cells #[.slice (some ⟨gx, 0, none⟩) len0 len0] 26)
  replace HW := hp_on HW (.cells #[.slice (some ⟨gx, 0, none⟩) len0 len0] 26)
  replace rgx := World.ownsRow.alloc rgx (.cells #[.slice (some ⟨gx, 0, none⟩) len0 len0] 26)
  replace B := B.alloc B.size (.cells #[.slice (some ⟨gx, 0, none⟩) len0 len0] 26)
  obtain ⟨v, ev⟩ : ∃ v, v = w4.alloc (.cells #[.slice (some ⟨gx, 0, none⟩) len0 len0] 26) := ⟨_, rfl⟩
  rw [← ev] at B HX rgx H0 HW
  have rgx : RowR _ (.slice (some ⟨gx, 0, none⟩) len0 len0) len0 z0 v := rgx
  have EV := Lib.hid ev
  clear ev
  have cHX_0 := Go.Joins.cell_of_block HX 0
  simp at cHX_0
  (try dsimp only)
  go_wp2_with (rw [← EV.out])
  clear cHX_0
  refine (him (some ⟨gx, 0, none⟩) len0 _ (rgx.rls hr0) (by omega)).mono ?_
  rintro e w5 ⟨rfl, b5⟩
  replace H0 := hp_below H0 b5
  replace HW := hp_below HW b5
  replace HX := hp_below HX b5
  replace rgx := rgx.below b5
  replace B := B.trans (b5.mono B.size)
  clear b5
  obtain ⟨v1, ev1⟩ : ∃ v, v = w5.alloc (.cells #[.int .i64 x0, .int .i64 x1, .int .i64 x2] 32) := ⟨_, rfl⟩
  have HG := hp_new w5 (.cells #[.int .i64 x0, .int .i64 x1, .int .i64 x2] 32)
  replace H0 := hp_on H0 (.cells #[.int .i64 x0, .int .i64 x1, .int .i64 x2] 32)
  replace HW := hp_on HW (.cells #[.int .i64 x0, .int .i64 x1, .int .i64 x2] 32)
  replace HX := hp_on HX (.cells #[.int .i64 x0, .int .i64 x1, .int .i64 x2] 32)
  replace rgx := World.ownsRow.alloc rgx (.cells #[.int .i64 x0, .int .i64 x1, .int .i64 x2] 32)
  replace B := B.alloc B.size (.cells #[.int .i64 x0, .int .i64 x1, .int .i64 x2] 32)
  rw [← ev1] at B HG rgx H0 HW HX
  have rgx : RowR _ (.slice (some ⟨gx, 0, none⟩) len0 len0) len0 z0 v1 := rgx
  have EV1 := Lib.hid ev1
  clear ev1
  have cHG_0 := Go.Joins.cell_of_block HG 0
  have cHG_1 := Go.Joins.cell_of_block HG 1
  have cHG_2 := Go.Joins.cell_of_block HG 2
  have cHW_0 := Go.Joins.cell_of_block HW 0
  have cHW_1 := Go.Joins.cell_of_block HW 1
  have cHW_2 := Go.Joins.cell_of_block HW 2
  simp at cHG_0 cHG_1 cHG_2 cHW_0 cHW_1 cHW_2
  (try dsimp only)
  go_wp2_with (rw [← EV1.out])
  clear cHG_0 cHG_1 cHG_2 cHW_0 cHW_1 cHW_2
  refine (eqrule_same x0 x1 x2 _).mono ?_
  rintro e w6 ⟨rfl, b6⟩
  replace H0 := hp_below H0 b6
  replace HW := hp_below HW b6
  replace HX := hp_below HX b6
  replace HG := hp_below HG b6
  replace rgx := rgx.below b6
  replace B := B.trans (b6.mono B.size)
  clear b6
  (try dsimp only)
  go_wp2_with (fail)
  have HB := Lib.hid B
  have hza : ∀ w', Below w6.heap.size w6 w' → Rls w' a0 len0 z0 := fun w' h => HZ0.out.below (HB.out.trans (h.mono HB.out.size))
  have hxa : ∀ w', Below w6.heap.size w6 w' → Rls w' (some ⟨gx, 0, none⟩) len0 z0 := fun w' h => (rgx.rls hr0).below h
  have HZA := Lib.hid hza
  have HXA := Lib.hid hxa
  clear hza hxa
  have SS : w6.cell? ⟨w.heap.size, 0, none⟩ = some (.slice a0 len0 cap0) ∧ w6.cell? ⟨w4.heap.size, 0, none⟩ = some (.slice (some ⟨gx, 0, none⟩) len0 len0) ∧ Below w6.heap.size w6 w6 := ⟨by have h := Go.Joins.cell_of_block H0 0; simpa using h, by have h := Go.Joins.cell_of_block HX 0; simpa using h, Below.refl _ _⟩
  clear B rgx H0 HW HX HG
  go_region_held3 (fun w' => w'.cell? ⟨w.heap.size, 0, none⟩ = some (.slice a0 len0 cap0) ∧ w'.cell? ⟨w4.heap.size, 0, none⟩ = some (.slice (some ⟨gx, 0, none⟩) len0 len0) ∧ Below w6.heap.size w6 w')
    (first | exact keep2 (by assumption) (by assumption) | exact drew2 (by assumption))
    (first
      | (go_at_call 23; refine (toT_any a0 len0 cap0 z0 _ (HZA.out _ (And.right (And.right (by assumption)))) (by omega)).mono ?_; rintro e wt ⟨gt, rfl, rt, bt⟩)
      | (go_at_call 24; refine (eqT_any (some ⟨gx, 0, none⟩) _ len0 len0 len0 z0 _ (HXA.out _ (And.right (And.right (by assumption)))) (rt.rls hr0) (by omega)).mono ?_; rintro e we ⟨rfl, be⟩)
      | fail)
  have SE : we.cell? ⟨w.heap.size, 0, none⟩ = some (.slice a0 len0 cap0) ∧ we.cell? ⟨w4.heap.size, 0, none⟩ = some (.slice (some ⟨gx, 0, none⟩) len0 len0) ∧ Below w6.heap.size w6 we := by assumption
  have BE := SE.2.2
  clear SS SE
  go_wp2
  go_ret
  exact ⟨rfl, HB.out.trans (BE.mono HB.out.size)⟩
theorem walk (a0 : Option Addr) (len0 cap0 : Nat) (z0 : List Int) (a1 : Int) (u1 : -9223372036854775808 ≤ a1) (v1 : a1 ≤ 9223372036854775807) (w : World) (hz0 : Rls w a0 len0 z0) (hm0 : len0 ≤ 9223372036854775807)  :
    Calls Try.prog 5 #[.agg #[.slice a0 len0 cap0], .int .i64 a1] w fun e w' => e = .returned (.bool true) ∧ Below w.heap.size w w' := by
  by_cases hl0 : len0 ≤ 1048576
  · exact walk_small a0 len0 cap0 z0 a1 u1 v1 w hz0 hm0 hl0
  · exact walk_big0 a0 len0 cap0 z0 a1 u1 v1 w hz0 hm0 (by omega)

theorem laidOut : laidOutB Try.prog = true := by kernel_rfl

set_option maxRecDepth 100000 in
theorem lifted (os : Os) (started : os.Started) (H : Type) (enc : TypeId × Value → H) :
    ReturnsInHanded {} Try.checked os 5 .any (Rows.fnExactRuleForSpec.pre6 enc Try.prog Try.f5 Rows.fnExactRuleForRow.domain false) (Rows.fnExactRuleForSpec.post enc Try.prog Try.f5 false true false false) := by
  refine returnsInHanded_of_change (C := Try.checked) own started (by kernel_rfl) Try.func5
    (ChangeSpec.witness6 (enc := enc) (C := Try.checked) false ⟨#[], #[.agg #[.slice none 0 0], .int .i64 0], []⟩ 8 (by kernel_rfl) (by kernel_rfl) (by kernel_rfl) (by kernel_rfl)) ?_
  intro W base args ds gs before hval0 hW hcnd _
  have hval : ∀ (j : Nat) t v, Try.f5.params[j]? = some t → args[j]? = some v → Value.okWide Try.prog W .any base t v := hval0
  have hW' := hW
  obtain ⟨p, q, hA0, hV, rfl, hfz, hnd⟩ := hW
  have hA : DataW.TrodAll enc Try.prog W 0 (fun _ => true) true Try.f5.params.toList args.toList ds p := hA0
  rw [Try.params5] at hA hval
  obtain ⟨v0, vs0, d0, ds0, p0, q0, hargs, rfl, rfl, h0, r0⟩ := trodAll_cons hA
  obtain ⟨v1, vs1, d1, ds1, p1, q1, rfl, rfl, rfl, h1, r1⟩ := trodAll_cons r0
  obtain ⟨rfl, rfl, rfl⟩ := trodAll_nil r1
  obtain rfl : args = #[v0, v1] := by cases args; simp_all
  obtain ⟨rfl, rfl⟩ := trodVars_none hV
  have k0 := h0
  have lt0 : ∀ x ∈ p0, x.block < W.heap.size := by obtain ⟨m, hm⟩ := k0; exact DataW.trod_lt m _ _ _ hm
  obtain ⟨a0, len0, cap0, z0, rfl, hz0, hm0⟩ := tab_of (hval 0 44 v0 rfl rfl) h0
  have k1 := h1
  have lt1 : ∀ x ∈ p1, x.block < W.heap.size := by obtain ⟨m, hm⟩ := k1; exact DataW.trod_lt m _ _ _ hm
  obtain ⟨a1, rfl, rfl, rfl, w1⟩ := open_int Try.underlying3 (hval 1 3 v1 rfl rfl) h1
  have b1 := bounds_i64 w1
  clear hA0 hval0
  refine (walk a0 len0 cap0 z0 a1 b1.1 b1.2 W hz0 hm0).mono fun e W' ⟨he, bel⟩ => ?_
  subst he
  exact ⟨_, rfl, law_post (pa := _) (pv := []) hW' (trodAll_cons_mk (shut_bool Try.underlying4 _) trodAll_mk0) (trodAll_cons_mk (Below.trod laidOut (by kernel_rfl) (of_decide_eq_true (by kernel_rfl)) k0 bel lt0) (trodAll_cons_mk (Below.trod laidOut (by kernel_rfl) (of_decide_eq_true (by kernel_rfl)) k1 bel lt1) trodAll_mk0)) rfl rfl bel⟩

/-- The given statement. -/
theorem proved : Rows.FnExactRuleForSaid :=
  OpenClaim.holds_of_wide 5 Try.f5 rfl rfl rfl rfl rfl rfl rfl ⟨rfl, rfl, rfl, rfl, rfl⟩ rfl rfl rfl rfl rfl (by kernel_rfl) Try.func5 (by kernel_rfl)
    (of_decide_eq_true (by kernel_rfl)) (by unfold Func.isWrapper; first | (rw [if_pos (by decide +kernel)]; kernel_rfl) | (rw [if_neg (by decide +kernel)]; exact ⟨rfl, rfl⟩))
    (fun os started H enc _ => lifted os started H enc)
#print axioms proved
end Go.Proofs.Ytjkecmokmdnjlaa.fnExactRuleFor

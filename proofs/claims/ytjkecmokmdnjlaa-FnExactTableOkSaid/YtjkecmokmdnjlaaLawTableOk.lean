/-
  For every input, laws.FnExactTableOk returns true: the program answers as the document's model; the arguments read as before. Conditions: none.
-/
import Derived.Test.YtjkecmokmdnjlaaTok
import Derived.Test.YtjkecmokmdnjlaaTbl
namespace Go.Proofs.Ytjkecmokmdnjlaa.fnExactTableOk
open Go.ChangeShapes Go.WideShapes Go.ChangeAt Go.RowKit
set_option linter.unusedVariables false
set_option linter.unusedSimpArgs false

theorem walk_big0 (a0 : Option Addr) (len0 cap0 : Nat) (z0 : List Int) (w : World) (hz0 : Rls w a0 len0 z0) (hm0 : len0 ≤ 9223372036854775807)  (hb : 1048576 < len0) :
    Calls Try.prog 4 #[.agg #[.slice a0 len0 cap0]] w fun e w' => e = .returned (.bool true) ∧ Below w.heap.size w w' := by
  have H0 := hp_new w (.cells #[.slice a0 len0 cap0] 44)
  have B : Below w.heap.size w (w.alloc (.cells #[.slice a0 len0 cap0] 44)) := Go.Joins.below_alloc1 ..
  obtain ⟨u, eu⟩ : ∃ u, u = w.alloc (.cells #[.slice a0 len0 cap0] 44) := ⟨_, rfl⟩
  rw [← eu] at B H0
  have EU := Lib.hid eu
  clear eu
  go_enter Try.func4, Try.ntmps4
  have cH0_0 := Go.Joins.cell_of_block H0 0
  simp at cH0_0
  (try dsimp only)
  go_wp2_with (rw [← EU.out])
  clear cH0_0
  refine (szt_big a0 len0 cap0 1048576 _ (by omega) (by omega) hm0).mono ?_
  rintro e w1 ⟨rfl, b1⟩
  replace H0 := hp_below H0 b1
  replace B := B.trans (b1.mono B.size)
  clear b1
  (try dsimp only)
  go_wp2_with (fail)
  go_ret
  exact ⟨rfl, B⟩
set_option maxHeartbeats 2000000 in
theorem walk_small (a0 : Option Addr) (len0 cap0 : Nat) (z0 : List Int) (w : World) (hz0 : Rls w a0 len0 z0) (hm0 : len0 ≤ 9223372036854775807) (hl0 : len0 ≤ 1048576) :
    Calls Try.prog 4 #[.agg #[.slice a0 len0 cap0]] w fun e w' => e = .returned (.bool true) ∧ Below w.heap.size w w' := by
  have hr0 : AllI z0 := hz0.2.1
  have HZ0 := Lib.hid hz0
  clear hz0
  have H0 := hp_new w (.cells #[.slice a0 len0 cap0] 44)
  have B : Below w.heap.size w (w.alloc (.cells #[.slice a0 len0 cap0] 44)) := Go.Joins.below_alloc1 ..
  obtain ⟨u, eu⟩ : ∃ u, u = w.alloc (.cells #[.slice a0 len0 cap0] 44) := ⟨_, rfl⟩
  rw [← eu] at B H0
  have EU := Lib.hid eu
  clear eu
  go_enter Try.func4, Try.ntmps4
  have cH0_0 := Go.Joins.cell_of_block H0 0
  simp at cH0_0
  (try dsimp only)
  go_wp2_with (rw [← EU.out])
  clear cH0_0
  refine (szt_fit a0 len0 cap0 1048576 _ (by omega) (by omega)).mono ?_
  rintro e w1 ⟨rfl, b1⟩
  replace H0 := hp_below H0 b1
  replace B := B.trans (b1.mono B.size)
  clear b1
  have cH0_0 := Go.Joins.cell_of_block H0 0
  simp at cH0_0
  (try dsimp only)
  go_wp2_with (fail)
  clear cH0_0
  refine (toT_any a0 len0 cap0 z0 _ (HZ0.out.below B) (by omega)).mono ?_
  rintro e w2 ⟨gp, rfl, rgp, b2⟩
  replace H0 := hp_below H0 b2
  replace B := B.trans (b2.mono B.size)
  clear b2
  (try dsimp only)
  go_wp2_with (fail)
  refine (stableok _ len0 len0 z0 _ (rgp.rls hr0) (by omega)).mono ?_
  rintro e w3 ⟨rfl, b3⟩
  replace H0 := hp_below H0 b3
  replace rgp := rgp.below b3
  replace B := B.trans (b3.mono B.size)
  clear b3
  clear rgp
  have cH0_0 := Go.Joins.cell_of_block H0 0
  simp at cH0_0
  (try dsimp only)
  go_wp2_with (fail)
  clear cH0_0
  refine (toT_any a0 len0 cap0 z0 _ (HZ0.out.below B) (by omega)).mono ?_
  rintro e w4 ⟨gx, rfl, rgx, b4⟩
  replace H0 := hp_below H0 b4
  replace B := B.trans (b4.mono B.size)
  clear b4
  have HX := hp_new w4 (.cells #[.slice (some ⟨gx, 0, none⟩) len0 len0] 26)
  replace H0 := hp_on H0 (.cells #[.slice (some ⟨gx, 0, none⟩) len0 len0] 26)
  replace rgx := World.ownsRow.alloc rgx (.cells #[.slice (some ⟨gx, 0, none⟩) len0 len0] 26)
  replace B := B.alloc B.size (.cells #[.slice (some ⟨gx, 0, none⟩) len0 len0] 26)
  obtain ⟨v, ev⟩ : ∃ v, v = w4.alloc (.cells #[.slice (some ⟨gx, 0, none⟩) len0 len0] 26) := ⟨_, rfl⟩
  rw [← ev] at B HX rgx H0
  have rgx : RowR _ (.slice (some ⟨gx, 0, none⟩) len0 len0) len0 z0 v := rgx
  have EV := Lib.hid ev
  clear ev
  have cHX_0 := Go.Joins.cell_of_block HX 0
  simp at cHX_0
  (try dsimp only)
  go_wp2_with (rw [← EV.out])
  clear cHX_0
  refine (itableok (some ⟨gx, 0, none⟩) len0 len0 z0 _ (rgx.rls hr0) (by omega)).mono ?_
  rintro e w5 ⟨rfl, b5⟩
  replace H0 := hp_below H0 b5
  replace HX := hp_below HX b5
  replace rgx := rgx.below b5
  replace B := B.trans (b5.mono B.size)
  clear b5
  generalize tokB z0 len0 = r0 at *
  (try dsimp only)
  go_wp2_with (fail)
  have HB := Lib.hid B
  have hza : ∀ w', Below w5.heap.size w5 w' → Rls w' a0 len0 z0 := fun w' h => HZ0.out.below (HB.out.trans (h.mono HB.out.size))
  have hxa : ∀ w', Below w5.heap.size w5 w' → Rls w' (some ⟨gx, 0, none⟩) len0 z0 := fun w' h => (rgx.rls hr0).below h
  have HZA := Lib.hid hza
  have HXA := Lib.hid hxa
  clear hza hxa
  have SS : w5.cell? ⟨w.heap.size, 0, none⟩ = some (.slice a0 len0 cap0) ∧ w5.cell? ⟨w4.heap.size, 0, none⟩ = some (.slice (some ⟨gx, 0, none⟩) len0 len0) ∧ Below w5.heap.size w5 w5 := ⟨by have h := Go.Joins.cell_of_block H0 0; simpa using h, by have h := Go.Joins.cell_of_block HX 0; simpa using h, Below.refl _ _⟩
  clear B rgx H0 HX
  go_region_held3 (fun w' => w'.cell? ⟨w.heap.size, 0, none⟩ = some (.slice a0 len0 cap0) ∧ w'.cell? ⟨w4.heap.size, 0, none⟩ = some (.slice (some ⟨gx, 0, none⟩) len0 len0) ∧ Below w5.heap.size w5 w')
    (first | exact keep2 (by assumption) (by assumption) | exact drew2 (by assumption))
    (first
      | (go_at_call 23; refine (toT_any a0 len0 cap0 z0 _ (HZA.out _ (And.right (And.right (by assumption)))) (by omega)).mono ?_; rintro e wt ⟨gt, rfl, rt, bt⟩)
      | (go_at_call 24; refine (eqT_any (some ⟨gx, 0, none⟩) _ len0 len0 len0 z0 _ (HXA.out _ (And.right (And.right (by assumption)))) (rt.rls hr0) (by omega)).mono ?_; rintro e we ⟨rfl, be⟩)
      | fail)
  have SE : we.cell? ⟨w.heap.size, 0, none⟩ = some (.slice a0 len0 cap0) ∧ we.cell? ⟨w4.heap.size, 0, none⟩ = some (.slice (some ⟨gx, 0, none⟩) len0 len0) ∧ Below w5.heap.size w5 we := by assumption
  have BE := SE.2.2
  clear SS SE
  go_wp2
  go_ret
  exact ⟨rfl, HB.out.trans (BE.mono HB.out.size)⟩
theorem walk (a0 : Option Addr) (len0 cap0 : Nat) (z0 : List Int) (w : World) (hz0 : Rls w a0 len0 z0) (hm0 : len0 ≤ 9223372036854775807)  :
    Calls Try.prog 4 #[.agg #[.slice a0 len0 cap0]] w fun e w' => e = .returned (.bool true) ∧ Below w.heap.size w w' := by
  by_cases hl0 : len0 ≤ 1048576
  · exact walk_small a0 len0 cap0 z0 w hz0 hm0 hl0
  · exact walk_big0 a0 len0 cap0 z0 w hz0 hm0 (by omega)

theorem laidOut : laidOutB Try.prog = true := by kernel_rfl

set_option maxRecDepth 100000 in
theorem lifted (os : Os) (started : os.Started) (H : Type) (enc : TypeId × Value → H) :
    ReturnsInHanded {} Try.checked os 4 .any (Rows.fnExactTableOkSpec.pre6 enc Try.prog Try.f4 Rows.fnExactTableOkRow.domain false) (Rows.fnExactTableOkSpec.post enc Try.prog Try.f4 false true false false) := by
  refine returnsInHanded_of_change (C := Try.checked) own started (by kernel_rfl) Try.func4
    (ChangeSpec.witness6 (enc := enc) (C := Try.checked) false ⟨#[], #[.agg #[.slice none 0 0]], []⟩ 8 (by kernel_rfl) (by kernel_rfl) (by kernel_rfl) (by kernel_rfl)) ?_
  intro W base args ds gs before hval0 hW hcnd _
  have hval : ∀ (j : Nat) t v, Try.f4.params[j]? = some t → args[j]? = some v → Value.okWide Try.prog W .any base t v := hval0
  have hW' := hW
  obtain ⟨p, q, hA0, hV, rfl, hfz, hnd⟩ := hW
  have hA : DataW.TrodAll enc Try.prog W 0 (fun _ => true) true Try.f4.params.toList args.toList ds p := hA0
  rw [Try.params4] at hA hval
  obtain ⟨v0, vs0, d0, ds0, p0, q0, hargs, rfl, rfl, h0, r0⟩ := trodAll_cons hA
  obtain ⟨rfl, rfl, rfl⟩ := trodAll_nil r0
  obtain rfl : args = #[v0] := by cases args; simp_all
  obtain ⟨rfl, rfl⟩ := trodVars_none hV
  have k0 := h0
  have lt0 : ∀ x ∈ p0, x.block < W.heap.size := by obtain ⟨m, hm⟩ := k0; exact DataW.trod_lt m _ _ _ hm
  obtain ⟨a0, len0, cap0, z0, rfl, hz0, hm0⟩ := tab_of (hval 0 44 v0 rfl rfl) h0
  clear hA0 hval0
  refine (walk a0 len0 cap0 z0 W hz0 hm0).mono fun e W' ⟨he, bel⟩ => ?_
  subst he
  exact ⟨_, rfl, law_post (pa := _) (pv := []) hW' (trodAll_cons_mk (shut_bool Try.underlying4 _) trodAll_mk0) (trodAll_cons_mk (Below.trod laidOut (by kernel_rfl) (of_decide_eq_true (by kernel_rfl)) k0 bel lt0) trodAll_mk0) rfl rfl bel⟩

/-- The given statement. -/
theorem proved : Rows.FnExactTableOkSaid :=
  OpenClaim.holds_of_wide 4 Try.f4 rfl rfl rfl rfl rfl rfl rfl ⟨rfl, rfl, rfl, rfl, rfl⟩ rfl rfl rfl rfl rfl (by kernel_rfl) Try.func4 (by kernel_rfl)
    (of_decide_eq_true (by kernel_rfl)) (by unfold Func.isWrapper; first | (rw [if_pos (by decide +kernel)]; kernel_rfl) | (rw [if_neg (by decide +kernel)]; exact ⟨rfl, rfl⟩))
    (fun os started H enc _ => lifted os started H enc)
#print axioms proved
end Go.Proofs.Ytjkecmokmdnjlaa.fnExactTableOk

/-
  For every input, laws.FnExactIsGone returns true: the program answers as the document's model; the arguments read as before. Conditions: none.
-/
import Derived.Test.YtfnnfjpbplbjmaaGoS
import Derived.Test.YtfnnfjpbplbjmaaNdA
import Derived.Test.YtfnnfjpbplbjmaaTbl
namespace Go.Proofs.Ytfnnfjpbplbjmaa.fnExactIsGone
open Go.ChangeShapes Go.WideShapes Go.ChangeAt Go.RowKit
set_option linter.unusedVariables false
set_option linter.unusedSimpArgs false
set_option maxRecDepth 8000

theorem walk_big (a0 : Option Addr) (cap0 : Nat) (n0 : List PN) (a1 : Int) (u1 : -9223372036854775808 ≤ a1) (v1 : a1 ≤ 9223372036854775807) (w : World) (hz0 : Nds w a0 n0) (hm0 : n0.length ≤ 9223372036854775807) (hf0 : ∀ n ∈ n0, n.fit) (hb : 1048576 < szS n0) :
    Calls Try.prog 9 #[.agg #[.slice a0 n0.length cap0], .int .i64 a1] w fun e w' => e = .returned (.bool true) ∧ Below w.heap.size w w' := by
  have H0 := hp_new w (.cells #[.slice a0 n0.length cap0] 68)
  have B : Below w.heap.size w (w.alloc (.cells #[.slice a0 n0.length cap0] 68)) := Go.Joins.below_alloc1 ..
  obtain ⟨u, eu⟩ : ∃ u, u = w.alloc (.cells #[.slice a0 n0.length cap0] 68) := ⟨_, rfl⟩
  rw [← eu] at B H0
  have EU := Lib.hid eu
  clear eu
  go_enter Try.func9, Try.ntmps9
  have cH0_0 := Go.Joins.cell_of_block H0 0
  simp at cH0_0
  (try dsimp only)
  go_wp2_with (rw [← EU.out])
  clear cH0_0
  refine (sztr_any a0 cap0 n0 1048576 _ (hz0.below B) (by omega) (by omega) hm0 hf0).mono ?_
  rintro e w1 ⟨rfl, b1⟩
  replace H0 := hp_below H0 b1
  replace B := B.trans (b1.mono B.size)
  clear b1
  rw [sz_no (by omega)]
  (try dsimp only)
  go_wp2_with (fail)
  go_ret
  exact ⟨rfl, B⟩
set_option maxHeartbeats 2000000 in
theorem walk_small (a0 : Option Addr) (cap0 : Nat) (n0 : List PN) (a1 : Int) (u1 : -9223372036854775808 ≤ a1) (v1 : a1 ≤ 9223372036854775807) (w : World) (hz0 : Nds w a0 n0) (hm0 : n0.length ≤ 9223372036854775807) (hf0 : ∀ n ∈ n0, n.fit) (hl0 : szS n0 ≤ 1048576) :
    Calls Try.prog 9 #[.agg #[.slice a0 n0.length cap0], .int .i64 a1] w fun e w' => e = .returned (.bool true) ∧ Below w.heap.size w w' := by
  have hnl : n0.length ≤ 1048576 := by unfold szS at hl0; omega
  have HZ0 := Lib.hid hz0
  have HF0 := Lib.hid hf0
  clear hz0 hf0
  have H0 := hp_new w (.cells #[.slice a0 n0.length cap0] 68)
  have B : Below w.heap.size w (w.alloc (.cells #[.slice a0 n0.length cap0] 68)) := Go.Joins.below_alloc1 ..
  obtain ⟨u, eu⟩ : ∃ u, u = w.alloc (.cells #[.slice a0 n0.length cap0] 68) := ⟨_, rfl⟩
  rw [← eu] at B H0
  have EU := Lib.hid eu
  clear eu
  go_enter Try.func9, Try.ntmps9
  have cH0_0 := Go.Joins.cell_of_block H0 0
  simp at cH0_0
  (try dsimp only)
  go_wp2_with (rw [← EU.out])
  clear cH0_0
  refine (sztr_any a0 cap0 n0 1048576 _ (HZ0.out.below B) (by omega) (by omega) hm0 HF0.out).mono ?_
  rintro e w1 ⟨rfl, b1⟩
  replace H0 := hp_below H0 b1
  replace B := B.trans (b1.mono B.size)
  clear b1
  rw [sz_of (by omega)]
  have hleft : (0 : Int) ≤ 1048576 - (szS n0 : Int) := by omega
  generalize (1048576 : Int) - (szS n0 : Int) = lft at *
  have cH0_0 := Go.Joins.cell_of_block H0 0
  simp at cH0_0
  (try dsimp only)
  go_wp2_with (fail)
  clear cH0_0
  refine (totr_any a0 cap0 n0 _ (HZ0.out.below B) hl0).mono ?_
  rintro e w2 ⟨gp, msgp, hmsgp, rfl, rgp, b2⟩
  replace H0 := hp_below H0 b2
  replace B := B.trans (b2.mono B.size)
  clear b2
  (try dsimp only)
  go_wp2_with (fail)
  refine (sisgone (some ⟨gp, 0, none⟩) n0.length n0 a1 _ (rgp.ndsAt hmsgp) hl0 ⟨u1, v1⟩).mono ?_
  rintro e w3 ⟨rfl, b3⟩
  replace H0 := hp_below H0 b3
  replace rgp := rgp.below b3
  replace B := B.trans (b3.mono B.size)
  clear b3
  clear rgp
  have cH0_0 := Go.Joins.cell_of_block H0 0
  simp at cH0_0
  (try dsimp only)
  go_wp2_with (fail)
  clear cH0_0
  refine (totr_any a0 cap0 n0 _ (HZ0.out.below B) hl0).mono ?_
  rintro e w4 ⟨gx, msgx, hmsgx, rfl, rgx, b4⟩
  replace H0 := hp_below H0 b4
  replace B := B.trans (b4.mono B.size)
  clear b4
  have HX := hp_new w4 (.cells #[.slice (some ⟨gx, 0, none⟩) n0.length n0.length] 26)
  have bx := bel_alloc w4 (.cells #[.slice (some ⟨gx, 0, none⟩) n0.length n0.length] 26)
  replace H0 := hp_on H0 (.cells #[.slice (some ⟨gx, 0, none⟩) n0.length n0.length] 26)
  replace rgx := rgx.below bx
  replace B := B.trans (bx.mono B.size)
  obtain ⟨v, ev⟩ : ∃ v, v = w4.alloc (.cells #[.slice (some ⟨gx, 0, none⟩) n0.length n0.length] 26) := ⟨_, rfl⟩
  rw [← ev] at B HX rgx H0
  have EV := Lib.hid ev
  clear ev bx
  have cHX_0 := Go.Joins.cell_of_block HX 0
  simp at cHX_0
  (try dsimp only)
  go_wp2_with (rw [← EV.out])
  clear cHX_0
  refine (iisgone (some ⟨gx, 0, none⟩) n0.length n0 a1 _ (rgx.ndsAt hmsgx) hl0 ⟨u1, v1⟩).mono ?_
  rintro e w5 ⟨rfl, b5⟩
  replace H0 := hp_below H0 b5
  replace HX := hp_below HX b5
  replace rgx := rgx.below b5
  replace B := B.trans (b5.mono B.size)
  clear b5
  generalize goB n0 a1 = r0 at *
  (try dsimp only)
  go_wp2_with (fail)
  have HB := Lib.hid B
  have hza : ∀ w', Below w5.heap.size w5 w' → Nds w' a0 n0 := fun w' h => HZ0.out.below (HB.out.trans (h.mono HB.out.size))
  have hxa : ∀ w', Below w5.heap.size w5 w' → Nds w' (some ⟨gx, 0, none⟩) n0 := fun w' h => (rgx.ndsAt hmsgx).below h
  have HZA := Lib.hid hza
  have HXA := Lib.hid hxa
  clear hza hxa
  have SS : w5.cell? ⟨w.heap.size, 0, none⟩ = some (.slice a0 n0.length cap0) ∧ w5.cell? ⟨w4.heap.size, 0, none⟩ = some (.slice (some ⟨gx, 0, none⟩) n0.length n0.length) ∧ Below w5.heap.size w5 w5 := ⟨by have h := Go.Joins.cell_of_block H0 0; simpa using h, by have h := Go.Joins.cell_of_block HX 0; simpa using h, Below.refl _ _⟩
  clear B H0 HX rgx
  go_region_held3 (fun w' => w'.cell? ⟨w.heap.size, 0, none⟩ = some (.slice a0 n0.length cap0) ∧ w'.cell? ⟨w4.heap.size, 0, none⟩ = some (.slice (some ⟨gx, 0, none⟩) n0.length n0.length) ∧ Below w5.heap.size w5 w')
    (first | exact keep2 (by assumption) (by assumption) | exact drew2 (by assumption))
    (first
      | (go_at_call 49; refine (totr_any a0 cap0 n0 _ (HZA.out _ (And.right (And.right (by assumption)))) hl0).mono ?_; rintro e wt ⟨gt, mst, hmst, rfl, rt, bt⟩)
      | (go_at_call 51; refine (eqtr_any (some ⟨gx, 0, none⟩) _ n0.length n0.length n0 _ (HXA.out _ (And.right (And.right (by assumption)))) (rt.ndsAt hmst) (by omega)).mono ?_; rintro e w6 ⟨rfl, be⟩)
      | fail)
  have SE : w6.cell? ⟨w.heap.size, 0, none⟩ = some (.slice a0 n0.length cap0) ∧ w6.cell? ⟨w4.heap.size, 0, none⟩ = some (.slice (some ⟨gx, 0, none⟩) n0.length n0.length) ∧ Below w5.heap.size w5 w6 := by assumption
  have b6 := SE.2.2
  have B := HB.out.trans (b6.mono HB.out.size)
  clear SS SE HZA HXA HB be rt bt b6
  (try dsimp only)
  go_wp2_with (fail)
  go_ret
  exact ⟨rfl, B⟩
theorem walk (a0 : Option Addr) (cap0 : Nat) (n0 : List PN) (a1 : Int) (u1 : -9223372036854775808 ≤ a1) (v1 : a1 ≤ 9223372036854775807) (w : World) (hz0 : Nds w a0 n0) (hm0 : n0.length ≤ 9223372036854775807) (hf0 : ∀ n ∈ n0, n.fit)  :
    Calls Try.prog 9 #[.agg #[.slice a0 n0.length cap0], .int .i64 a1] w fun e w' => e = .returned (.bool true) ∧ Below w.heap.size w w' := by
  by_cases hl0 : szS n0 ≤ 1048576
  · exact walk_small a0 cap0 n0 a1 u1 v1 w hz0 hm0 hf0 hl0
  · exact walk_big a0 cap0 n0 a1 u1 v1 w hz0 hm0 hf0 (by omega)

theorem laidOut : laidOutB Try.prog = true := by kernel_rfl

set_option maxRecDepth 100000 in
theorem lifted (os : Os) (started : os.Started) (H : Type) (enc : TypeId × Value → H) :
    ReturnsInHanded {} Try.checked os 9 .any (Rows.fnExactIsGoneSpec.pre6 enc Try.prog Try.f9 Rows.fnExactIsGoneRow.domain false) (Rows.fnExactIsGoneSpec.post enc Try.prog Try.f9 false true false false) := by
  refine returnsInHanded_of_change (C := Try.checked) own started (by kernel_rfl) Try.func9
    (ChangeSpec.witness6 (enc := enc) (C := Try.checked) false ⟨#[], #[.agg #[.slice none 0 0], .int .i64 0], []⟩ 8 (by kernel_rfl) (by kernel_rfl) (by kernel_rfl) (by kernel_rfl)) ?_
  intro W base args ds gs before hval0 hW hcnd _
  have hval : ∀ (j : Nat) t v, Try.f9.params[j]? = some t → args[j]? = some v → Value.okWide Try.prog W .any base t v := hval0
  have hW' := hW
  obtain ⟨p, q, hA0, hV, rfl, hfz, hnd⟩ := hW
  have hA : DataW.TrodAll enc Try.prog W 0 (fun _ => true) true Try.f9.params.toList args.toList ds p := hA0
  rw [Try.params9] at hA hval
  obtain ⟨v0, vs0, d0, ds0, p0, q0, hargs, rfl, rfl, h0, r0⟩ := trodAll_cons hA
  obtain ⟨v1, vs1, d1, ds1, p1, q1, rfl, rfl, rfl, h1, r1⟩ := trodAll_cons r0
  obtain ⟨rfl, rfl, rfl⟩ := trodAll_nil r1
  obtain rfl : args = #[v0, v1] := by cases args; simp_all
  obtain ⟨rfl, rfl⟩ := trodVars_none hV
  have k0 := h0
  have lt0 : ∀ x ∈ p0, x.block < W.heap.size := by obtain ⟨m, hm⟩ := k0; exact DataW.trod_lt m _ _ _ hm
  obtain ⟨a0, cap0, n0, rfl, hz0, hm0, hf0⟩ := tree_of (hval 0 68 v0 rfl rfl) h0
  have k1 := h1
  have lt1 : ∀ x ∈ p1, x.block < W.heap.size := by obtain ⟨m, hm⟩ := k1; exact DataW.trod_lt m _ _ _ hm
  obtain ⟨a1, rfl, rfl, rfl, w1⟩ := open_int Try.underlying3 (hval 1 3 v1 rfl rfl) h1
  have b1 := bounds_i64 w1
  clear hA0 hval0
  refine (walk a0 cap0 n0 a1 b1.1 b1.2 W hz0 hm0 hf0).mono fun e W' ⟨he, bel⟩ => ?_
  subst he
  exact ⟨_, rfl, law_post (pa := _) (pv := []) hW' (trodAll_cons_mk (shut_bool Try.underlying4 _) trodAll_mk0) (trodAll_cons_mk (Below.trod laidOut (by kernel_rfl) (of_decide_eq_true (by kernel_rfl)) k0 bel lt0) (trodAll_cons_mk (Below.trod laidOut (by kernel_rfl) (of_decide_eq_true (by kernel_rfl)) k1 bel lt1) trodAll_mk0)) rfl rfl bel⟩

/-- The given statement. -/
theorem proved : Rows.FnExactIsGoneSaid :=
  OpenClaim.holds_of_wide 9 Try.f9 rfl rfl rfl rfl rfl rfl rfl ⟨rfl, rfl, rfl, rfl, rfl⟩ rfl rfl rfl rfl rfl (by kernel_rfl) Try.func9 (by kernel_rfl)
    (of_decide_eq_true (by kernel_rfl)) (by unfold Func.isWrapper; first | (rw [if_pos (by decide +kernel)]; kernel_rfl) | (rw [if_neg (by decide +kernel)]; exact ⟨rfl, rfl⟩))
    (fun os started H enc _ => lifted os started H enc)
#print axioms proved
end Go.Proofs.Ytfnnfjpbplbjmaa.fnExactIsGone

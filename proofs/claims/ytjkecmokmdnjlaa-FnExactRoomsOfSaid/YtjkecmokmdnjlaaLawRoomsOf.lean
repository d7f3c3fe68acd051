/-
  For every input, laws.FnExactRoomsOf returns true: the program answers as the document's model; the arguments read as before. Conditions: none.
-/
import Derived.Test.YtjkecmokmdnjlaaRms
import Derived.Test.YtjkecmokmdnjlaaRlK
import Derived.Test.YtjkecmokmdnjlaaTbl
namespace Go.Proofs.Ytjkecmokmdnjlaa.fnExactRoomsOf
open Go.ChangeShapes Go.WideShapes Go.ChangeAt Go.RowKit
set_option linter.unusedVariables false
set_option linter.unusedSimpArgs false

theorem walk_big0 (a0 : Option Addr) (len0 cap0 : Nat) (z0 : List Int) (w : World) (hz0 : Rls w a0 len0 z0) (hm0 : len0 ≤ 9223372036854775807)  (hb : 1048576 < len0) :
    Calls Try.prog 8 #[.agg #[.slice a0 len0 cap0]] w fun e w' => e = .returned (.bool true) ∧ Below w.heap.size w w' := by
  have H0 := hp_new w (.cells #[.slice a0 len0 cap0] 44)
  have B : Below w.heap.size w (w.alloc (.cells #[.slice a0 len0 cap0] 44)) := Go.Joins.below_alloc1 ..
  obtain ⟨u, eu⟩ : ∃ u, u = w.alloc (.cells #[.slice a0 len0 cap0] 44) := ⟨_, rfl⟩
  rw [← eu] at B H0
  have EU := Lib.hid eu
  clear eu
  go_enter Try.func8, Try.ntmps8
  have cH0_0 := Go.Joins.cell_of_block H0 0
  simp at cH0_0
  (try dsimp only)
  go_wp2_with (rw [← EU.out])
  clear cH0_0
  refine (szt_big a0 len0 cap0 1048576 _ (by omega) (by omega) hm0).mono ?_
  rintro e w1 ⟨rfl, b1⟩
  replace H0 := hp_below H0 b1
  replace B := B.trans (b1.mono B.size)
  clear b1
  (try dsimp only)
  go_wp2_with (fail)
  go_ret
  exact ⟨rfl, B⟩
set_option maxHeartbeats 2000000 in
theorem walk_small (a0 : Option Addr) (len0 cap0 : Nat) (z0 : List Int) (w : World) (hz0 : Rls w a0 len0 z0) (hm0 : len0 ≤ 9223372036854775807) (hl0 : len0 ≤ 1048576) :
    Calls Try.prog 8 #[.agg #[.slice a0 len0 cap0]] w fun e w' => e = .returned (.bool true) ∧ Below w.heap.size w w' := by
  have hr0 : AllI z0 := hz0.2.1
  have HZ0 := Lib.hid hz0
  clear hz0
  have H0 := hp_new w (.cells #[.slice a0 len0 cap0] 44)
  have B : Below w.heap.size w (w.alloc (.cells #[.slice a0 len0 cap0] 44)) := Go.Joins.below_alloc1 ..
  obtain ⟨u, eu⟩ : ∃ u, u = w.alloc (.cells #[.slice a0 len0 cap0] 44) := ⟨_, rfl⟩
  rw [← eu] at B H0
  have EU := Lib.hid eu
  clear eu
  go_enter Try.func8, Try.ntmps8
  have cH0_0 := Go.Joins.cell_of_block H0 0
  simp at cH0_0
  (try dsimp only)
  go_wp2_with (rw [← EU.out])
  clear cH0_0
  refine (szt_fit a0 len0 cap0 1048576 _ (by omega) (by omega)).mono ?_
  rintro e w1 ⟨rfl, b1⟩
  replace H0 := hp_below H0 b1
  replace B := B.trans (b1.mono B.size)
  clear b1
  have cH0_0 := Go.Joins.cell_of_block H0 0
  simp at cH0_0
  (try dsimp only)
  go_wp2_with (fail)
  clear cH0_0
  refine (toT_any a0 len0 cap0 z0 _ (HZ0.out.below B) (by omega)).mono ?_
  rintro e w2 ⟨gp, rfl, rgp, b2⟩
  replace H0 := hp_below H0 b2
  replace B := B.trans (b2.mono B.size)
  clear b2
  (try dsimp only)
  go_wp2_with (fail)
  have SP := Lib.hid B.size
  refine (sroomsof _ len0 len0 z0 _ (rgp.rls hr0) (by omega)).mono ?_
  rintro e w3 ⟨vw, rfl, rw, b3⟩
  replace H0 := hp_below H0 b3
  replace rgp := rgp.below b3
  replace B := B.trans (b3.mono B.size)
  clear b3
  have Uw := Lib.hid (World.ownsRow.lt rw)
  clear rgp
  have S3 := Lib.hid (hp_lt H0)
  have cH0_0 := Go.Joins.cell_of_block H0 0
  simp at cH0_0
  (try dsimp only)
  go_wp2_with (fail)
  clear cH0_0
  refine (toT_any a0 len0 cap0 z0 _ (HZ0.out.below B) (by omega)).mono ?_
  rintro e w4 ⟨gx, rfl, rgx, b4⟩
  replace H0 := hp_below H0 b4
  replace rw := rw.below b4
  replace B := B.trans (b4.mono B.size)
  clear b4
  have UX := Lib.hid (World.ownsRow.lt rgx gx rfl)
  have HX := hp_new w4 (.cells #[.slice (some ⟨gx, 0, none⟩) len0 len0] 26)
  replace H0 := hp_on H0 (.cells #[.slice (some ⟨gx, 0, none⟩) len0 len0] 26)
  replace rgx := World.ownsRow.alloc rgx (.cells #[.slice (some ⟨gx, 0, none⟩) len0 len0] 26)
  replace B := B.alloc B.size (.cells #[.slice (some ⟨gx, 0, none⟩) len0 len0] 26)
  replace rw := World.ownsRow.alloc rw (.cells #[.slice (some ⟨gx, 0, none⟩) len0 len0] 26)
  have hvs : w4.heap.size < (w4.alloc (.cells #[.slice (some ⟨gx, 0, none⟩) len0 len0] 26)).heap.size := by simp
  obtain ⟨v, ev⟩ : ∃ v, v = w4.alloc (.cells #[.slice (some ⟨gx, 0, none⟩) len0 len0] 26) := ⟨_, rfl⟩
  rw [← ev] at B HX rgx H0 rw hvs
  have rgx : RowR _ (.slice (some ⟨gx, 0, none⟩) len0 len0) len0 z0 v := rgx
  have EV := Lib.hid ev
  clear ev
  have rw : RowI _ vw (roL z0 len0) v := rw
  have HV := Lib.hid hvs
  clear hvs
  have cHX_0 := Go.Joins.cell_of_block HX 0
  simp at cHX_0
  (try dsimp only)
  go_wp2_with (rw [← EV.out])
  clear cHX_0
  refine (iroomsof (some ⟨gx, 0, none⟩) len0 len0 z0 _ (rgx.rls hr0) (by omega)).mono ?_
  rintro e w5 ⟨vg, rfl, rg, b5⟩
  replace H0 := hp_below H0 b5
  replace HX := hp_below HX b5
  replace rw := rw.below b5
  replace rgx := rgx.below b5
  replace B := B.trans (b5.mono B.size)
  clear b5
  have Ug := Lib.hid (World.ownsRow.lt rg)
  (try dsimp only)
  go_wp2_with (fail)
  refine (eqR_any _ _ _ _ (roL z0 len0) _ (roL_all (HZ0.out)) (Nat.le_trans (Nat.le_of_eq (roL_len z0 len0)) hl0) rg rw).mono ?_
  rintro e w6 ⟨rfl, b6⟩
  replace H0 := hp_below H0 b6
  replace HX := hp_below HX b6
  replace rw := rw.below b6
  replace rgx := rgx.below b6
  replace rg := rg.below b6
  replace B := B.trans (b6.mono B.size)
  clear b6
  (try dsimp only)
  go_wp2_with (fail)
  have HB := Lib.hid B
  have hza : ∀ w', Below w6.heap.size w6 w' → Rls w' a0 len0 z0 := fun w' h => HZ0.out.below (HB.out.trans (h.mono HB.out.size))
  have hxa : ∀ w', Below w6.heap.size w6 w' → Rls w' (some ⟨gx, 0, none⟩) len0 z0 := fun w' h => (rgx.rls hr0).below h
  have HZA := Lib.hid hza
  have HXA := Lib.hid hxa
  clear hza hxa
  have SS : w6.cell? ⟨w.heap.size, 0, none⟩ = some (.slice a0 len0 cap0) ∧ w6.cell? ⟨w4.heap.size, 0, none⟩ = some (.slice (some ⟨gx, 0, none⟩) len0 len0) ∧ Below w6.heap.size w6 w6 := ⟨by have h := Go.Joins.cell_of_block H0 0; simpa using h, by have h := Go.Joins.cell_of_block HX 0; simpa using h, Below.refl _ _⟩
  have HHH0 := Lib.hid H0
  have HHHX := Lib.hid HX
  have HHrw := Lib.hid rw
  have HHrgx := Lib.hid rgx
  have HHrg := Lib.hid rg
  clear B H0 HX rw rgx rg
  go_region_held3 (fun w' => w'.cell? ⟨w.heap.size, 0, none⟩ = some (.slice a0 len0 cap0) ∧ w'.cell? ⟨w4.heap.size, 0, none⟩ = some (.slice (some ⟨gx, 0, none⟩) len0 len0) ∧ Below w6.heap.size w6 w')
    (first | exact keep2 (by assumption) (by assumption) | exact drew2 (by assumption))
    (first
      | (go_at_call 23; refine (toT_any a0 len0 cap0 z0 _ (HZA.out _ (And.right (And.right (by assumption)))) (by omega)).mono ?_; rintro e wt ⟨gt, rfl, rt, bt⟩)
      | (go_at_call 24; refine (eqT_any (some ⟨gx, 0, none⟩) _ len0 len0 len0 z0 _ (HXA.out _ (And.right (And.right (by assumption)))) (rt.rls hr0) (by omega)).mono ?_; rintro e w7 ⟨rfl, be⟩)
      | fail)
  have SE : w7.cell? ⟨w.heap.size, 0, none⟩ = some (.slice a0 len0 cap0) ∧ w7.cell? ⟨w4.heap.size, 0, none⟩ = some (.slice (some ⟨gx, 0, none⟩) len0 len0) ∧ Below w6.heap.size w6 w7 := by assumption
  have b7 := SE.2.2
  have B := HB.out.trans (b7.mono HB.out.size)
  have H0 := hp_below HHH0.out b7
  have HX := hp_below HHHX.out b7
  have rw := HHrw.out.below b7
  have rgx := HHrgx.out.below b7
  have rg := HHrg.out.below b7
  clear SS SE HZA HXA HB be rt bt b7 HHH0 HHHX HHrw HHrgx HHrg
  have cHX_0 := Go.Joins.cell_of_block HX 0
  simp at cHX_0
  (try dsimp only)
  go_wp2_with (fail)
  clear cHX_0
  refine (markT_any gx len0 len0 _ 1 1 z0 _ (by omega) (by omega) rfl rgx).mono ?_
  rintro e w8 ⟨rfl, g8⟩
  have UX1 := UX.out
  have S31 := S3.out
  have SP1 := SP.out
  have HV1 := HV.out
  replace H0 := hp_grown H0 g8 (fun e => by simp at e; omega)
  replace rw := rw.kept g8 (ap_lt Uw.out (Or.inl (by omega)))
  replace rg := rg.kept g8 (ap_lt Ug.out (Or.inr (by omega)))
  replace B := B.grown g8 B.size (fun k hk => by simp at hk; omega)
  clear g8 HX rgx UX1 S31 SP1 HV1
  (try dsimp only)
  go_wp2_with (fail)
  refine (eqR_any _ _ _ _ (roL z0 len0) _ (roL_all (HZ0.out)) (Nat.le_trans (Nat.le_of_eq (roL_len z0 len0)) hl0) rg rw).mono ?_
  rintro e w9 ⟨rfl, b9⟩
  replace H0 := hp_below H0 b9
  replace rw := rw.below b9
  replace rg := rg.below b9
  replace B := B.trans (b9.mono B.size)
  clear b9
  (try dsimp only)
  go_wp2_with (fail)
  refine (markI_any _ 1 _ (roL z0 len0) _ (Nat.le_trans (Nat.le_of_eq (roL_len z0 len0)) hl0) (by omega) rg).mono ?_
  rintro e w10 ⟨rfl, r10, g10⟩
  have UX1 := UX.out
  have S31 := S3.out
  have SP1 := SP.out
  have HV1 := HV.out
  replace H0 := hp_grown H0 g10 (ap_ne Ug.out (Or.inr (by omega)))
  replace rw := rw.kept g10 (apart_U Uw.out Ug.out (by omega))
  replace B := B.grown g10 B.size (fun k hk => by have := Ug.out k hk; omega)
  clear g10 rg UX1 S31 SP1 HV1
  have rg := r10
  clear r10
  (try dsimp only)
  go_wp2_with (fail)
  refine (heldI_any _ 1 (roL z0 len0).length _ _ (Nat.le_trans (Nat.le_of_eq (roL_len z0 len0)) hl0) (by omega) rg).mono ?_
  rintro e w11 ⟨rfl, h11⟩
  have b11 : Below w10.heap.size w10 w11 := by rw [h11]; exact Below.refl _ _
  replace H0 := hp_below H0 b11
  replace rw := rw.below b11
  replace rg := rg.below b11
  replace B := B.trans (b11.mono B.size)
  clear b11 h11
  have cH0_0 := Go.Joins.cell_of_block H0 0
  simp at cH0_0
  (try dsimp only)
  go_wp2_with (fail)
  clear cH0_0
  refine (toT_any a0 len0 cap0 z0 _ (HZ0.out.below B) (by omega)).mono ?_
  rintro e w12 ⟨gq, rfl, rgq, b12⟩
  replace H0 := hp_below H0 b12
  replace rw := rw.below b12
  replace rg := rg.below b12
  replace B := B.trans (b12.mono B.size)
  clear b12
  (try dsimp only)
  go_wp2_with (fail)
  refine (iroomsof (some ⟨gq, 0, none⟩) len0 len0 z0 _ (rgq.rls hr0) (by omega)).mono ?_
  rintro e w13 ⟨vh, rfl, rh, b13⟩
  replace H0 := hp_below H0 b13
  replace rw := rw.below b13
  replace rg := rg.below b13
  replace rgq := rgq.below b13
  replace B := B.trans (b13.mono B.size)
  clear b13
  clear rgq
  (try dsimp only)
  go_wp2_with (fail)
  refine (eqR_any _ _ _ _ (roL z0 len0) _ (roL_all (HZ0.out)) (Nat.le_trans (Nat.le_of_eq (roL_len z0 len0)) hl0) rh rw).mono ?_
  rintro e w14 ⟨rfl, b14⟩
  replace H0 := hp_below H0 b14
  replace rw := rw.below b14
  replace rg := rg.below b14
  replace rh := rh.below b14
  replace B := B.trans (b14.mono B.size)
  clear b14
  (try dsimp only)
  go_wp2_with (fail)
  refine (heldI_any _ 1 (roL z0 len0).length _ _ (Nat.le_trans (Nat.le_of_eq (roL_len z0 len0)) hl0) (by omega) rg).mono ?_
  rintro e w15 ⟨rfl, h15⟩
  have b15 : Below w14.heap.size w14 w15 := by rw [h15]; exact Below.refl _ _
  replace H0 := hp_below H0 b15
  replace rw := rw.below b15
  replace rg := rg.below b15
  replace rh := rh.below b15
  replace B := B.trans (b15.mono B.size)
  clear b15 h15
  (try dsimp only)
  go_wp2_with (fail)
  go_ret
  exact ⟨rfl, B⟩
theorem walk (a0 : Option Addr) (len0 cap0 : Nat) (z0 : List Int) (w : World) (hz0 : Rls w a0 len0 z0) (hm0 : len0 ≤ 9223372036854775807)  :
    Calls Try.prog 8 #[.agg #[.slice a0 len0 cap0]] w fun e w' => e = .returned (.bool true) ∧ Below w.heap.size w w' := by
  by_cases hl0 : len0 ≤ 1048576
  · exact walk_small a0 len0 cap0 z0 w hz0 hm0 hl0
  · exact walk_big0 a0 len0 cap0 z0 w hz0 hm0 (by omega)

theorem laidOut : laidOutB Try.prog = true := by kernel_rfl

set_option maxRecDepth 100000 in
theorem lifted (os : Os) (started : os.Started) (H : Type) (enc : TypeId × Value → H) :
    ReturnsInHanded {} Try.checked os 8 .any (Rows.fnExactRoomsOfSpec.pre6 enc Try.prog Try.f8 Rows.fnExactRoomsOfRow.domain false) (Rows.fnExactRoomsOfSpec.post enc Try.prog Try.f8 false true false false) := by
  refine returnsInHanded_of_change (C := Try.checked) own started (by kernel_rfl) Try.func8
    (ChangeSpec.witness6 (enc := enc) (C := Try.checked) false ⟨#[], #[.agg #[.slice none 0 0]], []⟩ 8 (by kernel_rfl) (by kernel_rfl) (by kernel_rfl) (by kernel_rfl)) ?_
  intro W base args ds gs before hval0 hW hcnd _
  have hval : ∀ (j : Nat) t v, Try.f8.params[j]? = some t → args[j]? = some v → Value.okWide Try.prog W .any base t v := hval0
  have hW' := hW
  obtain ⟨p, q, hA0, hV, rfl, hfz, hnd⟩ := hW
  have hA : DataW.TrodAll enc Try.prog W 0 (fun _ => true) true Try.f8.params.toList args.toList ds p := hA0
  rw [Try.params8] at hA hval
  obtain ⟨v0, vs0, d0, ds0, p0, q0, hargs, rfl, rfl, h0, r0⟩ := trodAll_cons hA
  obtain ⟨rfl, rfl, rfl⟩ := trodAll_nil r0
  obtain rfl : args = #[v0] := by cases args; simp_all
  obtain ⟨rfl, rfl⟩ := trodVars_none hV
  have k0 := h0
  have lt0 : ∀ x ∈ p0, x.block < W.heap.size := by obtain ⟨m, hm⟩ := k0; exact DataW.trod_lt m _ _ _ hm
  obtain ⟨a0, len0, cap0, z0, rfl, hz0, hm0⟩ := tab_of (hval 0 44 v0 rfl rfl) h0
  clear hA0 hval0
  refine (walk a0 len0 cap0 z0 W hz0 hm0).mono fun e W' ⟨he, bel⟩ => ?_
  subst he
  exact ⟨_, rfl, law_post (pa := _) (pv := []) hW' (trodAll_cons_mk (shut_bool Try.underlying4 _) trodAll_mk0) (trodAll_cons_mk (Below.trod laidOut (by kernel_rfl) (of_decide_eq_true (by kernel_rfl)) k0 bel lt0) trodAll_mk0) rfl rfl bel⟩

/-- The given statement. -/
theorem proved : Rows.FnExactRoomsOfSaid :=
  OpenClaim.holds_of_wide 8 Try.f8 rfl rfl rfl rfl rfl rfl rfl ⟨rfl, rfl, rfl, rfl, rfl⟩ rfl rfl rfl rfl rfl (by kernel_rfl) Try.func8 (by kernel_rfl)
    (of_decide_eq_true (by kernel_rfl)) (by unfold Func.isWrapper; first | (rw [if_pos (by decide +kernel)]; kernel_rfl) | (rw [if_neg (by decide +kernel)]; exact ⟨rfl, rfl⟩))
    (fun os started H enc _ => lifted os started H enc)
#print axioms proved
end Go.Proofs.Ytjkecmokmdnjlaa.fnExactRoomsOf

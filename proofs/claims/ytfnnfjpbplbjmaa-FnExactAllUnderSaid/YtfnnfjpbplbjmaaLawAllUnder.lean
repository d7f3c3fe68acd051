/-
  For every input, laws.FnExactAllUnder returns true: the program answers as the document's model, in memory of its own; the arguments read as before. Conditions: none.
-/
import Derived.Test.YtfnnfjpbplbjmaaAuS
import Derived.Test.YtfnnfjpbplbjmaaAuI
import Derived.Test.YtfnnfjpbplbjmaaMkT
import Derived.Test.YtfnnfjpbplbjmaaRowI
import Derived.Test.YtfnnfjpbplbjmaaTbl
namespace Go.Proofs.Ytfnnfjpbplbjmaa.fnExactAllUnder
open Go.ChangeShapes Go.WideShapes Go.ChangeAt Go.RowKit
set_option linter.unusedVariables false
set_option linter.unusedSimpArgs false
set_option maxRecDepth 8000

theorem row_fr {b : Nat} {v : Value} {xs : List Int} {lo hi : Nat} {w w' : World} (h : RowI b v xs w) (f : MkFr lo hi w w') (hk : ∀ k, v.ownBlock = some k → k < lo ∨ hi ≤ k) : RowI b v xs w' :=
  ⟨h.1, h.2.imp id fun ⟨g, cap, cur, h1, h2, h3, h4⟩ => ⟨g, cap, cur, h1, h2, f.heap h3 (hk g (by rw [h1]; rfl)), h4⟩⟩
theorem walk_big (a0 : Option Addr) (cap0 : Nat) (n0 : List PN) (a1 : Int) (u1 : -9223372036854775808 ≤ a1) (v1 : a1 ≤ 9223372036854775807) (w : World) (hz0 : Nds w a0 n0) (hm0 : n0.length ≤ 9223372036854775807) (hf0 : ∀ n ∈ n0, n.fit) (hb : 1048576 < szS n0) :
    Calls Try.prog 11 #[.agg #[.slice a0 n0.length cap0], .int .i64 a1] w fun e w' => e = .returned (.bool true) ∧ Below w.heap.size w w' := by
  have H0 := hp_new w (.cells #[.slice a0 n0.length cap0] 68)
  have B : Below w.heap.size w (w.alloc (.cells #[.slice a0 n0.length cap0] 68)) := Go.Joins.below_alloc1 ..
  obtain ⟨u, eu⟩ : ∃ u, u = w.alloc (.cells #[.slice a0 n0.length cap0] 68) := ⟨_, rfl⟩
  rw [← eu] at B H0
  have EU := Lib.hid eu
  clear eu
  go_enter Try.func11, Try.ntmps11
  have c_H0 := (Go.Joins.cell_of_block H0 0)
  simp at c_H0
  (try dsimp only)
  go_wp2_with (rw [← EU.out])
  clear c_H0
  refine (sztr_any a0 cap0 n0 1048576 _ (hz0.below B) (by omega) (by omega) hm0 hf0).mono ?_
  rintro e w1 ⟨rfl, b1⟩
  replace H0 := hp_below H0 b1
  replace B := B.trans (b1.mono B.size)
  clear b1
  rw [sz_no (by omega)]
  (try dsimp only)
  go_wp2_with (fail)
  go_ret
  exact ⟨rfl, B⟩
set_option maxHeartbeats 4000000 in
theorem walk_small (a0 : Option Addr) (cap0 : Nat) (n0 : List PN) (a1 : Int) (u1 : -9223372036854775808 ≤ a1) (v1 : a1 ≤ 9223372036854775807) (w : World) (hz0 : Nds w a0 n0) (hm0 : n0.length ≤ 9223372036854775807) (hf0 : ∀ n ∈ n0, n.fit) (hl0 : szS n0 ≤ 1048576) :
    Calls Try.prog 11 #[.agg #[.slice a0 n0.length cap0], .int .i64 a1] w fun e w' => e = .returned (.bool true) ∧ Below w.heap.size w w' := by
  have hnl : n0.length ≤ 1048576 := by unfold szS at hl0; omega
  have HZ0 := Lib.hid hz0
  have HF0 := Lib.hid hf0
  clear hz0 hf0
  obtain ⟨L, eL⟩ : ∃ L : List Int, L = auV n0 a1 := ⟨_, rfl⟩
  have hLA : AllI L := by rw [eL]; exact auV_all n0 a1
  have hLL : L.length ≤ 1048576 := by rw [eL]; exact Nat.le_trans (auV_len n0 a1) (by omega)
  have KS := Lib.hid (fun (g : Nat) (w' : World) (h : Nds w' (some ⟨g, 0, none⟩) n0) => (show Calls Try.prog 41 #[.agg #[.slice (some ⟨g, 0, none⟩) n0.length n0.length], .int .i64 a1] w' (OutPost L w') from by rw [eL]; exact sallunder _ _ n0 a1 w' h hl0 ⟨u1, v1⟩))
  have KM := Lib.hid (fun (g : Nat) (w' : World) (h : Nds w' (some ⟨g, 0, none⟩) n0) => (show Calls Try.prog 40 #[.agg #[.slice (some ⟨g, 0, none⟩) n0.length n0.length], .int .i64 a1] w' (OutPost L w') from by rw [eL]; exact iallunder _ _ n0 a1 w' h hl0 ⟨u1, v1⟩))
  have HLA := Lib.hid hLA
  clear eL hLA
  have H0 := hp_new w (.cells #[.slice a0 n0.length cap0] 68)
  have B : Below w.heap.size w (w.alloc (.cells #[.slice a0 n0.length cap0] 68)) := Go.Joins.below_alloc1 ..
  obtain ⟨u, eu⟩ : ∃ u, u = w.alloc (.cells #[.slice a0 n0.length cap0] 68) := ⟨_, rfl⟩
  rw [← eu] at B H0
  have EU := Lib.hid eu
  clear eu
  go_enter Try.func11, Try.ntmps11
  have c_H0 := (Go.Joins.cell_of_block H0 0)
  simp at c_H0
  (try dsimp only)
  go_wp2_with (rw [← EU.out])
  clear c_H0
  refine (sztr_any a0 cap0 n0 1048576 _ (HZ0.out.below B) (by omega) (by omega) hm0 HF0.out).mono ?_
  rintro e w1 ⟨rfl, b1⟩
  replace H0 := hp_below H0 b1
  replace B := B.trans (b1.mono B.size)
  clear b1
  rw [sz_of (by omega)]
  have hleft : (0 : Int) ≤ 1048576 - (szS n0 : Int) := by omega
  generalize (1048576 : Int) - (szS n0 : Int) = lft at *
  have c_H0 := (Go.Joins.cell_of_block H0 0)
  simp at c_H0
  (try dsimp only)
  go_wp2_with (fail)
  clear c_H0
  refine (totr_any a0 cap0 n0 _ (HZ0.out.below B) hl0).mono ?_
  rintro e w2 ⟨gp, msp, hmsp, rfl, rgp, b2⟩
  replace H0 := hp_below H0 b2
  replace B := B.trans (b2.mono B.size)
  clear b2
  (try dsimp only)
  go_wp2_with (fail)
  refine (KS.out gp _ (rgp.ndsAt hmsp)).mono ?_
  rintro e w3 ⟨vw, rfl, rw0, b3⟩
  have Uw := Lib.hid (World.ownsRow.lt rw0)
  clear rgp
  replace H0 := hp_below H0 b3
  replace B := B.trans (b3.mono B.size)
  clear b3
  have S3 := Lib.hid (hp_lt H0)
  have c_H0 := (Go.Joins.cell_of_block H0 0)
  simp at c_H0
  (try dsimp only)
  go_wp2_with (fail)
  clear c_H0
  refine (totr_any a0 cap0 n0 _ (HZ0.out.below B) hl0).mono ?_
  rintro e w4 ⟨gx, msx, hmsx, rfl, rgx, b4⟩
  have SB4 := Lib.hid b4.size
  replace H0 := hp_below H0 b4
  replace rw0 := rw0.below b4
  replace B := B.trans (b4.mono B.size)
  clear b4
  have hvx := (own_lt rgx).1
  have hcx := (own_lt rgx).2
  have HVX := Lib.hid hvx
  have HCX := Lib.hid hcx
  clear hvx hcx
  have HX := hp_new w4 (.cells #[.slice (some ⟨gx, 0, none⟩) n0.length n0.length] 26)
  have bx := bel_alloc w4 (.cells #[.slice (some ⟨gx, 0, none⟩) n0.length n0.length] 26)
  replace rgx := rgx.below bx
  have hv5 : w4.heap.size < (w4.alloc (.cells #[.slice (some ⟨gx, 0, none⟩) n0.length n0.length] 26)).heap.size := by simp
  replace H0 := hp_below H0 bx
  replace rw0 := rw0.below bx
  replace B := B.trans (bx.mono B.size)
  clear bx
  obtain ⟨v, ev⟩ : ∃ v, v = w4.alloc (.cells #[.slice (some ⟨gx, 0, none⟩) n0.length n0.length] 26) := ⟨_, rfl⟩
  rw [← ev] at B HX rgx H0 rw0 hv5
  have EV := Lib.hid ev
  have HV5 := Lib.hid hv5
  clear ev hv5
  have c_HX := (Go.Joins.cell_of_block HX 0)
  simp at c_HX
  (try dsimp only)
  go_wp2_with (rw [← EV.out])
  clear c_HX
  refine (KM.out gx _ (rgx.ndsAt hmsx)).mono ?_
  rintro e w5 ⟨vg, rfl, rg, b5⟩
  have Ug := Lib.hid (World.ownsRow.lt rg)
  replace H0 := hp_below H0 b5
  replace HX := hp_below HX b5
  replace rw0 := rw0.below b5
  replace rgx := rgx.below b5
  replace B := B.trans (b5.mono B.size)
  clear b5
  (try dsimp only)
  go_wp2_with (fail)
  refine (eqR_any _ _ _ _ L _ HLA.out hLL rg rw0).mono ?_
  rintro e w6 ⟨rfl, b6⟩
  replace H0 := hp_below H0 b6
  replace HX := hp_below HX b6
  replace rw0 := rw0.below b6
  replace rgx := rgx.below b6
  replace rg := rg.below b6
  replace B := B.trans (b6.mono B.size)
  clear b6
  (try dsimp only)
  go_wp2_with (fail)
  have HB := Lib.hid B
  have hza : ∀ w', Below w6.heap.size w6 w' → Nds w' a0 n0 := fun w' h => HZ0.out.below (HB.out.trans (h.mono HB.out.size))
  have hxa : ∀ w', Below w6.heap.size w6 w' → Nds w' (some ⟨gx, 0, none⟩) n0 := fun w' h => (rgx.ndsAt hmsx).below h
  have HZA := Lib.hid hza
  have HXA := Lib.hid hxa
  clear hza hxa
  have SS : w6.cell? ⟨w.heap.size, 0, none⟩ = some (.slice a0 n0.length cap0) ∧ w6.cell? ⟨w4.heap.size, 0, none⟩ = some (.slice (some ⟨gx, 0, none⟩) n0.length n0.length) ∧ Below w6.heap.size w6 w6 := ⟨by have h := Go.Joins.cell_of_block H0 0; simpa using h, by have h := Go.Joins.cell_of_block HX 0; simpa using h, Below.refl _ _⟩
  have HHH0 := Lib.hid H0
  have HHHX := Lib.hid HX
  have HHrw0 := Lib.hid rw0
  have HHrgx := Lib.hid rgx
  have HHrg := Lib.hid rg
  clear B H0 HX rw0 rgx rg
  go_region_held3 (fun w' => w'.cell? ⟨w.heap.size, 0, none⟩ = some (.slice a0 n0.length cap0) ∧ w'.cell? ⟨w4.heap.size, 0, none⟩ = some (.slice (some ⟨gx, 0, none⟩) n0.length n0.length) ∧ Below w6.heap.size w6 w')
    (first | exact keep2 (by assumption) (by assumption) | exact drew2 (by assumption))
    (first
      | (go_at_call 49; refine (totr_any a0 cap0 n0 _ (HZA.out _ (And.right (And.right (by assumption)))) hl0).mono ?_; rintro e wt ⟨gt, mst, hmst, rfl, rt, bt⟩)
      | (go_at_call 51; refine (eqtr_any (some ⟨gx, 0, none⟩) _ n0.length n0.length n0 _ (HXA.out _ (And.right (And.right (by assumption)))) (rt.ndsAt hmst) (by omega)).mono ?_; rintro e w7 ⟨rfl, be⟩)
      | fail)
  have SE : w7.cell? ⟨w.heap.size, 0, none⟩ = some (.slice a0 n0.length cap0) ∧ w7.cell? ⟨w4.heap.size, 0, none⟩ = some (.slice (some ⟨gx, 0, none⟩) n0.length n0.length) ∧ Below w6.heap.size w6 w7 := by assumption
  have b7 := SE.2.2
  have B := HB.out.trans (b7.mono HB.out.size)
  have H0 := hp_below HHH0.out b7
  have HX := hp_below HHHX.out b7
  have rw0 := HHrw0.out.below b7
  have rgx := HHrgx.out.below b7
  have rg := HHrg.out.below b7
  clear SS SE HZA HXA HB be rt bt b7 HHH0 HHHX HHrw0 HHrgx HHrg
  have c_HX := (Go.Joins.cell_of_block HX 0)
  simp at c_HX
  (try dsimp only)
  go_wp2_with (fail)
  clear c_HX
  have hszx : szS (msx.map ND.n) ≤ 2097152 := by rw [hmsx]; omega
  refine (marktr_any w3.heap.size w4.heap.size 1 (.slice (some ⟨gx, 0, none⟩) n0.length n0.length) msx _ rgx HVX.out HCX.out hszx (by decide)).mono ?_
  rintro e w8 ⟨rfl, -, fr⟩
  have hq0 : (0 : Int) ≤ (nxL 1 msx : Int) := Int.natCast_nonneg _
  generalize (nxL 1 msx : Int) = q0 at *
  have hs3 := S3.out
  have hs4 := SB4.out
  have hs5 := HV5.out
  replace H0 := fr.heap H0 (Or.inl (by omega))
  replace rw0 := row_fr rw0 fr (fun k hk => Or.inl (Uw.out k hk).2)
  replace rg := row_fr rg fr (fun k hk => Or.inr (by have := (Ug.out k hk).1; omega))
  replace B := B.trans (fr.below (by omega) B.size)
  clear fr rgx HX hszx hs3 hs4 hs5
  (try dsimp only)
  go_wp2_with (fail)
  refine (eqR_any _ _ _ _ L _ HLA.out hLL rg rw0).mono ?_
  rintro e w9 ⟨rfl, b9⟩
  replace H0 := hp_below H0 b9
  replace rw0 := rw0.below b9
  replace rg := rg.below b9
  replace B := B.trans (b9.mono B.size)
  clear b9
  (try dsimp only)
  go_wp2_with (fail)
  refine (markI_any _ 1 _ L _ hLL (by omega) rg).mono ?_
  rintro e w10 ⟨rfl, r10, g10⟩
  have hs3 := S3.out
  have hs4 := SB4.out
  have hs5 := HV5.out
  replace H0 := hp_grown H0 g10 (ap_ne Ug.out (Or.inr (by omega)))
  replace rw0 := rw0.kept g10 (apart_U Uw.out Ug.out (by omega))
  replace B := B.grown g10 B.size (fun k hk => by have := Ug.out k hk; omega)
  clear g10 rg hs3 hs4 hs5
  have rg := r10
  clear r10
  (try dsimp only)
  go_wp2_with (fail)
  refine (heldI_any _ 1 L.length _ _ hLL (by omega) rg).mono ?_
  rintro e w11 ⟨rfl, h11⟩
  have b11 : Below w10.heap.size w10 w11 := by rw [h11]; exact Below.refl _ _
  clear h11
  replace H0 := hp_below H0 b11
  replace rw0 := rw0.below b11
  replace rg := rg.below b11
  replace B := B.trans (b11.mono B.size)
  clear b11
  have c_H0 := (Go.Joins.cell_of_block H0 0)
  simp at c_H0
  (try dsimp only)
  go_wp2_with (fail)
  clear c_H0
  refine (totr_any a0 cap0 n0 _ (HZ0.out.below B) hl0).mono ?_
  rintro e w12 ⟨gq, msq, hmsq, rfl, rgq, b12⟩
  replace H0 := hp_below H0 b12
  replace rw0 := rw0.below b12
  replace rg := rg.below b12
  replace B := B.trans (b12.mono B.size)
  clear b12
  (try dsimp only)
  go_wp2_with (fail)
  refine (KM.out gq _ (rgq.ndsAt hmsq)).mono ?_
  rintro e w13 ⟨vh, rfl, rh, b13⟩
  clear rgq
  replace H0 := hp_below H0 b13
  replace rw0 := rw0.below b13
  replace rg := rg.below b13
  replace B := B.trans (b13.mono B.size)
  clear b13
  (try dsimp only)
  go_wp2_with (fail)
  refine (eqR_any _ _ _ _ L _ HLA.out hLL rh rw0).mono ?_
  rintro e w14 ⟨rfl, b14⟩
  clear rh
  replace H0 := hp_below H0 b14
  replace rw0 := rw0.below b14
  replace rg := rg.below b14
  replace B := B.trans (b14.mono B.size)
  clear b14
  (try dsimp only)
  go_wp2_with (fail)
  refine (heldI_any _ 1 L.length _ _ hLL (by omega) rg).mono ?_
  rintro e w15 ⟨rfl, h15⟩
  have b15 : Below w14.heap.size w14 w15 := by rw [h15]; exact Below.refl _ _
  clear h15
  replace H0 := hp_below H0 b15
  replace rw0 := rw0.below b15
  replace rg := rg.below b15
  replace B := B.trans (b15.mono B.size)
  clear b15
  (try dsimp only)
  go_wp2_with (fail)
  go_ret
  exact ⟨rfl, B⟩
theorem walk (a0 : Option Addr) (cap0 : Nat) (n0 : List PN) (a1 : Int) (u1 : -9223372036854775808 ≤ a1) (v1 : a1 ≤ 9223372036854775807) (w : World) (hz0 : Nds w a0 n0) (hm0 : n0.length ≤ 9223372036854775807) (hf0 : ∀ n ∈ n0, n.fit)  :
    Calls Try.prog 11 #[.agg #[.slice a0 n0.length cap0], .int .i64 a1] w fun e w' => e = .returned (.bool true) ∧ Below w.heap.size w w' := by
  by_cases hl0 : szS n0 ≤ 1048576
  · exact walk_small a0 cap0 n0 a1 u1 v1 w hz0 hm0 hf0 hl0
  · exact walk_big a0 cap0 n0 a1 u1 v1 w hz0 hm0 hf0 (by omega)

theorem laidOut : laidOutB Try.prog = true := by kernel_rfl

set_option maxRecDepth 100000 in
theorem lifted (os : Os) (started : os.Started) (H : Type) (enc : TypeId × Value → H) :
    ReturnsInHanded {} Try.checked os 11 .any (Rows.fnExactAllUnderSpec.pre6 enc Try.prog Try.f11 Rows.fnExactAllUnderRow.domain false) (Rows.fnExactAllUnderSpec.post enc Try.prog Try.f11 false true false false) := by
  refine returnsInHanded_of_change (C := Try.checked) own started (by kernel_rfl) Try.func11
    (ChangeSpec.witness6 (enc := enc) (C := Try.checked) false ⟨#[], #[.agg #[.slice none 0 0], .int .i64 0], []⟩ 8 (by kernel_rfl) (by kernel_rfl) (by kernel_rfl) (by kernel_rfl)) ?_
  intro W base args ds gs before hval0 hW hcnd _
  have hval : ∀ (j : Nat) t v, Try.f11.params[j]? = some t → args[j]? = some v → Value.okWide Try.prog W .any base t v := hval0
  have hW' := hW
  obtain ⟨p, q, hA0, hV, rfl, hfz, hnd⟩ := hW
  have hA : DataW.TrodAll enc Try.prog W 0 (fun _ => true) true Try.f11.params.toList args.toList ds p := hA0
  rw [Try.params11] at hA hval
  obtain ⟨v0, vs0, d0, ds0, p0, q0, hargs, rfl, rfl, h0, r0⟩ := trodAll_cons hA
  obtain ⟨v1, vs1, d1, ds1, p1, q1, rfl, rfl, rfl, h1, r1⟩ := trodAll_cons r0
  obtain ⟨rfl, rfl, rfl⟩ := trodAll_nil r1
  obtain rfl : args = #[v0, v1] := by cases args; simp_all
  obtain ⟨rfl, rfl⟩ := trodVars_none hV
  have k0 := h0
  have lt0 : ∀ x ∈ p0, x.block < W.heap.size := by obtain ⟨m, hm⟩ := k0; exact DataW.trod_lt m _ _ _ hm
  obtain ⟨a0, cap0, n0, rfl, hz0, hm0, hf0⟩ := tree_of (hval 0 68 v0 rfl rfl) h0
  have k1 := h1
  have lt1 : ∀ x ∈ p1, x.block < W.heap.size := by obtain ⟨m, hm⟩ := k1; exact DataW.trod_lt m _ _ _ hm
  obtain ⟨a1, rfl, rfl, rfl, w1⟩ := open_int Try.underlying3 (hval 1 3 v1 rfl rfl) h1
  have b1 := bounds_i64 w1
  clear hA0 hval0
  refine (walk a0 cap0 n0 a1 b1.1 b1.2 W hz0 hm0 hf0).mono fun e W' ⟨he, bel⟩ => ?_
  subst he
  exact ⟨_, rfl, law_post (pa := _) (pv := []) hW' (trodAll_cons_mk (shut_bool Try.underlying4 _) trodAll_mk0) (trodAll_cons_mk (Below.trod laidOut (by kernel_rfl) (of_decide_eq_true (by kernel_rfl)) k0 bel lt0) (trodAll_cons_mk (Below.trod laidOut (by kernel_rfl) (of_decide_eq_true (by kernel_rfl)) k1 bel lt1) trodAll_mk0)) rfl rfl bel⟩

/-- The given statement. -/
theorem proved : Rows.FnExactAllUnderSaid :=
  OpenClaim.holds_of_wide 11 Try.f11 rfl rfl rfl rfl rfl rfl rfl ⟨rfl, rfl, rfl, rfl, rfl⟩ rfl rfl rfl rfl rfl (by kernel_rfl) Try.func11 (by kernel_rfl)
    (of_decide_eq_true (by kernel_rfl)) (by unfold Func.isWrapper; first | (rw [if_pos (by decide +kernel)]; kernel_rfl) | (rw [if_neg (by decide +kernel)]; exact ⟨rfl, rfl⟩))
    (fun os started H enc _ => lifted os started H enc)
#print axioms proved
end Go.Proofs.Ytfnnfjpbplbjmaa.fnExactAllUnder

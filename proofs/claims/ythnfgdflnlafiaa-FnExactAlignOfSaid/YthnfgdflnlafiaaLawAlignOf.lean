/-
  For every input, laws.FnExactAlignOf returns true: the program answers as the document's model; the arguments read as before. Conditions: none.
-/
import Derived.Test.YthnfgdflnlafiaaAlM
import Derived.Test.YthnfgdflnlafiaaToS
import Derived.Deep.RegionWith
import Derived.Below
namespace Go.Proofs.Ythnfgdflnlafiaa.fnExactAlignOf
open Go.ChangeShapes Go.WideShapes Go.ChangeAt Go.RowKit
set_option linter.unusedVariables false
set_option linter.unusedSimpArgs false

set_option maxHeartbeats 1000000 in
theorem walk (a0 : Nat → Int) (ra0 : InR a0) (ba0 : ∀ i, i = 6 ∨ i = 7 → a0 i = 0 ∨ a0 i = 1) (a1 : Nat → Int) (ra1 : InR a1) (ba1 : ∀ i, i = 6 ∨ i = 7 → a1 i = 0 ∨ a1 i = 1) (w : World) :
    Calls Try.prog 9 #[.agg (sCells a0), .agg (sCells a1)] w fun e w' => e = .returned (.bool true) ∧ Below w.heap.size w w' := by
  have hsp := salign a0 a1
  have him := ialign a0 a1
  generalize alI (a0 0) (a0 3) (a1 4) = r at *
  clear ra0 ba0 ra1 ba1
  have hA := hp_on (hp_new w (.cells (sCells a0) 49)) (.cells (sCells a1) 49)
  have hB := hp_new (w.alloc (.cells (sCells a0) 49)) (.cells (sCells a1) 49)
  have bb := Go.Joins.below_alloc2 w (.cells (sCells a0) 49) (.cells (sCells a1) 49)
  simp only [World.size_alloc] at hA hB
  obtain ⟨u, eu⟩ : ∃ u, u = (w.alloc (.cells (sCells a0) 49)).alloc (.cells (sCells a1) 49) := ⟨_, rfl⟩
  rw [← eu] at hA hB bb
  have EU := Lib.hid eu
  clear eu
  go_enter Try.func9, Try.ntmps9
  go_wp2_with (fail)
  rw [← EU.out]
  clear EU
  refine wp_region_quiet_below (by kernel_rfl) (by kernel_rfl) ?_
  repeat (first
    | (go_big_quiet_want; (with_reducible apply quiet_lsty); exact rfl; exact rfl; (with_reducible exact hA); simp only [Act.put, List.setIfInBounds_toArray, List.set_cons_succ, List.set_cons_zero]; go_big_quiet_on)
    | (go_big_quiet_want; (with_reducible apply quiet_lsty); exact rfl; exact rfl; (with_reducible exact hB); simp only [Act.put, List.setIfInBounds_toArray, List.set_cons_succ, List.set_cons_zero]; go_big_quiet_on)
    | go_big_quiet_step (first
      | (go_at_call_of 27 a0; exact Calls.regrown_of (toSty a0 _))
      | (go_at_call_of 27 a1; exact Calls.regrown_of (toSty a1 _))
      | (go_at_call 26; exact Calls.regrown_of (hsp _))
      | fail))
  refine wpQuiet_nil ?_
  intro _ hw'
  obtain ⟨⟨dq, osq⟩, hw''⟩ := hw'
  subst hw''
  have bq := below_regrown u dq osq
  replace hA := hp_below hA bq
  replace hB := hp_below hB bq
  replace bb := bb.trans (bq.mono bb.size)
  clear bq
  generalize Sort.grow (redrawn u dq) osq = u1 at *
  go_wp2_with (fail)
  refine wp_region_quiet_below (by kernel_rfl) (by kernel_rfl) ?_
  repeat (first
    | (go_big_quiet_want; (with_reducible apply quiet_lsty); exact rfl; exact rfl; (with_reducible exact hA); simp only [Act.put, List.setIfInBounds_toArray, List.set_cons_succ, List.set_cons_zero]; go_big_quiet_on)
    | (go_big_quiet_want; (with_reducible apply quiet_lsty); exact rfl; exact rfl; (with_reducible exact hB); simp only [Act.put, List.setIfInBounds_toArray, List.set_cons_succ, List.set_cons_zero]; go_big_quiet_on)
    | go_big_quiet_step (first
      | (go_at_call_of 27 a0; exact Calls.regrown_of (toSty a0 _))
      | (go_at_call_of 27 a1; exact Calls.regrown_of (toSty a1 _))
      | (go_at_call 25; exact Calls.regrown_of (him _))
      | fail))
  refine wpQuiet_nil ?_
  intro _ hw'
  obtain ⟨⟨dq, osq⟩, hw''⟩ := hw'
  subst hw''
  have bq := below_regrown u1 dq osq
  replace hA := hp_below hA bq
  replace hB := hp_below hB bq
  replace bb := bb.trans (bq.mono bb.size)
  clear bq
  generalize Sort.grow (redrawn u1 dq) osq = u2 at *
  go_wp2_with (fail)
  go_ret
  exact ⟨rfl, bb⟩

theorem laidOut : laidOutB Try.prog = true := by kernel_rfl

set_option maxRecDepth 100000 in
theorem lifted (os : Os) (started : os.Started) (H : Type) (enc : TypeId × Value → H) :
    ReturnsInHanded {} Try.checked os 9 .any (Rows.fnExactAlignOfSpec.pre6 enc Try.prog Try.f9 Rows.fnExactAlignOfRow.domain false) (Rows.fnExactAlignOfSpec.post enc Try.prog Try.f9 false true false false) := by
  refine returnsInHanded_of_change (C := Try.checked) own started (by kernel_rfl) Try.func9
    (ChangeSpec.witness6 (enc := enc) (C := Try.checked) false ⟨#[], #[.agg (.int .i64 0 :: .int .i64 0 :: .int .i64 0 :: .int .i64 0 :: .int .i64 0 :: .int .i64 0 :: .bool false :: .bool false :: .int .i64 0 :: .int .i64 0 :: .int .i64 0 :: .int .i64 0 :: .int .i64 0 :: .int .i64 0 :: .int .i64 0 :: .int .i64 0 :: .int .i64 0 :: .int .i64 0 :: .int .i64 0 :: .int .i64 0 :: .int .i64 0 :: .int .i64 0 :: .int .i64 0 :: .int .i64 0 :: .int .i64 0 :: .int .i64 0 :: .int .i64 0 :: .int .i64 0 :: .int .i64 0 :: .int .i64 0 :: .int .i64 0 :: .int .i64 0 :: .int .i64 0 :: .int .i64 0 :: .int .i64 0 :: .int .i64 0 :: .int .i64 0 :: .int .i64 0 :: .int .i64 0 :: .int .i64 0 :: .int .i64 0 :: .int .i64 0 :: .int .i64 0 :: .int .i64 0 :: .int .i64 0 :: .int .i64 0 :: .int .i64 0 :: .int .i64 0 :: .int .i64 0 :: .int .i64 0 :: .int .i64 0 :: .int .i64 0 :: .int .i64 0 :: .int .i64 0 :: .int .i64 0 :: .int .i64 0 :: .int .i64 0 :: .int .i64 0 :: .int .i64 0 :: .int .i64 0 :: []).toArray, .agg (.int .i64 0 :: .int .i64 0 :: .int .i64 0 :: .int .i64 0 :: .int .i64 0 :: .int .i64 0 :: .bool false :: .bool false :: .int .i64 0 :: .int .i64 0 :: .int .i64 0 :: .int .i64 0 :: .int .i64 0 :: .int .i64 0 :: .int .i64 0 :: .int .i64 0 :: .int .i64 0 :: .int .i64 0 :: .int .i64 0 :: .int .i64 0 :: .int .i64 0 :: .int .i64 0 :: .int .i64 0 :: .int .i64 0 :: .int .i64 0 :: .int .i64 0 :: .int .i64 0 :: .int .i64 0 :: .int .i64 0 :: .int .i64 0 :: .int .i64 0 :: .int .i64 0 :: .int .i64 0 :: .int .i64 0 :: .int .i64 0 :: .int .i64 0 :: .int .i64 0 :: .int .i64 0 :: .int .i64 0 :: .int .i64 0 :: .int .i64 0 :: .int .i64 0 :: .int .i64 0 :: .int .i64 0 :: .int .i64 0 :: .int .i64 0 :: .int .i64 0 :: .int .i64 0 :: .int .i64 0 :: .int .i64 0 :: .int .i64 0 :: .int .i64 0 :: .int .i64 0 :: .int .i64 0 :: .int .i64 0 :: .int .i64 0 :: .int .i64 0 :: .int .i64 0 :: .int .i64 0 :: .int .i64 0 :: []).toArray], []⟩ 8 (by kernel_rfl) (by kernel_rfl) (by kernel_rfl) (by kernel_rfl)) ?_
  intro W base args ds gs before hval0 hW hcnd _
  have hval : ∀ (j : Nat) t v, Try.f9.params[j]? = some t → args[j]? = some v → Value.okWide Try.prog W .any base t v := hval0
  have hW' := hW
  obtain ⟨p, q, hA0, hV, rfl, hfz, hnd⟩ := hW
  have hA : DataW.TrodAll enc Try.prog W 0 (fun _ => true) true Try.f9.params.toList args.toList ds p := hA0
  rw [Try.params9] at hA hval
  obtain ⟨v0, vs0, d0, ds0, p0, q0, hargs, rfl, rfl, h0, r0⟩ := trodAll_cons hA
  obtain ⟨v1, vs1, d1, ds1, p1, q1, rfl, rfl, rfl, h1, r1⟩ := trodAll_cons r0
  obtain ⟨rfl, rfl, rfl⟩ := trodAll_nil r1
  obtain rfl : args = #[v0, v1] := by cases args; simp_all
  obtain ⟨rfl, rfl⟩ := trodVars_none hV
  have k0 := h0
  have lt0 : ∀ x ∈ p0, x.block < W.heap.size := by obtain ⟨m, hm⟩ := k0; exact DataW.trod_lt m _ _ _ hm
  obtain ⟨a0, rfl, ra0, ba0⟩ := open_laws_sty (hval 0 49 v0 rfl rfl)
  have k1 := h1
  have lt1 : ∀ x ∈ p1, x.block < W.heap.size := by obtain ⟨m, hm⟩ := k1; exact DataW.trod_lt m _ _ _ hm
  obtain ⟨a1, rfl, ra1, ba1⟩ := open_laws_sty (hval 1 49 v1 rfl rfl)
  clear hA0 hval0
  refine (walk a0 ra0 ba0 a1 ra1 ba1 W).mono fun e W' ⟨he, bel⟩ => ?_
  subst he
  exact ⟨_, rfl, law_post (pa := _) (pv := []) hW' (trodAll_cons_mk (shut_bool Try.underlying4 _) trodAll_mk0) (trodAll_cons_mk (Below.trod laidOut (by kernel_rfl) (of_decide_eq_true (by kernel_rfl)) k0 bel lt0) (trodAll_cons_mk (Below.trod laidOut (by kernel_rfl) (of_decide_eq_true (by kernel_rfl)) k1 bel lt1) trodAll_mk0)) rfl rfl bel⟩

/-- The given statement. -/
theorem proved : Rows.FnExactAlignOfSaid :=
  OpenClaim.holds_of_wide 9 Try.f9 rfl rfl rfl rfl rfl rfl rfl ⟨rfl, rfl, rfl, rfl, rfl⟩ rfl rfl rfl rfl rfl (by kernel_rfl) Try.func9 (by kernel_rfl)
    (of_decide_eq_true (by kernel_rfl)) (by unfold Func.isWrapper; first | (rw [if_pos (by decide +kernel)]; kernel_rfl) | (rw [if_neg (by decide +kernel)]; exact ⟨rfl, rfl⟩))
    (fun os started H enc _ => lifted os started H enc)
#print axioms proved
end Go.Proofs.Ythnfgdflnlafiaa.fnExactAlignOf

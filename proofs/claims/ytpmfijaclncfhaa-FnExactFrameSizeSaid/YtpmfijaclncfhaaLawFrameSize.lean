/-
  For every input, laws.FnExactFrameSize returns true: the program answers as the document's model; the arguments read as before. Conditions: none.
-/
import Derived.Test.YtpmfijaclncfhaaBdM
import Derived.Test.YtpmfijaclncfhaaToS
import Derived.Test.YtpmfijaclncfhaaStyW
import Derived.Below
namespace Go.Proofs.Ytpmfijaclncfhaa.fnExactFrameSize
open Go.ChangeShapes Go.WideShapes Go.ChangeAt Go.RowKit
set_option linter.unusedVariables false
set_option linter.unusedSimpArgs false

set_option maxHeartbeats 1000000 in
theorem walk (a0 : Nat → Int) (ra0 : InR a0) (ba0 : ∀ i, i = 6 ∨ i = 7 → a0 i = 0 ∨ a0 i = 1) (a1 : Bool) (w : World) :
    Calls Try.prog 11 #[.agg (sCells a0), .bool a1] w fun e w' => e = .returned (.bool true) ∧ Below w.heap.size w w' := by
  have h0 := hp_new w (.cells (sCells a0) 50)
  have bb : Below w.heap.size w (w.alloc (.cells (sCells a0) 50)) := Go.Joins.below_alloc1 ..
  obtain ⟨u, eu⟩ : ∃ u, u = w.alloc (.cells (sCells a0) 50) := ⟨_, rfl⟩
  rw [← eu] at h0 bb
  have EU := Lib.hid eu
  clear eu
  go_enter Try.func11, Try.ntmps11
  (try dsimp only)
  go_wp2_with (first | (rw [← EU.out]) | ((with_reducible apply list_load_lsty); exact rfl; exact rfl; exact rfl; (with_reducible exact h0); simp only [World.size_alloc, Act.put, List.setIfInBounds_toArray, List.set_cons_succ, List.set_cons_zero]))
  refine (toSty a0 _).mono ?_
  rintro e w1 ⟨rfl, b1⟩
  replace h0 := hp_below h0 b1
  replace bb := bb.trans (b1.mono bb.size)
  clear b1
  (try dsimp only)
  go_wp2_with (fail)
  refine (sfsize a0 a1 _).mono ?_
  rintro e w2 ⟨rfl, b2⟩
  replace h0 := hp_below h0 b2
  replace bb := bb.trans (b2.mono bb.size)
  clear b2
  (try dsimp only)
  go_wp2_with ((with_reducible apply list_load_lsty); exact rfl; exact rfl; exact rfl; (with_reducible exact h0); simp only [World.size_alloc, Act.put, List.setIfInBounds_toArray, List.set_cons_succ, List.set_cons_zero])
  refine (toSty a0 _).mono ?_
  rintro e w3 ⟨rfl, b3⟩
  replace h0 := hp_below h0 b3
  replace bb := bb.trans (b3.mono bb.size)
  clear b3
  (try dsimp only)
  go_wp2_with (fail)
  refine (ifsize a0 a1 _).mono ?_
  rintro e w4 ⟨rfl, b4⟩
  replace h0 := hp_below h0 b4
  replace bb := bb.trans (b4.mono bb.size)
  clear b4
  generalize frI a0 a1 = r0 at *
  (try dsimp only)
  go_wp2
  go_ret
  exact ⟨rfl, bb⟩

theorem laidOut : laidOutB Try.prog = true := by kernel_rfl

set_option maxRecDepth 100000 in
theorem lifted (os : Os) (started : os.Started) (H : Type) (enc : TypeId × Value → H) :
    ReturnsInHanded {} Try.checked os 11 .any (Rows.fnExactFrameSizeSpec.pre6 enc Try.prog Try.f11 Rows.fnExactFrameSizeRow.domain false) (Rows.fnExactFrameSizeSpec.post enc Try.prog Try.f11 false true false false) := by
  refine returnsInHanded_of_change (C := Try.checked) own started (by kernel_rfl) Try.func11
    (ChangeSpec.witness6 (enc := enc) (C := Try.checked) false ⟨#[], #[.agg (.int .i64 0 :: .int .i64 0 :: .int .i64 0 :: .int .i64 0 :: .int .i64 0 :: .int .i64 0 :: .bool false :: .bool false :: .int .i64 0 :: .int .i64 0 :: .int .i64 0 :: .int .i64 0 :: .int .i64 0 :: .int .i64 0 :: .int .i64 0 :: .int .i64 0 :: .int .i64 0 :: .int .i64 0 :: .int .i64 0 :: .int .i64 0 :: .int .i64 0 :: .int .i64 0 :: .int .i64 0 :: .int .i64 0 :: .int .i64 0 :: .int .i64 0 :: .int .i64 0 :: .int .i64 0 :: .int .i64 0 :: .int .i64 0 :: .int .i64 0 :: .int .i64 0 :: .int .i64 0 :: .int .i64 0 :: .int .i64 0 :: .int .i64 0 :: .int .i64 0 :: .int .i64 0 :: .int .i64 0 :: .int .i64 0 :: .int .i64 0 :: .int .i64 0 :: .int .i64 0 :: .int .i64 0 :: .int .i64 0 :: .int .i64 0 :: .int .i64 0 :: .int .i64 0 :: .int .i64 0 :: .int .i64 0 :: .int .i64 0 :: .int .i64 0 :: .int .i64 0 :: .int .i64 0 :: .int .i64 0 :: .int .i64 0 :: .int .i64 0 :: .int .i64 0 :: .int .i64 0 :: .int .i64 0 :: []).toArray, .bool false], []⟩ 8 (by kernel_rfl) (by kernel_rfl) (by kernel_rfl) (by kernel_rfl)) ?_
  intro W base args ds gs before hval0 hW hcnd _
  have hval : ∀ (j : Nat) t v, Try.f11.params[j]? = some t → args[j]? = some v → Value.okWide Try.prog W .any base t v := hval0
  have hW' := hW
  obtain ⟨p, q, hA0, hV, rfl, hfz, hnd⟩ := hW
  have hA : DataW.TrodAll enc Try.prog W 0 (fun _ => true) true Try.f11.params.toList args.toList ds p := hA0
  rw [Try.params11] at hA hval
  obtain ⟨v0, vs0, d0, ds0, p0, q0, hargs, rfl, rfl, h0, r0⟩ := trodAll_cons hA
  obtain ⟨v1, vs1, d1, ds1, p1, q1, rfl, rfl, rfl, h1, r1⟩ := trodAll_cons r0
  obtain ⟨rfl, rfl, rfl⟩ := trodAll_nil r1
  obtain rfl : args = #[v0, v1] := by cases args; simp_all
  obtain ⟨rfl, rfl⟩ := trodVars_none hV
  have k0 := h0
  have lt0 : ∀ x ∈ p0, x.block < W.heap.size := by obtain ⟨m, hm⟩ := k0; exact DataW.trod_lt m _ _ _ hm
  obtain ⟨a0, rfl, ra0, ba0⟩ := open_laws_sty (hval 0 50 v0 rfl rfl)
  have k1 := h1
  have lt1 : ∀ x ∈ p1, x.block < W.heap.size := by obtain ⟨m, hm⟩ := k1; exact DataW.trod_lt m _ _ _ hm
  obtain ⟨a1, rfl, rfl, rfl⟩ := open_bool Try.underlying4 (hval 1 4 v1 rfl rfl) h1
  clear hA0 hval0
  refine (walk a0 ra0 ba0 a1 W).mono fun e W' ⟨he, bel⟩ => ?_
  subst he
  exact ⟨_, rfl, law_post (pa := _) (pv := []) hW' (trodAll_cons_mk (shut_bool Try.underlying4 _) trodAll_mk0) (trodAll_cons_mk (Below.trod laidOut (by kernel_rfl) (of_decide_eq_true (by kernel_rfl)) k0 bel lt0) (trodAll_cons_mk (Below.trod laidOut (by kernel_rfl) (of_decide_eq_true (by kernel_rfl)) k1 bel lt1) trodAll_mk0)) rfl rfl bel⟩

/-- The given statement. -/
theorem proved : Rows.FnExactFrameSizeSaid :=
  OpenClaim.holds_of_wide 11 Try.f11 rfl rfl rfl rfl rfl rfl rfl ⟨rfl, rfl, rfl, rfl, rfl⟩ rfl rfl rfl rfl rfl (by kernel_rfl) Try.func11 (by kernel_rfl)
    (of_decide_eq_true (by kernel_rfl)) (by unfold Func.isWrapper; first | (rw [if_pos (by decide +kernel)]; kernel_rfl) | (rw [if_neg (by decide +kernel)]; exact ⟨rfl, rfl⟩))
    (fun os started H enc _ => lifted os started H enc)
#print axioms proved
end Go.Proofs.Ytpmfijaclncfhaa.fnExactFrameSize

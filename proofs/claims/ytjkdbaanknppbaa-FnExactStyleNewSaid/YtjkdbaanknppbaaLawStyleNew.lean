/-
  For every input, laws.FnExactStyleNew returns true: the program answers as the document's model; the arguments read as before. Conditions: none.
-/
import Derived.Test.YtjkdbaanknppbaaSLess
import Derived.Test.YtjkdbaanknppbaaToS
import Derived.Test.YtjkdbaanknppbaaStyW
import Derived.Test.YtjkdbaanknppbaaEqS
import Derived.Below
namespace Go.Proofs.Ytjkdbaanknppbaa.fnExactStyleNew
open Go.ChangeShapes Go.WideShapes Go.ChangeAt Go.RowKit
set_option linter.unusedVariables false
set_option linter.unusedSimpArgs false

set_option maxHeartbeats 1000000 in
theorem walk  (w : World) :
    Calls Try.prog 4 #[] w fun e w' => e = .returned (.bool true) ∧ Below w.heap.size w w' := by
  have bb := Below.refl w.heap.size w
  go_enter Try.func4, Try.ntmps4
  (try dsimp only)
  go_wp2_with (fail)
  refine (snew _).mono ?_
  rintro e w1 ⟨rfl, b1⟩
  replace bb := bb.trans (b1.mono bb.size)
  clear b1
  (try dsimp only)
  go_wp2_with ((with_reducible apply list_new_sty (f := newF)); exact rfl; exact rfl; exact rfl; exact rfl; exact rfl; exact rfl; exact rfl; intro v1 bv1 hv1; simp only [World.size_alloc, Act.put, List.setIfInBounds_toArray, List.set_cons_succ, List.set_cons_zero])
  replace bb := bb.trans (bv1.mono bb.size)
  refine (inew _).mono ?_
  rintro e w2 ⟨rfl, b2⟩
  replace hv1 := hp_below hv1 b2
  replace bb := bb.trans (b2.mono bb.size)
  clear b2
  (try dsimp only)
  go_wp2_with (first | ((with_reducible apply list_new_sty (f := newF)); exact rfl; exact rfl; exact rfl; exact rfl; exact rfl; exact rfl; exact rfl; intro v2 bv2 hv2; have hs1 := hp_below hv1 bv2; simp only [World.size_alloc, Act.put, List.setIfInBounds_toArray, List.set_cons_succ, List.set_cons_zero]) | ((with_reducible apply list_load_sty); exact rfl; exact rfl; exact rfl; (with_reducible exact hv2); simp only [World.size_alloc, Act.put, List.setIfInBounds_toArray, List.set_cons_succ, List.set_cons_zero]) | ((with_reducible apply list_load_sty); exact rfl; exact rfl; exact rfl; (with_reducible exact hs1); simp only [World.size_alloc, Act.put, List.setIfInBounds_toArray, List.set_cons_succ, List.set_cons_zero]))
  replace bb := bb.trans (bv2.mono bb.size)
  refine (eqSty (newF) _).mono ?_
  rintro e w3 ⟨rfl, b3⟩
  replace bb := bb.trans (b3.mono bb.size)
  clear b3
  (try dsimp only)
  go_wp2
  go_ret
  exact ⟨rfl, bb⟩

theorem laidOut : laidOutB Try.prog = true := by kernel_rfl

set_option maxRecDepth 100000 in
theorem lifted (os : Os) (started : os.Started) (H : Type) (enc : TypeId × Value → H) :
    ReturnsInHanded {} Try.checked os 4 .any (Rows.fnExactStyleNewSpec.pre6 enc Try.prog Try.f4 Rows.fnExactStyleNewRow.domain false) (Rows.fnExactStyleNewSpec.post enc Try.prog Try.f4 false true false false) := by
  refine returnsInHanded_of_change (C := Try.checked) own started (by kernel_rfl) Try.func4
    (ChangeSpec.witness6 (enc := enc) (C := Try.checked) false ⟨#[], #[], []⟩ 8 (by kernel_rfl) (by kernel_rfl) (by kernel_rfl) (by kernel_rfl)) ?_
  intro W base args ds gs before hval0 hW hcnd _
  have hval : ∀ (j : Nat) t v, Try.f4.params[j]? = some t → args[j]? = some v → Value.okWide Try.prog W .any base t v := hval0
  have hW' := hW
  obtain ⟨p, q, hA0, hV, rfl, hfz, hnd⟩ := hW
  have hA : DataW.TrodAll enc Try.prog W 0 (fun _ => true) true Try.f4.params.toList args.toList ds p := hA0
  rw [Try.params4] at hA hval
  obtain ⟨hargs0, rfl, rfl⟩ := trodAll_nil hA
  obtain rfl : args = #[] := by cases args; simp_all
  obtain ⟨rfl, rfl⟩ := trodVars_none hV
  clear hA0 hval0
  refine (walk  W).mono fun e W' ⟨he, bel⟩ => ?_
  subst he
  exact ⟨_, rfl, law_post (pa := _) (pv := []) hW' (trodAll_cons_mk (shut_bool Try.underlying4 _) trodAll_mk0) trodAll_mk0 rfl rfl bel⟩

/-- The given statement. -/
theorem proved : Rows.FnExactStyleNewSaid :=
  OpenClaim.holds_of_wide 4 Try.f4 rfl rfl rfl rfl rfl rfl rfl ⟨rfl, rfl, rfl, rfl, rfl⟩ rfl rfl rfl rfl rfl (by kernel_rfl) Try.func4 (by kernel_rfl)
    (of_decide_eq_true (by kernel_rfl)) (by unfold Func.isWrapper; first | (rw [if_pos (by decide +kernel)]; kernel_rfl) | (rw [if_neg (by decide +kernel)]; exact ⟨rfl, rfl⟩))
    (fun os started H enc _ => lifted os started H enc)
#print axioms proved
end Go.Proofs.Ytjkdbaanknppbaa.fnExactStyleNew

/-
  For every input, laws.FnExactLoosened returns true: the program answers as the document's model; the arguments read as before. Conditions: none.
-/
import Derived.Test.YtbgiggngolpljaaSpC
import Derived.Below
namespace Go.Proofs.Ytbgiggngolpljaa.fnExactLoosened
open Go.ChangeShapes Go.WideShapes Go.ChangeAt Go.RowKit
set_option linter.unusedVariables false

set_option maxHeartbeats 1000000 in
theorem walk (a0_0 : Int) (ua0_0 : -9223372036854775808 ≤ a0_0) (va0_0 : a0_0 ≤ 9223372036854775807) (a0_1 : Int) (ua0_1 : -9223372036854775808 ≤ a0_1) (va0_1 : a0_1 ≤ 9223372036854775807) (w : World) :
    Calls Try.prog 6 #[.agg #[.int .i64 a0_0, .int .i64 a0_1]] w fun e w' => e = .returned (.bool true) ∧ Below w.heap.size w w' := by
  have h0 := (hp_new w (.cells #[.int .i64 a0_0, .int .i64 a0_1] 23))
  have bb : Below w.heap.size w (w.alloc (.cells #[.int .i64 a0_0, .int .i64 a0_1] 23)) := Go.Joins.below_alloc1 ..
  have hsp := slo a0_0 a0_1
  have him := ilo a0_0 a0_1
  generalize loI a0_0 = r0 at *
  go_enter Try.func6, Try.ntmps6
  go_wp2_with (fail)
  refine (toSpa a0_0 a0_1 _).mono ?_
  rintro e w1 ⟨rfl, b1⟩
  replace h0 := hp_below h0 b1
  replace bb := bb.trans (b1.mono bb.size)
  clear b1
  go_wp2_with (fail)
  refine (hsp _).mono ?_
  rintro e w2 ⟨rfl, b2⟩
  replace h0 := hp_below h0 b2
  replace bb := bb.trans (b2.mono bb.size)
  clear b2
  have c0_0 := Go.Joins.cell_of_block h0 0
  have c0_1 := Go.Joins.cell_of_block h0 1
  simp at c0_0 c0_1
  have hlt := hp_lt h0
  have hne : w.heap.size ≠ w2.heap.size := by omega
  have hne2 := hne.symm
  go_wp2_with (fail)
  clear c0_0 c0_1
  clear hlt hne hne2
  have hs := hp_new w2 (.cells #[.int .i64 r0, .int .i64 a0_1] 25)
  replace h0 := hp_on h0 (.cells #[.int .i64 r0, .int .i64 a0_1] 25)
  replace bb := bb.alloc bb.size (.cells #[.int .i64 r0, .int .i64 a0_1] 25)
  generalize w2.alloc (.cells #[.int .i64 r0, .int .i64 a0_1] 25) = u1 at *
  generalize w2.heap.size = g at *
  refine (toSpa a0_0 a0_1 _).mono ?_
  rintro e w3 ⟨rfl, b3⟩
  replace hs := hp_below hs b3
  replace h0 := hp_below h0 b3
  replace bb := bb.trans (b3.mono bb.size)
  clear b3
  go_wp2_with (fail)
  refine (him _).mono ?_
  rintro e w4 ⟨rfl, b4⟩
  replace hs := hp_below hs b4
  replace h0 := hp_below h0 b4
  replace bb := bb.trans (b4.mono bb.size)
  clear b4
  have s0 := Go.Joins.cell_of_block hs 0
  have s1 := Go.Joins.cell_of_block hs 1
  simp at s0 s1
  have hlt := hp_lt hs
  have hne : g ≠ w4.heap.size := by omega
  have hne2 := hne.symm
  go_wp2_with (fail)
  replace bb := bb.alloc bb.size (.cells #[.int .i64 r0, .int .i64 a0_1] 25)
  refine (eqSp r0 a0_1 r0 a0_1 _).mono ?_
  rintro e w9 ⟨rfl, b9⟩
  replace bb := bb.trans (b9.mono bb.size)
  simp only [beq_self_eq_true, Bool.and_self]
  go_wp2
  go_ret
  exact ⟨rfl, bb⟩

theorem laidOut : laidOutB Try.prog = true := by kernel_rfl

set_option maxRecDepth 100000 in
theorem lifted (os : Os) (started : os.Started) (H : Type) (enc : TypeId × Value → H) :
    ReturnsInHanded {} Try.checked os 6 .any (Rows.fnExactLoosenedSpec.pre6 enc Try.prog Try.f6 Rows.fnExactLoosenedRow.domain false) (Rows.fnExactLoosenedSpec.post enc Try.prog Try.f6 false true false false) := by
  refine returnsInHanded_of_change (C := Try.checked) own started (by kernel_rfl) Try.func6
    (ChangeSpec.witness6 (enc := enc) (C := Try.checked) false ⟨#[], #[.agg #[.int .i64 0, .int .i64 0]], []⟩ 8 (by kernel_rfl) (by kernel_rfl) (by kernel_rfl) (by kernel_rfl)) ?_
  intro W base args ds gs before hval0 hW hcnd _
  have hval : ∀ (j : Nat) t v, Try.f6.params[j]? = some t → args[j]? = some v → Value.okWide Try.prog W .any base t v := hval0
  have hW' := hW
  obtain ⟨p, q, hA0, hV, rfl, hfz, hnd⟩ := hW
  have hA : DataW.TrodAll enc Try.prog W 0 (fun _ => true) true Try.f6.params.toList args.toList ds p := hA0
  rw [Try.params6] at hA hval
  obtain ⟨v0, vs0, d0, ds0, p0, q0, hargs, rfl, rfl, h0, r0⟩ := trodAll_cons hA
  obtain ⟨rfl, rfl, rfl⟩ := trodAll_nil r0
  obtain rfl : args = #[v0] := by cases args; simp_all
  obtain ⟨rfl, rfl⟩ := trodVars_none hV
  have k0 := h0
  have lt0 : ∀ x ∈ p0, x.block < W.heap.size := by obtain ⟨m, hm⟩ := k0; exact DataW.trod_lt m _ _ _ hm
  obtain ⟨c00, c01, y00, y01, m0, rfl, rfl, rfl, hy00, hy01⟩ := Go.Joins.open_agg2 Try.underlying23 (by kernel_rfl) (by kernel_rfl) (hval 0 23 v0 rfl rfl) h0
  obtain ⟨a00, e00, rfl, w00⟩ := DataW.trod_int Try.underlying3 hy00
  have b00 := bounds_i64 w00
  obtain ⟨a01, e01, rfl, w01⟩ := DataW.trod_int Try.underlying3 hy01
  have b01 := bounds_i64 w01
  simp at e00 e01
  subst e00 e01
  clear hA0 hval0
  refine (walk a00 b00.1 b00.2 a01 b01.1 b01.2 W).mono fun e W' ⟨he, bel⟩ => ?_
  subst he
  exact ⟨_, rfl, law_post (pa := _) (pv := []) hW' (trodAll_cons_mk (shut_bool Try.underlying4 _) trodAll_mk0) (trodAll_cons_mk (Below.trod laidOut (by kernel_rfl) (of_decide_eq_true (by kernel_rfl)) k0 bel lt0) trodAll_mk0) rfl rfl bel⟩

/-- The given statement. -/
theorem proved : Rows.FnExactLoosenedSaid :=
  OpenClaim.holds_of_wide 6 Try.f6 rfl rfl rfl rfl rfl rfl rfl ⟨rfl, rfl, rfl, rfl, rfl⟩ rfl rfl rfl rfl rfl (by kernel_rfl) Try.func6 (by kernel_rfl)
    (of_decide_eq_true (by kernel_rfl)) (by unfold Func.isWrapper; first | (rw [if_pos (by decide +kernel)]; kernel_rfl) | (rw [if_neg (by decide +kernel)]; exact ⟨rfl, rfl⟩))
    (fun os started H enc _ => lifted os started H enc)
#print axioms proved
end Go.Proofs.Ytbgiggngolpljaa.fnExactLoosened

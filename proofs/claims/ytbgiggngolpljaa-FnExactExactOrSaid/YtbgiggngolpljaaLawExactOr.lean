/-
  For every input, laws.FnExactExactOr returns true: the program answers as the document's model; the arguments read as before. Conditions: none.
-/
import Derived.Test.YtbgiggngolpljaaSpC
import Derived.Below
namespace Go.Proofs.Ytbgiggngolpljaa.fnExactExactOr
open Go.ChangeShapes Go.WideShapes Go.ChangeAt Go.RowKit
set_option linter.unusedVariables false

set_option maxHeartbeats 1000000 in
theorem walk (a0 : Int) (u0 : -9223372036854775808 ≤ a0) (v0 : a0 ≤ 9223372036854775807) (a1_0 : Int) (ua1_0 : -9223372036854775808 ≤ a1_0) (va1_0 : a1_0 ≤ 9223372036854775807) (a1_1 : Int) (ua1_1 : -9223372036854775808 ≤ a1_1) (va1_1 : a1_1 ≤ 9223372036854775807) (w : World) :
    Calls Try.prog 7 #[.int .i64 a0, .agg #[.int .i64 a1_0, .int .i64 a1_1]] w fun e w' => e = .returned (.bool true) ∧ Below w.heap.size w w' := by
  have h1 := (hp_new w (.cells #[.int .i64 a1_0, .int .i64 a1_1] 23))
  have bb : Below w.heap.size w (w.alloc (.cells #[.int .i64 a1_0, .int .i64 a1_1] 23)) := Go.Joins.below_alloc1 ..
  have hsp := sex a0 a1_0 a1_1
  have him := iex a0 a1_0 a1_1
  generalize exK a0 a1_0 = r0 at *
  generalize exN a0 a1_1 = r1 at *
  go_enter Try.func7, Try.ntmps7
  go_wp2_with (fail)
  refine (toSpa a1_0 a1_1 _).mono ?_
  rintro e w1 ⟨rfl, b1⟩
  replace h1 := hp_below h1 b1
  replace bb := bb.trans (b1.mono bb.size)
  clear b1
  go_wp2_with (fail)
  refine (hsp _).mono ?_
  rintro e w2 ⟨rfl, b2⟩
  replace h1 := hp_below h1 b2
  replace bb := bb.trans (b2.mono bb.size)
  clear b2
  have c1_0 := Go.Joins.cell_of_block h1 0
  have c1_1 := Go.Joins.cell_of_block h1 1
  simp at c1_0 c1_1
  have hlt := hp_lt h1
  have hne : w.heap.size ≠ w2.heap.size := by omega
  have hne2 := hne.symm
  go_wp2_with (fail)
  clear c1_0 c1_1
  clear hlt hne hne2
  have hs := hp_new w2 (.cells #[.int .i64 r0, .int .i64 r1] 25)
  replace h1 := hp_on h1 (.cells #[.int .i64 r0, .int .i64 r1] 25)
  replace bb := bb.alloc bb.size (.cells #[.int .i64 r0, .int .i64 r1] 25)
  generalize w2.alloc (.cells #[.int .i64 r0, .int .i64 r1] 25) = u1 at *
  generalize w2.heap.size = g at *
  refine (toSpa a1_0 a1_1 _).mono ?_
  rintro e w3 ⟨rfl, b3⟩
  replace hs := hp_below hs b3
  replace h1 := hp_below h1 b3
  replace bb := bb.trans (b3.mono bb.size)
  clear b3
  go_wp2_with (fail)
  refine (him _).mono ?_
  rintro e w4 ⟨rfl, b4⟩
  replace hs := hp_below hs b4
  replace h1 := hp_below h1 b4
  replace bb := bb.trans (b4.mono bb.size)
  clear b4
  have s0 := Go.Joins.cell_of_block hs 0
  have s1 := Go.Joins.cell_of_block hs 1
  simp at s0 s1
  have hlt := hp_lt hs
  have hne : g ≠ w4.heap.size := by omega
  have hne2 := hne.symm
  go_wp2_with (fail)
  replace bb := bb.alloc bb.size (.cells #[.int .i64 r0, .int .i64 r1] 25)
  refine (eqSp r0 r1 r0 r1 _).mono ?_
  rintro e w9 ⟨rfl, b9⟩
  replace bb := bb.trans (b9.mono bb.size)
  simp only [beq_self_eq_true, Bool.and_self]
  go_wp2
  go_ret
  exact ⟨rfl, bb⟩

theorem laidOut : laidOutB Try.prog = true := by kernel_rfl

set_option maxRecDepth 100000 in
theorem lifted (os : Os) (started : os.Started) (H : Type) (enc : TypeId × Value → H) :
    ReturnsInHanded {} Try.checked os 7 .any (Rows.fnExactExactOrSpec.pre6 enc Try.prog Try.f7 Rows.fnExactExactOrRow.domain false) (Rows.fnExactExactOrSpec.post enc Try.prog Try.f7 false true false false) := by
  refine returnsInHanded_of_change (C := Try.checked) own started (by kernel_rfl) Try.func7
    (ChangeSpec.witness6 (enc := enc) (C := Try.checked) false ⟨#[], #[.int .i64 0, .agg #[.int .i64 0, .int .i64 0]], []⟩ 8 (by kernel_rfl) (by kernel_rfl) (by kernel_rfl) (by kernel_rfl)) ?_
  intro W base args ds gs before hval0 hW hcnd _
  have hval : ∀ (j : Nat) t v, Try.f7.params[j]? = some t → args[j]? = some v → Value.okWide Try.prog W .any base t v := hval0
  have hW' := hW
  obtain ⟨p, q, hA0, hV, rfl, hfz, hnd⟩ := hW
  have hA : DataW.TrodAll enc Try.prog W 0 (fun _ => true) true Try.f7.params.toList args.toList ds p := hA0
  rw [Try.params7] at hA hval
  obtain ⟨v0, vs0, d0, ds0, p0, q0, hargs, rfl, rfl, h0, r0⟩ := trodAll_cons hA
  obtain ⟨v1, vs1, d1, ds1, p1, q1, rfl, rfl, rfl, h1, r1⟩ := trodAll_cons r0
  obtain ⟨rfl, rfl, rfl⟩ := trodAll_nil r1
  obtain rfl : args = #[v0, v1] := by cases args; simp_all
  obtain ⟨rfl, rfl⟩ := trodVars_none hV
  have k0 := h0
  have lt0 : ∀ x ∈ p0, x.block < W.heap.size := by obtain ⟨m, hm⟩ := k0; exact DataW.trod_lt m _ _ _ hm
  obtain ⟨a0, rfl, rfl, rfl, w0⟩ := open_int Try.underlying3 (hval 0 3 v0 rfl rfl) h0
  have b0 := bounds_i64 w0
  have k1 := h1
  have lt1 : ∀ x ∈ p1, x.block < W.heap.size := by obtain ⟨m, hm⟩ := k1; exact DataW.trod_lt m _ _ _ hm
  obtain ⟨c10, c11, y10, y11, m1, rfl, rfl, rfl, hy10, hy11⟩ := Go.Joins.open_agg2 Try.underlying23 (by kernel_rfl) (by kernel_rfl) (hval 1 23 v1 rfl rfl) h1
  obtain ⟨a10, e10, rfl, w10⟩ := DataW.trod_int Try.underlying3 hy10
  have b10 := bounds_i64 w10
  obtain ⟨a11, e11, rfl, w11⟩ := DataW.trod_int Try.underlying3 hy11
  have b11 := bounds_i64 w11
  simp at e10 e11
  subst e10 e11
  clear hA0 hval0
  refine (walk a0 b0.1 b0.2 a10 b10.1 b10.2 a11 b11.1 b11.2 W).mono fun e W' ⟨he, bel⟩ => ?_
  subst he
  exact ⟨_, rfl, law_post (pa := _) (pv := []) hW' (trodAll_cons_mk (shut_bool Try.underlying4 _) trodAll_mk0) (trodAll_cons_mk (Below.trod laidOut (by kernel_rfl) (of_decide_eq_true (by kernel_rfl)) k0 bel lt0) (trodAll_cons_mk (Below.trod laidOut (by kernel_rfl) (of_decide_eq_true (by kernel_rfl)) k1 bel lt1) trodAll_mk0)) rfl rfl bel⟩

/-- The given statement. -/
theorem proved : Rows.FnExactExactOrSaid :=
  OpenClaim.holds_of_wide 7 Try.f7 rfl rfl rfl rfl rfl rfl rfl ⟨rfl, rfl, rfl, rfl, rfl⟩ rfl rfl rfl rfl rfl (by kernel_rfl) Try.func7 (by kernel_rfl)
    (of_decide_eq_true (by kernel_rfl)) (by unfold Func.isWrapper; first | (rw [if_pos (by decide +kernel)]; kernel_rfl) | (rw [if_neg (by decide +kernel)]; exact ⟨rfl, rfl⟩))
    (fun os started H enc _ => lifted os started H enc)
#print axioms proved
end Go.Proofs.Ytbgiggngolpljaa.fnExactExactOr

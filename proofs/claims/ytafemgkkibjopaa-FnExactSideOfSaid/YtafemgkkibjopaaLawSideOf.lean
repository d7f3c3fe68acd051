/-
  For every input, laws.FnExactSideOf returns true: the program answers as the document's model; the arguments read as before. Conditions: none.
-/
import Derived.Test.YtafemgkkibjopaaSdI
import Derived.Test.YtafemgkkibjopaaSdS
import Derived.Test.YtafemgkkibjopaaEqE
import Derived.Test.YtafemgkkibjopaaReg
import Derived.Below
namespace Go.Proofs.Ytafemgkkibjopaa.fnExactSideOf
open Go.ChangeShapes Go.WideShapes Go.ChangeAt Go.RowKit
set_option linter.unusedVariables false

set_option maxHeartbeats 1000000 in
theorem walk (a0_0 a0_1 a0_2 a0_3 a0_4 a0_5 a0_6 a0_7 a0_8 a0_9 a0_10 a0_11 : Int) (a1 : Int) (u1 : -9223372036854775808 ≤ a1) (v1 : a1 ≤ 9223372036854775807) (a2 : Bool) (w : World) :
    Calls Try.prog 6 #[.agg #[.int .i64 a0_0, .int .i64 a0_1, .int .i64 a0_2, .int .i64 a0_3, .int .i64 a0_4, .int .i64 a0_5, .int .i64 a0_6, .int .i64 a0_7, .int .i64 a0_8, .int .i64 a0_9, .int .i64 a0_10, .int .i64 a0_11], .int .i64 a1, .bool a2] w fun e w' => e = .returned (.bool true) ∧ Below w.heap.size w w' := by
  have h0 := (hp_new w (.cells #[.int .i64 a0_0, .int .i64 a0_1, .int .i64 a0_2, .int .i64 a0_3, .int .i64 a0_4, .int .i64 a0_5, .int .i64 a0_6, .int .i64 a0_7, .int .i64 a0_8, .int .i64 a0_9, .int .i64 a0_10, .int .i64 a0_11] 44))
  have bb : Below w.heap.size w (w.alloc (.cells #[.int .i64 a0_0, .int .i64 a0_1, .int .i64 a0_2, .int .i64 a0_3, .int .i64 a0_4, .int .i64 a0_5, .int .i64 a0_6, .int .i64 a0_7, .int .i64 a0_8, .int .i64 a0_9, .int .i64 a0_10, .int .i64 a0_11] 44)) := Go.Joins.below_alloc1 ..
  have hsp := ssideof a0_0 a0_1 a0_2 a0_3 a0_4 a0_5 a0_6 a0_7 a0_8 a0_9 a0_10 a0_11 a1 a2
  have him := isideof a0_0 a0_1 a0_2 a0_3 a0_4 a0_5 a0_6 a0_7 a0_8 a0_9 a0_10 a0_11 a1 a2
  generalize sdK a0_0 a0_2 a0_4 a0_6 a0_8 a0_10 a1 a2 = r0 at *
  generalize sdN a0_1 a0_3 a0_5 a0_7 a0_8 a0_9 a0_10 a0_11 a1 a2 = r1 at *
  go_enter Try.func6, Try.ntmps6
  go_wp2_with (fail)
  refine (toSid a0_0 a0_1 a0_2 a0_3 a0_4 a0_5 a0_6 a0_7 a0_8 a0_9 a0_10 a0_11 _).mono ?_
  rintro e w1 ⟨rfl, b1⟩
  replace h0 := hp_below h0 b1
  replace bb := bb.trans (b1.mono bb.size)
  clear b1
  go_wp2_with (fail)
  refine (hsp _).mono ?_
  rintro e w2 ⟨rfl, b2⟩
  replace h0 := hp_below h0 b2
  replace bb := bb.trans (b2.mono bb.size)
  clear b2
  have c0_0 := Go.Joins.cell_of_block h0 0
  have c0_1 := Go.Joins.cell_of_block h0 1
  have c0_2 := Go.Joins.cell_of_block h0 2
  have c0_3 := Go.Joins.cell_of_block h0 3
  have c0_4 := Go.Joins.cell_of_block h0 4
  have c0_5 := Go.Joins.cell_of_block h0 5
  have c0_6 := Go.Joins.cell_of_block h0 6
  have c0_7 := Go.Joins.cell_of_block h0 7
  have c0_8 := Go.Joins.cell_of_block h0 8
  have c0_9 := Go.Joins.cell_of_block h0 9
  have c0_10 := Go.Joins.cell_of_block h0 10
  have c0_11 := Go.Joins.cell_of_block h0 11
  simp at c0_0 c0_1 c0_2 c0_3 c0_4 c0_5 c0_6 c0_7 c0_8 c0_9 c0_10 c0_11
  have hlt := hp_lt h0
  have hne : w.heap.size ≠ w2.heap.size := by omega
  have hne2 := hne.symm
  go_wp2_with (fail)
  clear c0_0 c0_1 c0_2 c0_3 c0_4 c0_5 c0_6 c0_7 c0_8 c0_9 c0_10 c0_11
  clear hlt hne hne2
  have hs := hp_new w2 (.cells #[.int .i64 r0, .int .i64 r1] 25)
  replace h0 := hp_on h0 (.cells #[.int .i64 r0, .int .i64 r1] 25)
  replace bb := bb.alloc bb.size (.cells #[.int .i64 r0, .int .i64 r1] 25)
  generalize w2.alloc (.cells #[.int .i64 r0, .int .i64 r1] 25) = u1 at *
  generalize w2.heap.size = g at *
  refine (toSid a0_0 a0_1 a0_2 a0_3 a0_4 a0_5 a0_6 a0_7 a0_8 a0_9 a0_10 a0_11 _).mono ?_
  rintro e w3 ⟨rfl, b3⟩
  replace hs := hp_below hs b3
  replace h0 := hp_below h0 b3
  replace bb := bb.trans (b3.mono bb.size)
  clear b3
  go_wp2_with (fail)
  refine (him _).mono ?_
  rintro e w4 ⟨rfl, b4⟩
  replace hs := hp_below hs b4
  replace h0 := hp_below h0 b4
  replace bb := bb.trans (b4.mono bb.size)
  clear b4
  have s0 := Go.Joins.cell_of_block hs 0
  have s1 := Go.Joins.cell_of_block hs 1
  simp at s0 s1
  have hlt := hp_lt hs
  have hne : g ≠ w4.heap.size := by omega
  have hne2 := hne.symm
  go_wp2_with (fail)
  replace bb := bb.alloc bb.size (.cells #[.int .i64 r0, .int .i64 r1] 25)
  refine (eqV r0 r1 r0 r1 _).mono ?_
  rintro e w9 ⟨rfl, b9⟩
  replace bb := bb.trans (b9.mono bb.size)
  simp only [beq_self_eq_true, Bool.and_self]
  go_wp2
  go_ret
  exact ⟨rfl, bb⟩

theorem laidOut : laidOutB Try.prog = true := by kernel_rfl

set_option maxRecDepth 100000 in
theorem lifted (os : Os) (started : os.Started) (H : Type) (enc : TypeId × Value → H) :
    ReturnsInHanded {} Try.checked os 6 .any (Rows.fnExactSideOfSpec.pre6 enc Try.prog Try.f6 Rows.fnExactSideOfRow.domain false) (Rows.fnExactSideOfSpec.post enc Try.prog Try.f6 false true false false) := by
  refine returnsInHanded_of_change (C := Try.checked) own started (by kernel_rfl) Try.func6
    (ChangeSpec.witness6 (enc := enc) (C := Try.checked) false ⟨#[], #[.agg #[.int .i64 0, .int .i64 0, .int .i64 0, .int .i64 0, .int .i64 0, .int .i64 0, .int .i64 0, .int .i64 0, .int .i64 0, .int .i64 0, .int .i64 0, .int .i64 0], .int .i64 0, .bool false], []⟩ 8 (by kernel_rfl) (by kernel_rfl) (by kernel_rfl) (by kernel_rfl)) ?_
  intro W base args ds gs before hval0 hW hcnd _
  have hval : ∀ (j : Nat) t v, Try.f6.params[j]? = some t → args[j]? = some v → Value.okWide Try.prog W .any base t v := hval0
  have hW' := hW
  obtain ⟨p, q, hA0, hV, rfl, hfz, hnd⟩ := hW
  have hA : DataW.TrodAll enc Try.prog W 0 (fun _ => true) true Try.f6.params.toList args.toList ds p := hA0
  rw [Try.params6] at hA hval
  obtain ⟨v0, vs0, d0, ds0, p0, q0, hargs, rfl, rfl, h0, r0⟩ := trodAll_cons hA
  obtain ⟨v1, vs1, d1, ds1, p1, q1, rfl, rfl, rfl, h1, r1⟩ := trodAll_cons r0
  obtain ⟨v2, vs2, d2, ds2, p2, q2, rfl, rfl, rfl, h2, r2⟩ := trodAll_cons r1
  obtain ⟨rfl, rfl, rfl⟩ := trodAll_nil r2
  obtain rfl : args = #[v0, v1, v2] := by cases args; simp_all
  obtain ⟨rfl, rfl⟩ := trodVars_none hV
  have k0 := h0
  have lt0 : ∀ x ∈ p0, x.block < W.heap.size := by obtain ⟨m, hm⟩ := k0; exact DataW.trod_lt m _ _ _ hm
  obtain ⟨a0_0, a0_1, a0_2, a0_3, a0_4, a0_5, a0_6, a0_7, a0_8, a0_9, a0_10, a0_11, rfl⟩ := open12 Try.underlying44 Try.underlying3 (by kernel_rfl) (by kernel_rfl) (hval 0 44 v0 rfl rfl)
  have k1 := h1
  have lt1 : ∀ x ∈ p1, x.block < W.heap.size := by obtain ⟨m, hm⟩ := k1; exact DataW.trod_lt m _ _ _ hm
  obtain ⟨a1, rfl, rfl, rfl, w1⟩ := open_int Try.underlying3 (hval 1 3 v1 rfl rfl) h1
  have b1 := bounds_i64 w1
  have k2 := h2
  have lt2 : ∀ x ∈ p2, x.block < W.heap.size := by obtain ⟨m, hm⟩ := k2; exact DataW.trod_lt m _ _ _ hm
  obtain ⟨a2, rfl, rfl, rfl⟩ := open_bool Try.underlying4 (hval 2 4 v2 rfl rfl) h2
  clear hA0 hval0
  refine (walk a0_0 a0_1 a0_2 a0_3 a0_4 a0_5 a0_6 a0_7 a0_8 a0_9 a0_10 a0_11 a1 b1.1 b1.2 a2 W).mono fun e W' ⟨he, bel⟩ => ?_
  subst he
  exact ⟨_, rfl, law_post (pa := _) (pv := []) hW' (trodAll_cons_mk (shut_bool Try.underlying4 _) trodAll_mk0) (trodAll_cons_mk (Below.trod laidOut (by kernel_rfl) (of_decide_eq_true (by kernel_rfl)) k0 bel lt0) (trodAll_cons_mk (Below.trod laidOut (by kernel_rfl) (of_decide_eq_true (by kernel_rfl)) k1 bel lt1) (trodAll_cons_mk (Below.trod laidOut (by kernel_rfl) (of_decide_eq_true (by kernel_rfl)) k2 bel lt2) trodAll_mk0))) rfl rfl bel⟩

/-- The given statement. -/
theorem proved : Rows.FnExactSideOfSaid :=
  OpenClaim.holds_of_wide 6 Try.f6 rfl rfl rfl rfl rfl rfl rfl ⟨rfl, rfl, rfl, rfl, rfl⟩ rfl rfl rfl rfl rfl (by kernel_rfl) Try.func6 (by kernel_rfl)
    (of_decide_eq_true (by kernel_rfl)) (by unfold Func.isWrapper; first | (rw [if_pos (by decide +kernel)]; kernel_rfl) | (rw [if_neg (by decide +kernel)]; exact ⟨rfl, rfl⟩))
    (fun os started H enc _ => lifted os started H enc)
#print axioms proved
end Go.Proofs.Ytafemgkkibjopaa.fnExactSideOf

/-
  For every input, laws.FnExactEdgesIn returns true: the program answers as the document's model; the arguments read as before. Conditions: none.
-/
import Derived.Test.YtafemgkkibjopaaEdgI
import Derived.Test.YtafemgkkibjopaaEdgS
import Derived.Test.YtafemgkkibjopaaEqE
import Derived.Test.YtafemgkkibjopaaReg
import Derived.Below
namespace Go.Proofs.Ytafemgkkibjopaa.fnExactEdgesIn
open Go.ChangeShapes Go.WideShapes Go.ChangeAt Go.RowKit
set_option linter.unusedVariables false

set_option maxHeartbeats 1000000 in
theorem walk (a0_0 a0_1 a0_2 a0_3 : Int) (a1_0 a1_1 a1_2 a1_3 : Int) (w : World) :
    Calls Try.prog 9 #[.agg #[.int .i64 a0_0, .int .i64 a0_1, .int .i64 a0_2, .int .i64 a0_3], .agg #[.int .i64 a1_0, .int .i64 a1_1, .int .i64 a1_2, .int .i64 a1_3]] w fun e w' => e = .returned (.bool true) ∧ Below w.heap.size w w' := by
  have h0 := (hp_on (hp_new w (.cells #[.int .i64 a0_0, .int .i64 a0_1, .int .i64 a0_2, .int .i64 a0_3] 47)) (.cells #[.int .i64 a1_0, .int .i64 a1_1, .int .i64 a1_2, .int .i64 a1_3] 47))
  have h1 := (hp_new (w.alloc (.cells #[.int .i64 a0_0, .int .i64 a0_1, .int .i64 a0_2, .int .i64 a0_3] 47)) (.cells #[.int .i64 a1_0, .int .i64 a1_1, .int .i64 a1_2, .int .i64 a1_3] 47))
  have bb : Below w.heap.size w ((w.alloc (.cells #[.int .i64 a0_0, .int .i64 a0_1, .int .i64 a0_2, .int .i64 a0_3] 47)).alloc (.cells #[.int .i64 a1_0, .int .i64 a1_1, .int .i64 a1_2, .int .i64 a1_3] 47)) := Go.Joins.below_alloc2 ..
  simp only [World.size_alloc] at h0 h1
  go_enter Try.func9, Try.ntmps9
  go_wp2_with (fail)
  generalize ((w.alloc (.cells #[.int .i64 a0_0, .int .i64 a0_1, .int .i64 a0_2, .int .i64 a0_3] 47)).alloc (.cells #[.int .i64 a1_0, .int .i64 a1_1, .int .i64 a1_2, .int .i64 a1_3] 47)) = w2 at *
  refine region_new 6 5 (obj := .cells #[.int .i64 0, .int .i64 0, .int .i64 0, .int .i64 0] 36) (by kernel_rfl) (by kernel_rfl) rfl rfl rfl (by intro a w'; go_simp) ?_
  apply Exists.intro
  refine ⟨?p0, ?s0⟩
  case p0 =>
    intro W0 hW0
    have e0 := hp_below h0 hW0
    have q0_0 := fun d os => hp_cell e0 d os 0 _ rfl
    have q0_1 := fun d os => hp_cell e0 d os 1 _ rfl
    have q0_2 := fun d os => hp_cell e0 d os 2 _ rfl
    have q0_3 := fun d os => hp_cell e0 d os 3 _ rfl
    have e1 := hp_below h1 hW0
    have q1_0 := fun d os => hp_cell e1 d os 0 _ rfl
    have q1_1 := fun d os => hp_cell e1 d os 1 _ rfl
    have q1_2 := fun d os => hp_cell e1 d os 2 _ rfl
    have q1_3 := fun d os => hp_cell e1 d os 3 _ rfl
    simp [blank, nopOf]
    repeat (go_big_quiet_step (first
      | (go_at_call_of 32 a0_0; exact Calls.regrown_of (toEdg a0_0 a0_1 a0_2 a0_3 _))
      | (go_at_call_of 32 a1_0; exact Calls.regrown_of (toEdg a1_0 a1_1 a1_2 a1_3 _))
      | (go_at_call 30; exact Calls.regrown_of (sedgesin a0_0 a0_1 a0_2 a0_3 a1_0 a1_1 a1_2 a1_3 _))
      | fail))
    exact wpQuiet_nil rfl
  intro g0 w3_0 hg hb ho
  simp only [List.drop_succ_cons, List.drop_zero]
  have hwg : w.heap.size ≤ g0 := Nat.le_trans bb.size hg
  have hlt0 := hp_lt h0
  have hlt1 := hp_lt h1
  replace h0 := hp_below h0 hb
  replace h1 := hp_below h1 hb
  replace bb := bb.trans (hb.mono bb.size)
  clear hb
  have z0 := Go.Joins.cell_of_block ho 0
  have F0 := Go.Joins.unfrozen_of_block ho 0
  have z1 := Go.Joins.cell_of_block ho 1
  have F1 := Go.Joins.unfrozen_of_block ho 1
  have z2 := Go.Joins.cell_of_block ho 2
  have F2 := Go.Joins.unfrozen_of_block ho 2
  have z3 := Go.Joins.cell_of_block ho 3
  have F3 := Go.Joins.unfrozen_of_block ho 3
  simp at z0 z1 z2 z3
  have HO := Lib.hid ho
  clear ho
  go_wp2_with (fail)
  clear z0 F0 z1 F1 z2 F2 z3 F3
  have ho := (Go.Joins.block_setCell (Go.Joins.block_setCell (Go.Joins.block_setCell (Go.Joins.block_setCell HO.out (i := 0) (.int .i64 (smI a0_0 a1_0))) (i := 1) (.int .i64 (smI a0_1 a1_1))) (i := 2) (.int .i64 (smI a0_2 a1_2))) (i := 3) (.int .i64 (smI a0_3 a1_3)))
  replace bb := (bl_set (bl_set (bl_set (bl_set bb (g := g0) 0 hwg (.int .i64 (smI a0_0 a1_0))) (g := g0) 1 hwg (.int .i64 (smI a0_1 a1_1))) (g := g0) 2 hwg (.int .i64 (smI a0_2 a1_2))) (g := g0) 3 hwg (.int .i64 (smI a0_3 a1_3)))
  have hn0 : w.heap.size ≠ g0 := by omega
  replace h0 := (hp_set (hp_set (hp_set (hp_set h0 hn0 0 (.int .i64 (smI a0_0 a1_0))) hn0 1 (.int .i64 (smI a0_1 a1_1))) hn0 2 (.int .i64 (smI a0_2 a1_2))) hn0 3 (.int .i64 (smI a0_3 a1_3)))
  clear hn0 hlt0
  have hn1 : w.heap.size + 1 ≠ g0 := by omega
  replace h1 := (hp_set (hp_set (hp_set (hp_set h1 hn1 0 (.int .i64 (smI a0_0 a1_0))) hn1 1 (.int .i64 (smI a0_1 a1_1))) hn1 2 (.int .i64 (smI a0_2 a1_2))) hn1 3 (.int .i64 (smI a0_3 a1_3)))
  clear hn1 hlt1
  clear HO hg hwg
  generalize ((((w3_0.setCell ⟨g0, 0, none⟩ (.int .i64 (smI a0_0 a1_0))).setCell ⟨g0, 1, none⟩ (.int .i64 (smI a0_1 a1_1))).setCell ⟨g0, 2, none⟩ (.int .i64 (smI a0_2 a1_2))).setCell ⟨g0, 3, none⟩ (.int .i64 (smI a0_3 a1_3))) = w4_0 at *
  have hs : w4_0.heap[g0]? = some (.cells #[.int .i64 (smI a0_0 a1_0), .int .i64 (smI a0_1 a1_1), .int .i64 (smI a0_2 a1_2), .int .i64 (smI a0_3 a1_3)] 36) := ho
  clear ho
  refine region_new 6 5 (obj := .cells #[.int .i64 0, .int .i64 0, .int .i64 0, .int .i64 0] 36) (by kernel_rfl) (by kernel_rfl) rfl rfl rfl (by intro a w'; go_simp) ?_
  apply Exists.intro
  refine ⟨?p1, ?s1⟩
  case p1 =>
    intro W0 hW0
    have e0 := hp_below h0 hW0
    have q0_0 := fun d os => hp_cell e0 d os 0 _ rfl
    have q0_1 := fun d os => hp_cell e0 d os 1 _ rfl
    have q0_2 := fun d os => hp_cell e0 d os 2 _ rfl
    have q0_3 := fun d os => hp_cell e0 d os 3 _ rfl
    have e1 := hp_below h1 hW0
    have q1_0 := fun d os => hp_cell e1 d os 0 _ rfl
    have q1_1 := fun d os => hp_cell e1 d os 1 _ rfl
    have q1_2 := fun d os => hp_cell e1 d os 2 _ rfl
    have q1_3 := fun d os => hp_cell e1 d os 3 _ rfl
    simp [blank, nopOf]
    repeat (go_big_quiet_step (first
      | (go_at_call_of 32 a0_0; exact Calls.regrown_of (toEdg a0_0 a0_1 a0_2 a0_3 _))
      | (go_at_call_of 32 a1_0; exact Calls.regrown_of (toEdg a1_0 a1_1 a1_2 a1_3 _))
      | (go_at_call 29; exact Calls.regrown_of (iedgesin a0_0 a0_1 a0_2 a0_3 a1_0 a1_1 a1_2 a1_3 _))
      | fail))
    exact wpQuiet_nil rfl
  intro g1 w3_1 hg hb ho
  simp only [List.drop_succ_cons, List.drop_zero]
  have hwg : w.heap.size ≤ g1 := Nat.le_trans bb.size hg
  have hne : g0 ≠ g1 := fun e => by
    have := hp_lt hs
    omega
  replace hs := hp_below hs hb
  have hlt0 := hp_lt h0
  have hlt1 := hp_lt h1
  replace h0 := hp_below h0 hb
  replace h1 := hp_below h1 hb
  replace bb := bb.trans (hb.mono bb.size)
  clear hb
  have z0 := Go.Joins.cell_of_block ho 0
  have F0 := Go.Joins.unfrozen_of_block ho 0
  have z1 := Go.Joins.cell_of_block ho 1
  have F1 := Go.Joins.unfrozen_of_block ho 1
  have z2 := Go.Joins.cell_of_block ho 2
  have F2 := Go.Joins.unfrozen_of_block ho 2
  have z3 := Go.Joins.cell_of_block ho 3
  have F3 := Go.Joins.unfrozen_of_block ho 3
  simp at z0 z1 z2 z3
  have HO := Lib.hid ho
  clear ho
  have s0 := Go.Joins.cell_of_block hs 0
  have s1 := Go.Joins.cell_of_block hs 1
  have s2 := Go.Joins.cell_of_block hs 2
  have s3 := Go.Joins.cell_of_block hs 3
  simp at s0 s1 s2 s3
  have hne2 := hne.symm
  go_wp2_with (fail)
  replace bb := (bl_set (bl_set (bl_set (bl_set bb (g := g1) 0 hwg (.int .i64 (smI a0_0 a1_0))) (g := g1) 1 hwg (.int .i64 (smI a0_1 a1_1))) (g := g1) 2 hwg (.int .i64 (smI a0_2 a1_2))) (g := g1) 3 hwg (.int .i64 (smI a0_3 a1_3)))
  generalize smI a0_0 a1_0 = r0 at *
  generalize smI a0_1 a1_1 = r1 at *
  generalize smI a0_2 a1_2 = r2 at *
  generalize smI a0_3 a1_3 = r3 at *
  refine (eqE r0 r1 r2 r3 r0 r1 r2 r3 _).mono ?_
  rintro e w5 ⟨rfl, b5⟩
  replace bb := bb.trans (b5.mono bb.size)
  simp only [beq_self_eq_true, Bool.and_self]
  go_wp2
  go_ret
  exact ⟨rfl, bb⟩

theorem laidOut : laidOutB Try.prog = true := by kernel_rfl

set_option maxRecDepth 100000 in
theorem lifted (os : Os) (started : os.Started) (H : Type) (enc : TypeId × Value → H) :
    ReturnsInHanded {} Try.checked os 9 .any (Rows.fnExactEdgesInSpec.pre6 enc Try.prog Try.f9 Rows.fnExactEdgesInRow.domain false) (Rows.fnExactEdgesInSpec.post enc Try.prog Try.f9 false true false false) := by
  refine returnsInHanded_of_change (C := Try.checked) own started (by kernel_rfl) Try.func9
    (ChangeSpec.witness6 (enc := enc) (C := Try.checked) false ⟨#[], #[.agg #[.int .i64 0, .int .i64 0, .int .i64 0, .int .i64 0], .agg #[.int .i64 0, .int .i64 0, .int .i64 0, .int .i64 0]], []⟩ 8 (by kernel_rfl) (by kernel_rfl) (by kernel_rfl) (by kernel_rfl)) ?_
  intro W base args ds gs before hval0 hW hcnd _
  have hval : ∀ (j : Nat) t v, Try.f9.params[j]? = some t → args[j]? = some v → Value.okWide Try.prog W .any base t v := hval0
  have hW' := hW
  obtain ⟨p, q, hA0, hV, rfl, hfz, hnd⟩ := hW
  have hA : DataW.TrodAll enc Try.prog W 0 (fun _ => true) true Try.f9.params.toList args.toList ds p := hA0
  rw [Try.params9] at hA hval
  obtain ⟨v0, vs0, d0, ds0, p0, q0, hargs, rfl, rfl, h0, r0⟩ := trodAll_cons hA
  obtain ⟨v1, vs1, d1, ds1, p1, q1, rfl, rfl, rfl, h1, r1⟩ := trodAll_cons r0
  obtain ⟨rfl, rfl, rfl⟩ := trodAll_nil r1
  obtain rfl : args = #[v0, v1] := by cases args; simp_all
  obtain ⟨rfl, rfl⟩ := trodVars_none hV
  have k0 := h0
  have lt0 : ∀ x ∈ p0, x.block < W.heap.size := by obtain ⟨m, hm⟩ := k0; exact DataW.trod_lt m _ _ _ hm
  obtain ⟨a0_0, a0_1, a0_2, a0_3, rfl⟩ := open4 Try.underlying47 Try.underlying3 (by kernel_rfl) (by kernel_rfl) (hval 0 47 v0 rfl rfl)
  have k1 := h1
  have lt1 : ∀ x ∈ p1, x.block < W.heap.size := by obtain ⟨m, hm⟩ := k1; exact DataW.trod_lt m _ _ _ hm
  obtain ⟨a1_0, a1_1, a1_2, a1_3, rfl⟩ := open4 Try.underlying47 Try.underlying3 (by kernel_rfl) (by kernel_rfl) (hval 1 47 v1 rfl rfl)
  clear hA0 hval0
  refine (walk a0_0 a0_1 a0_2 a0_3 a1_0 a1_1 a1_2 a1_3 W).mono fun e W' ⟨he, bel⟩ => ?_
  subst he
  exact ⟨_, rfl, law_post (pa := _) (pv := []) hW' (trodAll_cons_mk (shut_bool Try.underlying4 _) trodAll_mk0) (trodAll_cons_mk (Below.trod laidOut (by kernel_rfl) (of_decide_eq_true (by kernel_rfl)) k0 bel lt0) (trodAll_cons_mk (Below.trod laidOut (by kernel_rfl) (of_decide_eq_true (by kernel_rfl)) k1 bel lt1) trodAll_mk0)) rfl rfl bel⟩

/-- The given statement. -/
theorem proved : Rows.FnExactEdgesInSaid :=
  OpenClaim.holds_of_wide 9 Try.f9 rfl rfl rfl rfl rfl rfl rfl ⟨rfl, rfl, rfl, rfl, rfl⟩ rfl rfl rfl rfl rfl (by kernel_rfl) Try.func9 (by kernel_rfl)
    (of_decide_eq_true (by kernel_rfl)) (by unfold Func.isWrapper; first | (rw [if_pos (by decide +kernel)]; kernel_rfl) | (rw [if_neg (by decide +kernel)]; exact ⟨rfl, rfl⟩))
    (fun os started H enc _ => lifted os started H enc)
#print axioms proved
end Go.Proofs.Ytafemgkkibjopaa.fnExactEdgesIn

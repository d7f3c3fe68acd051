/-
  For every code, laws.FnStyles returns true: a new style is valid and the model's, a drawn style is judged as the model judges it, its frame, its gaps and what is left of it without its place are the model's. Conditions: none.
-/
import Derived.Test.YtjkdbaanknppbaaCodeIn
import Derived.Test.YtjkdbaanknppbaaDrY
import Derived.Test.YtjkdbaanknppbaaOkS
import Derived.Test.YtjkdbaanknppbaaOkP
import Derived.Test.YtjkdbaanknppbaaFrmM
import Derived.Test.YtjkdbaanknppbaaGapM
import Derived.Test.YtjkdbaanknppbaaSameN
import Derived.Deep.RegionWith
import Derived.Below
namespace Go.Proofs.Ytjkdbaanknppbaa.fnStyles
open Go.ChangeShapes Go.WideShapes Go.ChangeAt Go.RowKit
set_option linter.unusedVariables false
set_option linter.unusedSimpArgs false

theorem eqe_same (a b c d : Int) (w : World) : (binOp .eql 29 (.agg #[.int .i64 a, .int .i64 b, .int .i64 c, .int .i64 d]) (.agg #[.int .i64 a, .int .i64 b, .int .i64 c, .int .i64 d])).run Try.prog w = .ok (.bool true) w := by
  rw [eq_edges]; simp
theorem in_sm (a b : Int) : inI (smI a b) = true := by
  rw [← in_cl, ← sm_len]
  simp [clI, brI]
  omega
theorem ed_sm (a b c d x y z u : Int) : edOk (smI a x) (smI b y) (smI c z) (smI d u) = true := by simp [edOk, in_sm]

set_option maxRecDepth 100000 in
set_option maxHeartbeats 4000000 in
theorem walk (a : Option Addr) (len cap : Nat) (w : World) (hl : len ≤ 1048576) (hc : Code w a len) :
    Calls Try.prog 3 #[.slice a len cap] w fun e w' => e = .returned (.bool true) ∧ Below w.heap.size w w' := by
  have HC := Lib.hid hc
  go_enter Try.func3, Try.ntmps3
  go_wp2_with (first | (go_at_call 11; refine (draw_styleok a len cap w hl hc).mono ?_; rintro e w1 ⟨f, rfl, b1⟩) | (go_at_call 10; go_in) | ((with_reducible apply list_new_sty (f := f)); exact rfl; exact rfl; exact rfl; exact rfl; exact rfl; exact rfl; exact rfl; intro v1 bv1 hv1; simp only [World.size_alloc, Act.put, List.setIfInBounds_toArray, List.set_cons_succ, List.set_cons_zero]))
  clear hc
  have B1 := b1.trans (bv1.mono b1.size)
  clear b1 bv1
  generalize w1.heap.size = gs at *
  refine (inew v1).mono ?_
  rintro e w2 ⟨rfl, b2⟩
  have hs2 := hp_below hv1 b2
  have B2 := B1.trans (b2.mono B1.size)
  clear b2 hv1 B1
  have hfr := iframe f
  have hfs := sframe f
  have heo := iedgesok (smI (f 50) (f 54)) (smI (f 51) (f 55)) (smI (f 52) (f 56)) (smI (f 53) (f 57))
  rw [ed_sm] at heo
  generalize smI (f 50) (f 54) = E0 at *
  generalize smI (f 51) (f 55) = E1 at *
  generalize smI (f 52) (f 56) = E2 at *
  generalize smI (f 53) (f 57) = E3 at *
  (try dsimp only)
  go_wp2_with (first | ((with_reducible apply list_new_sty (f := newF)); exact rfl; exact rfl; exact rfl; exact rfl; exact rfl; exact rfl; exact rfl; intro v2 bv2 hv2; have hs3 := hp_below hs2 bv2; simp only [World.size_alloc, Act.put, List.setIfInBounds_toArray, List.set_cons_succ, List.set_cons_zero]) | ((with_reducible apply list_load_sty); exact rfl; exact rfl; exact rfl; (with_reducible exact hs3); simp only [World.size_alloc, Act.put, List.setIfInBounds_toArray, List.set_cons_succ, List.set_cons_zero]))
  have B3 := B2.trans (bv2.mono B2.size)
  clear bv2 hs2 B2
  generalize w2.heap.size = gn at *
  refine (hfr _).mono ?_
  rintro e w4 ⟨rfl, b4⟩
  have hs4 := hp_below hs3 b4
  have hn4 := hp_below hv2 b4
  have B4 := B3.trans (b4.mono B3.size)
  clear b4 hs3 hv2 B3 hfr
  have HS5 := Lib.hid (hp_on hs4 (.cells #[.int .i64 E0, .int .i64 E1, .int .i64 E2, .int .i64 E3] 29))
  have HN5 := Lib.hid (hp_on hn4 (.cells #[.int .i64 E0, .int .i64 E1, .int .i64 E2, .int .i64 E3] 29))
  have HE5 := Lib.hid (hp_new w4 (.cells #[.int .i64 E0, .int .i64 E1, .int .i64 E2, .int .i64 E3] 29))
  have B5 := Lib.hid (B4.alloc B4.size (.cells #[.int .i64 E0, .int .i64 E1, .int .i64 E2, .int .i64 E3] 29))
  clear hs4 hn4 B4
  (try dsimp only)
  go_wp2_with ((with_reducible apply list_load_sty); exact rfl; exact rfl; exact rfl; (with_reducible exact HS5.out); simp only [World.size_alloc, Act.put, List.setIfInBounds_toArray, List.set_cons_succ, List.set_cons_zero])
  have hs5 := HS5.out
  have hn5 := HN5.out
  have he5 := HE5.out
  have B6 := B5.out
  clear HS5 HN5 HE5 B5
  generalize w4.alloc (.cells #[.int .i64 E0, .int .i64 E1, .int .i64 E2, .int .i64 E3] 29) = v5 at *
  generalize w4.heap.size = ge at *
  refine (iless f _).mono ?_
  rintro e w6 ⟨rfl, b6⟩
  have hs6 := hp_below hs5 b6
  have hn6 := hp_below hn5 b6
  have he6 := hp_below he5 b6
  have B7 := B6.trans (b6.mono B6.size)
  clear b6 hs5 hn5 he5 B6
  (try dsimp only)
  go_wp2_with ((with_reducible apply list_new_sty (f := lessF f)); exact rfl; exact rfl; exact rfl; exact rfl; exact rfl; exact rfl; exact rfl; intro v7 bv7 hv7; simp only [World.size_alloc, Act.put, List.setIfInBounds_toArray, List.set_cons_succ, List.set_cons_zero])
  have hs7 := hp_below hs6 bv7
  have hn7 := hp_below hn6 bv7
  have he7 := hp_below he6 bv7
  have B8 := B7.trans (bv7.mono B7.size)
  clear bv7 hs6 hn6 he6 B7
  generalize w6.heap.size = gl at *
  refine (draw_samestyle a len cap v7 hl (HC.out.below B8)).mono ?_
  rintro e w8 ⟨g, h, rfl, b8⟩
  have hs8 := hp_below hs7 b8
  have hn8 := hp_below hn7 b8
  have he8 := hp_below he7 b8
  have hl8 := hp_below hv7 b8
  have B9 := B8.trans (b8.mono B8.size)
  clear b8 hs7 hn7 he7 hv7 B8
  have bx := Go.Joins.below_alloc2 w8 (.cells (sCells fun _ => 0) 31) (.cells (sCells fun _ => 0) 31)
  have ha9 := hp_on (hp_new w8 (.cells (sCells fun _ => 0) 31)) (.cells (sCells fun _ => 0) 31)
  have hb9 := hp_new (w8.alloc (.cells (sCells fun _ => 0) 31)) (.cells (sCells fun _ => 0) 31)
  simp only [World.size_alloc] at ha9 hb9
  obtain ⟨u, eu⟩ : ∃ u, u = (w8.alloc (.cells (sCells fun _ => 0) 31)).alloc (.cells (sCells fun _ => 0) 31) := ⟨_, rfl⟩
  rw [← eu] at bx ha9 hb9
  have EU := Lib.hid eu
  clear eu
  have hbn := hp_row hb9 (show w8.heap.size + 1 ≠ w8.heap.size by omega) (sCells g)
  have by9 := below_setRow (below_setRow bx (g := w8.heap.size) (Nat.le_refl _) (sCells g)) (g := w8.heap.size + 1) (by omega) (sCells h)
  have hs9 := Lib.hid (hp_below hs8 by9)
  have hn9 := Lib.hid (hp_below hn8 by9)
  have he9 := Lib.hid (hp_below he8 by9)
  have hl9 := Lib.hid (hp_below hl8 by9)
  have HA := Lib.hid (hp_row (setRow_heap _ _ _ (sCells g) _ _ ha9) (show w8.heap.size ≠ w8.heap.size + 1 by omega) (sCells h))
  have HB := Lib.hid (setRow_heap _ _ _ (sCells h) _ _ hbn)
  have C9 := Lib.hid (B9.trans (by9.mono B9.size))
  have HA9 := Lib.hid ha9
  have HB9 := Lib.hid hbn
  clear bx ha9 hb9 hbn by9 hs8 hn8 he8 hl8 B9
  (try dsimp only)
  go_wp2_with (first | (rw [← EU.out]) | ((with_reducible apply list_alloc_sty); exact rfl; exact rfl; simp only [World.size_alloc, Act.put, List.setIfInBounds_toArray, List.set_cons_succ, List.set_cons_zero]) | ((with_reducible apply list_store_sty); exact rfl; exact rfl; exact rfl; exact rfl; (with_reducible exact HA9.out); simp only [World.size_alloc, Act.put, List.setIfInBounds_toArray, List.set_cons_succ, List.set_cons_zero]) | ((with_reducible apply list_store_sty); exact rfl; exact rfl; exact rfl; exact rfl; (with_reducible exact HB9.out); simp only [World.size_alloc, Act.put, List.setIfInBounds_toArray, List.set_cons_succ, List.set_cons_zero]))
  have hs := hs9.out
  have hn := hn9.out
  have he := he9.out
  have hm := hl9.out
  have ha := HA.out
  have hb := HB.out
  have B := C9.out
  clear hs9 hn9 he9 hl9 HA HB C9 HA9 HB9 EU HC
  generalize (u.setRow w8.heap.size (sCells g)).setRow (w8.heap.size + 1) (sCells h) = v at *
  generalize w8.heap.size + 1 = gb at *
  generalize w8.heap.size = ga at *
  have hok := istyok f
  have hsk := sstyok f
  generalize styOk f = r at *
  have hnk := istyok newF
  rw [show styOk newF = true by decide] at hnk
  have hls := sless f
  have hll := iless (lessF f)
  rw [less_less] at hll
  obtain ⟨q, hq⟩ := eqq_sty g h
  have him := isameF g h q hq
  have q1 := eqq_same newF
  have q2 := eqq_same (lessF f)
  have q3 := eqe_same E0 E1 E2 E3
  have q4 := guard_styF
  have q5 := guard_edges
  have l0 := fun d os => hp_cell he d os 0 _ rfl
  have l1 := fun d os => hp_cell he d os 1 _ rfl
  have l2 := fun d os => hp_cell he d os 2 _ rfl
  have l3 := fun d os => hp_cell he d os 3 _ rfl
  generalize lessF f = m at *
  refine wp_region_quiet_below (by kernel_rfl) (by kernel_rfl) ?_
  (try simp only [List.append_eq, List.cons_append, List.nil_append])
  repeat (first
    | (go_big_quiet_want; (with_reducible apply quiet_sty); exact rfl; exact rfl; (with_reducible exact hs); simp only [Act.put, List.setIfInBounds_toArray, List.set_cons_succ, List.set_cons_zero]; go_big_quiet_on)
    | (go_big_quiet_want; (with_reducible apply quiet_sty); exact rfl; exact rfl; (with_reducible exact hn); simp only [Act.put, List.setIfInBounds_toArray, List.set_cons_succ, List.set_cons_zero]; go_big_quiet_on)
    | (go_big_quiet_want; (with_reducible apply quiet_sty); exact rfl; exact rfl; (with_reducible exact hm); simp only [Act.put, List.setIfInBounds_toArray, List.set_cons_succ, List.set_cons_zero]; go_big_quiet_on)
    | (go_big_quiet_want; (with_reducible apply quiet_sty); exact rfl; exact rfl; (with_reducible exact ha); simp only [Act.put, List.setIfInBounds_toArray, List.set_cons_succ, List.set_cons_zero]; go_big_quiet_on)
    | (go_big_quiet_want; (with_reducible apply quiet_sty); exact rfl; exact rfl; (with_reducible exact hb); simp only [Act.put, List.setIfInBounds_toArray, List.set_cons_succ, List.set_cons_zero]; go_big_quiet_on)
    | go_big_quiet_step (first
      | (go_at_call_of 16 f; exact Calls.regrown_of (hok _))
      | (go_at_call 16; exact Calls.regrown_of (hnk _))
      | (go_at_call 17; exact Calls.regrown_of (hsk _))
      | (go_at_call 18; exact Calls.regrown_of (snew _))
      | (go_at_call 19; exact Calls.regrown_of (hfs _))
      | (go_at_call 20; exact Calls.regrown_of (heo _))
      | (go_at_call 21; exact Calls.regrown_of (hls _))
      | (go_at_call 14; exact Calls.regrown_of (hll _))
      | (go_at_call 22; exact Calls.regrown_of (igap f _ _))
      | (go_at_call 23; exact Calls.regrown_of (sgap f _ _))
      | (go_at_call 24; exact Calls.regrown_of (him _))
      | fail))
  refine wpQuiet_nil ?_
  intro _ hw'
  obtain ⟨⟨dq, osq⟩, hw''⟩ := hw'
  subst hw''
  go_wp2
  go_ret
  exact ⟨rfl, B.trans ((below_regrown v dq osq).mono B.size)⟩

set_option maxRecDepth 100000 in
theorem walk_big (a : Option Addr) (len cap : Nat) (w : World) (hl : 1048576 < len) (hm : len ≤ 9223372036854775807) :
    Calls Try.prog 3 #[.slice a len cap] w fun e w' => e = .returned (.bool true) ∧ Below w.heap.size w w' := by
  go_enter Try.func3, Try.ntmps3
  go_wp2
  go_ret
  exact ⟨rfl, Below.refl _ _⟩

theorem laidOut : laidOutB Try.prog = true := by kernel_rfl

theorem contract (H : Type) (enc : TypeId × Value → H) (W : World) (base : Nat) (args : Array Value) (ds gs : List (DataW H)) (before : List MemPlace)
    (hval : ∀ (j : Nat) t v, Try.f3.params[j]? = some t → args[j]? = some v → Value.okWide Try.prog W .any base t v)
    (hW : DataW.Whole enc Try.prog Try.f3.params.toList Rows.fnStylesSpec.vars false W args.toList ds gs before) :
    Calls Try.prog 3 args W fun e W' => ∃ v, e = .returned v ∧ Rows.fnStylesSpec.post enc Try.prog Try.f3 false true false false W args v W' := by
  have hW' := hW
  obtain ⟨p, q, hA0, hV, rfl, hfz, hnd⟩ := hW
  have hA : DataW.TrodAll enc Try.prog W 0 (fun _ => true) true Try.f3.params.toList args.toList ds p := hA0
  rw [Try.params3] at hA hval
  obtain ⟨v0, vs0, d0, ds0, p0, q0, hargs, rfl, rfl, h0, r0⟩ := trodAll_cons hA
  obtain ⟨rfl, rfl, rfl⟩ := trodAll_nil r0
  obtain rfl : args = #[v0] := by cases args; simp_all
  obtain ⟨rfl, rfl⟩ := trodVars_none hV
  obtain ⟨a, len, cap, rfl⟩ := okWide_slice Try.underlying22 (hval 0 22 v0 rfl rfl)
  have lt0 : ∀ x ∈ p0, x.block < W.heap.size := by obtain ⟨m, hm⟩ := h0; exact DataW.trod_lt m _ _ _ hm
  obtain ⟨hc, hm⟩ := code_of h0
  have all : Calls Try.prog 3 #[.slice a len cap] W fun e w' => e = .returned (.bool true) ∧ Below W.heap.size W w' := by
    by_cases hl : len ≤ 1048576
    · exact walk a len cap W hl hc
    · exact walk_big a len cap W (by omega) hm
  refine all.mono fun e W' ⟨he, bel⟩ => ?_
  subst he
  exact ⟨_, rfl, law_post (pa := _) (pv := []) hW' (trodAll_cons_mk (shut_bool Try.underlying4 _) trodAll_mk0) (trodAll_cons_mk (Below.trod laidOut (by kernel_rfl) (of_decide_eq_true (by kernel_rfl)) h0 bel lt0) trodAll_mk0) rfl rfl bel⟩


set_option maxRecDepth 100000 in
theorem lifted (os : Os) (started : os.Started) (H : Type) (enc : TypeId × Value → H) :
    ReturnsInHanded {} Try.checked os 3 .any (Rows.fnStylesSpec.pre6 enc Try.prog Try.f3 Rows.fnStylesRow.domain false) (Rows.fnStylesSpec.post enc Try.prog Try.f3 false true false false) := by
  refine returnsInHanded_of_change (C := Try.checked) own started (by kernel_rfl) Try.func3
    (ChangeSpec.witness6 (enc := enc) (C := Try.checked) false ⟨#[], #[.slice none 0 0], []⟩ 8 (by kernel_rfl) (by kernel_rfl) (by kernel_rfl) (by kernel_rfl)) ?_
  intro W base args ds gs before hval hW _ _
  exact contract H enc W base args ds gs before hval hW

/-- The given statement. -/
theorem proved : Rows.FnStylesSaid :=
  OpenClaim.holds_of_wide 3 Try.f3 rfl rfl rfl rfl rfl rfl rfl ⟨rfl, rfl, rfl, rfl, rfl⟩ rfl rfl rfl rfl rfl (by kernel_rfl) Try.func3 (by kernel_rfl)
    (of_decide_eq_true (by kernel_rfl)) (by unfold Func.isWrapper; first | (rw [if_pos (by decide +kernel)]; kernel_rfl) | (rw [if_neg (by decide +kernel)]; exact ⟨rfl, rfl⟩))
    (fun os started H enc _ => lifted os started H enc)
#print axioms proved
end Go.Proofs.Ytjkdbaanknppbaa.fnStyles

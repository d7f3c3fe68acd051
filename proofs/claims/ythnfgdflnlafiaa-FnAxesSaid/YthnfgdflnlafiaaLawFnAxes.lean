/-
  For every code, laws.FnAxes returns true: right to left turns the main axis of a row and not that of a column, an axis has two sides, mirroring twice gives the original position, and the axes and the alignment are the model's. Conditions: none.
-/
import Derived.Test.YthnfgdflnlafiaaCodeIn
import Derived.Test.YthnfgdflnlafiaaDrA
import Derived.Test.YthnfgdflnlafiaaAxS
import Derived.Test.YthnfgdflnlafiaaAlM
import Derived.Test.YthnfgdflnlafiaaMir
import Derived.Deep.RegionWith
import Derived.Below
namespace Go.Proofs.Ythnfgdflnlafiaa.fnAxes
open Go.ChangeShapes Go.WideShapes Go.ChangeAt Go.RowKit
set_option linter.unusedVariables false
set_option linter.unusedSimpArgs false

theorem mb_not (z : Int) (r : Bool) : mbI z (!r) = (mbI z r != rowI z) := by
  unfold mbI rowI
  by_cases h1 : z = 1
  · cases r <;> simp [h1]
  · by_cases h3 : z = 3
    · cases r <;> simp [h3]
    · simp [h1, h3]
theorem sd_ne (q m : Bool) : sdA q m ≠ sdB q m := by cases q <;> cases m <;> decide
theorem sd_swap (m : Bool) : sdA true (m != true) = sdB true m ∧ sdB true (m != true) = sdA true m := by cases m <;> decide
theorem mir_mir {i p s : Int} {t : Bool} (hi : 0 ≤ i ∧ i ≤ 4999) (hp : 0 ≤ p ∧ p ≤ 4999) (hs : 0 ≤ s ∧ s ≤ 499) : mirI i (mirI i p s t) s t = p := by
  cases t
  · rfl
  · simp only [mirI, if_true]
    have e1 : wrap64 (i - p) = i - p := IntWalk.wrap64_in _ (by omega)
    rw [e1]
    have e2 : wrap64 (i - p - s) = i - p - s := IntWalk.wrap64_in _ (by omega)
    rw [e2]
    have e3 : wrap64 (i - (i - p - s)) = i - (i - p - s) := IntWalk.wrap64_in _ (by omega)
    rw [e3]
    have e4 : wrap64 (i - (i - p - s) - s) = i - (i - p - s) - s := IntWalk.wrap64_in _ (by omega)
    rw [e4]
    omega

set_option maxRecDepth 100000 in
set_option maxHeartbeats 4000000 in
theorem walk (a : Option Addr) (len cap : Nat) (w : World) (hl : len ≤ 1048576) (hc : Code w a len) :
    Calls Try.prog 3 #[.slice a len cap] w fun e w' => e = .returned (.bool true) ∧ Below w.heap.size w w' := by
  have HC := Lib.hid hc
  go_enter Try.func3, Try.ntmps3
  go_wp2_with (first | (go_at_call 12; refine (draw_mainsides a len cap w hl hc).mono ?_; rintro e w1 ⟨f, r, rfl, b1⟩) | (go_at_call 11; go_in) | ((with_reducible apply list_new_sty (f := f)); exact rfl; exact rfl; exact rfl; exact rfl; exact rfl; exact rfl; exact rfl; intro v1 bv1 hv1; simp only [World.size_alloc, Act.put, List.setIfInBounds_toArray, List.set_cons_succ, List.set_cons_zero]) | ((with_reducible apply list_load_sty); exact rfl; exact rfl; exact rfl; (with_reducible exact hv1); simp only [World.size_alloc, Act.put, List.setIfInBounds_toArray, List.set_cons_succ, List.set_cons_zero]))
  clear hc
  have B0 := b1.trans (bv1.mono b1.size)
  clear b1 bv1
  generalize w1.heap.size = gs at *
  have k1 := imain f r
  have k2 := imain f (!r)
  have k3 := icross f r
  have k4 := scross f r
  have k5 := irow f
  have k6 := srow f
  have k7 := imback f r
  have k8 := smback f r
  have k9 := icback f r
  have k10 := scback f r
  rw [mb_not] at k2
  generalize rowI (f 0) = q at *
  generalize mbI (f 0) r = m at *
  generalize cbI (f 0) (f 1) r = c at *
  have hab := sd_ne q m
  have hxy := sd_ne (!q) c
  have hsw : (q = true → sdA q (m != q) = sdB q m ∧ sdB q (m != q) = sdA q m) ∧ (q = false → sdA q (m != q) = sdA q m ∧ sdB q (m != q) = sdB q m) := by
    refine ⟨fun h => ?_, fun h => ?_⟩ <;> subst h
    · exact sd_swap m
    · cases m <;> exact ⟨rfl, rfl⟩
  generalize sdA q (m != q) = p3 at *
  generalize sdB q (m != q) = p4 at *
  generalize sdA q m = p1 at *
  generalize sdB q m = p2 at *
  generalize sdA (!q) c = x1 at *
  generalize sdB (!q) c = x2 at *
  have K1 := Lib.hid k1
  have K2 := Lib.hid k2
  have K3 := Lib.hid k3
  have K4 := Lib.hid k4
  have K5 := Lib.hid k5
  have K6 := Lib.hid k6
  have K7 := Lib.hid k7
  have K8 := Lib.hid k8
  have K9 := Lib.hid k9
  have K10 := Lib.hid k10
  clear k1 k2 k3 k4 k5 k6 k7 k8 k9 k10
  have HS := Lib.hid hsw
  have HAB := Lib.hid hab
  have HXY := Lib.hid hxy
  clear hsw hab hxy
  have hs := hv1
  clear hv1
  refine (K1.out _).mono ?_
  rintro e w2 ⟨rfl, b2⟩
  replace hs := hp_below hs b2
  have B1 := B0.trans (b2.mono B0.size)
  clear b2 B0
  (try dsimp only)
  go_wp2_with ((with_reducible apply list_load_sty); exact rfl; exact rfl; exact rfl; (with_reducible exact hs); simp only [World.size_alloc, Act.put, List.setIfInBounds_toArray, List.set_cons_succ, List.set_cons_zero])
  refine (K2.out _).mono ?_
  rintro e w3 ⟨rfl, b3⟩
  replace hs := hp_below hs b3
  have B2 := B1.trans (b3.mono B1.size)
  clear b3 B1
  (try dsimp only)
  go_wp2_with ((with_reducible apply list_load_sty); exact rfl; exact rfl; exact rfl; (with_reducible exact hs); simp only [World.size_alloc, Act.put, List.setIfInBounds_toArray, List.set_cons_succ, List.set_cons_zero])
  refine (K3.out _).mono ?_
  rintro e w4 ⟨rfl, b4⟩
  replace hs := hp_below hs b4
  have B3 := B2.trans (b4.mono B2.size)
  clear b4 B2
  (try dsimp only)
  go_wp2_with ((with_reducible apply list_load_sty); exact rfl; exact rfl; exact rfl; (with_reducible exact hs); simp only [World.size_alloc, Act.put, List.setIfInBounds_toArray, List.set_cons_succ, List.set_cons_zero])
  refine (K4.out _).mono ?_
  rintro e w5 ⟨rfl, b5⟩
  replace hs := hp_below hs b5
  have B4 := B3.trans (b5.mono B3.size)
  clear b5 B3
  (try dsimp only)
  go_wp2_with ((with_reducible apply list_load_sty); exact rfl; exact rfl; exact rfl; (with_reducible exact hs); simp only [World.size_alloc, Act.put, List.setIfInBounds_toArray, List.set_cons_succ, List.set_cons_zero])
  refine (K5.out _).mono ?_
  rintro e w6 ⟨rfl, b6⟩
  replace hs := hp_below hs b6
  have B5 := B4.trans (b6.mono B4.size)
  clear b6 B4
  (try dsimp only)
  go_wp2_with (fail)
  refine (draw_mirrored a len cap w6 hl (HC.out.below B5)).mono ?_
  rintro e w7 ⟨i, p, s, t, rfl, hi, hp, hz, b7⟩
  replace hs := hp_below hs b7
  have B6 := B5.trans (b7.mono B5.size)
  clear b7 B5
  have k11 := imirr i p s t
  have k12 := imirr i (mirI i p s t) s t
  rw [mir_mir hi hp hz] at k12
  generalize mirI i p s t = y at *
  have K12 := Lib.hid k12
  clear k12 hi hp hz
  (try dsimp only)
  go_wp2_with (fail)
  refine (k11 _).mono ?_
  rintro e w8 ⟨rfl, rfl⟩
  clear k11
  (try dsimp only)
  go_wp2_with (fail)
  refine (draw_alignof a len cap w8 hl (HC.out.below B6)).mono ?_
  rintro e w9 ⟨g, h, rfl, b9⟩
  replace hs := hp_below hs b9
  have B8 := B6.trans (b9.mono B6.size)
  clear b9 B6
  have bx := Go.Joins.below_alloc2 w9 (.cells (sCells fun _ => 0) 31) (.cells (sCells fun _ => 0) 31)
  have ha9 := hp_on (hp_new w9 (.cells (sCells fun _ => 0) 31)) (.cells (sCells fun _ => 0) 31)
  have hb9 := hp_new (w9.alloc (.cells (sCells fun _ => 0) 31)) (.cells (sCells fun _ => 0) 31)
  simp only [World.size_alloc] at ha9 hb9
  obtain ⟨u, eu⟩ : ∃ u, u = (w9.alloc (.cells (sCells fun _ => 0) 31)).alloc (.cells (sCells fun _ => 0) 31) := ⟨_, rfl⟩
  rw [← eu] at bx ha9 hb9
  have EU := Lib.hid eu
  clear eu
  have hbn := hp_row hb9 (show w9.heap.size + 1 ≠ w9.heap.size by omega) (sCells g)
  have by9 := below_setRow (below_setRow bx (g := w9.heap.size) (Nat.le_refl _) (sCells g)) (g := w9.heap.size + 1) (by omega) (sCells h)
  have hs9 := Lib.hid (hp_below hs by9)
  have HA := Lib.hid (hp_row (setRow_heap _ _ _ (sCells g) _ _ ha9) (show w9.heap.size ≠ w9.heap.size + 1 by omega) (sCells h))
  have HB := Lib.hid (setRow_heap _ _ _ (sCells h) _ _ hbn)
  have C9 := Lib.hid (B8.trans (by9.mono B8.size))
  have HA9 := Lib.hid ha9
  have HB9 := Lib.hid hbn
  clear bx ha9 hb9 hbn by9 hs B8
  (try dsimp only)
  go_wp2_with (first | (rw [← EU.out]) | ((with_reducible apply list_alloc_sty); exact rfl; exact rfl; simp only [World.size_alloc, Act.put, List.setIfInBounds_toArray, List.set_cons_succ, List.set_cons_zero]) | ((with_reducible apply list_store_sty); exact rfl; exact rfl; exact rfl; exact rfl; (with_reducible exact HA9.out); simp only [World.size_alloc, Act.put, List.setIfInBounds_toArray, List.set_cons_succ, List.set_cons_zero]) | ((with_reducible apply list_store_sty); exact rfl; exact rfl; exact rfl; exact rfl; (with_reducible exact HB9.out); simp only [World.size_alloc, Act.put, List.setIfInBounds_toArray, List.set_cons_succ, List.set_cons_zero]))
  have hs := hs9.out
  have ha := HA.out
  have hb := HB.out
  have B := C9.out
  clear hs9 HA HB C9 HA9 HB9 EU HC
  generalize (u.setRow w9.heap.size (sCells g)).setRow (w9.heap.size + 1) (sCells h) = v at *
  generalize w9.heap.size + 1 = gb at *
  generalize w9.heap.size = ga at *
  have k13 := ialign g h
  have k14 := salign g h
  generalize alI (g 0) (g 3) (h 4) = al at *
  have hab := HAB.out
  have hxy := HXY.out
  clear HAB HXY
  refine wp_region_quiet_below (by kernel_rfl) (by kernel_rfl) ?_
  (try simp only [List.append_eq, List.cons_append, List.nil_append])
  repeat (first
    | (go_big_quiet_want; (with_reducible apply quiet_sty); exact rfl; exact rfl; (with_reducible exact hs); simp only [Act.put, List.setIfInBounds_toArray, List.set_cons_succ, List.set_cons_zero]; go_big_quiet_on)
    | (go_big_quiet_want; (with_reducible apply quiet_sty); exact rfl; exact rfl; (with_reducible exact ha); simp only [Act.put, List.setIfInBounds_toArray, List.set_cons_succ, List.set_cons_zero]; go_big_quiet_on)
    | (go_big_quiet_want; (with_reducible apply quiet_sty); exact rfl; exact rfl; (with_reducible exact hb); simp only [Act.put, List.setIfInBounds_toArray, List.set_cons_succ, List.set_cons_zero]; go_big_quiet_on)
    | go_big_quiet_step (first
      | (go_at_call 20; exact Calls.regrown_of (K6.out _))
      | (go_at_call 21; exact Calls.regrown_of (K7.out _))
      | (go_at_call 22; exact Calls.regrown_of (K8.out _))
      | (go_at_call 23; exact Calls.regrown_of (K9.out _))
      | (go_at_call 24; exact Calls.regrown_of (K10.out _))
      | (go_at_call 25; exact Calls.regrown_of (k13 _))
      | (go_at_call 26; exact Calls.regrown_of (k14 _))
      | fail))
  refine wpQuiet_nil ?_
  intro _ hw'
  obtain ⟨⟨dq, osq⟩, hw''⟩ := hw'
  subst hw''
  replace B := B.trans ((below_regrown v dq osq).mono B.size)
  generalize Sort.grow (redrawn v dq) osq = v2 at *
  clear hs ha hb k13 k14 K1 K2 K3 K4 K5 K6 K7 K8 K9 K10
  have k12 := K12.out
  have k15 := imirr 100 10 20 true
  rw [show mirI 100 10 20 true = 70 by decide +kernel] at k15
  obtain ⟨s1, s2⟩ := HS.out
  clear HS K12
  cases q
  · obtain ⟨rfl, rfl⟩ := s2 rfl
    clear s1 s2
    have hv : (p3 != p4 && x1 != x2) = true := by simp [hab, hxy]
    (try dsimp only)
    go_wp2_with (fail)
    refine (k12 _).mono ?_
    rintro e z1 ⟨rfl, rfl⟩
    (try dsimp only)
    go_wp2_with (fail)
    refine (k15 _).mono ?_
    rintro e z2 ⟨rfl, rfl⟩
    go_wp2
    go_ret
    exact ⟨rfl, B⟩
  · obtain ⟨rfl, rfl⟩ := s1 rfl
    clear s1 s2
    have hv : (p4 != p3 && x1 != x2) = true := by simp [hab, hxy]
    (try dsimp only)
    go_wp2_with (fail)
    refine (k12 _).mono ?_
    rintro e z1 ⟨rfl, rfl⟩
    (try dsimp only)
    go_wp2_with (fail)
    refine (k15 _).mono ?_
    rintro e z2 ⟨rfl, rfl⟩
    go_wp2
    go_ret
    exact ⟨rfl, B⟩

set_option maxRecDepth 100000 in
theorem walk_big (a : Option Addr) (len cap : Nat) (w : World) (hl : 1048576 < len) (hm : len ≤ 9223372036854775807) :
    Calls Try.prog 3 #[.slice a len cap] w fun e w' => e = .returned (.bool true) ∧ Below w.heap.size w w' := by
  go_enter Try.func3, Try.ntmps3
  go_wp2
  go_ret
  exact ⟨rfl, Below.refl _ _⟩

theorem laidOut : laidOutB Try.prog = true := by kernel_rfl

theorem contract (H : Type) (enc : TypeId × Value → H) (W : World) (base : Nat) (args : Array Value) (ds gs : List (DataW H)) (before : List MemPlace)
    (hval : ∀ (j : Nat) t v, Try.f3.params[j]? = some t → args[j]? = some v → Value.okWide Try.prog W .any base t v)
    (hW : DataW.Whole enc Try.prog Try.f3.params.toList Rows.fnAxesSpec.vars false W args.toList ds gs before) :
    Calls Try.prog 3 args W fun e W' => ∃ v, e = .returned v ∧ Rows.fnAxesSpec.post enc Try.prog Try.f3 false true false false W args v W' := by
  have hW' := hW
  obtain ⟨p, q, hA0, hV, rfl, hfz, hnd⟩ := hW
  have hA : DataW.TrodAll enc Try.prog W 0 (fun _ => true) true Try.f3.params.toList args.toList ds p := hA0
  rw [Try.params3] at hA hval
  obtain ⟨v0, vs0, d0, ds0, p0, q0, hargs, rfl, rfl, h0, r0⟩ := trodAll_cons hA
  obtain ⟨rfl, rfl, rfl⟩ := trodAll_nil r0
  obtain rfl : args = #[v0] := by cases args; simp_all
  obtain ⟨rfl, rfl⟩ := trodVars_none hV
  obtain ⟨a, len, cap, rfl⟩ := okWide_slice Try.underlying22 (hval 0 22 v0 rfl rfl)
  have lt0 : ∀ x ∈ p0, x.block < W.heap.size := by obtain ⟨m, hm⟩ := h0; exact DataW.trod_lt m _ _ _ hm
  obtain ⟨hc, hm⟩ := code_of h0
  have all : Calls Try.prog 3 #[.slice a len cap] W fun e w' => e = .returned (.bool true) ∧ Below W.heap.size W w' := by
    by_cases hl : len ≤ 1048576
    · exact walk a len cap W hl hc
    · exact walk_big a len cap W (by omega) hm
  refine all.mono fun e W' ⟨he, bel⟩ => ?_
  subst he
  exact ⟨_, rfl, law_post (pa := _) (pv := []) hW' (trodAll_cons_mk (shut_bool Try.underlying4 _) trodAll_mk0) (trodAll_cons_mk (Below.trod laidOut (by kernel_rfl) (of_decide_eq_true (by kernel_rfl)) h0 bel lt0) trodAll_mk0) rfl rfl bel⟩


set_option maxRecDepth 100000 in
theorem lifted (os : Os) (started : os.Started) (H : Type) (enc : TypeId × Value → H) :
    ReturnsInHanded {} Try.checked os 3 .any (Rows.fnAxesSpec.pre6 enc Try.prog Try.f3 Rows.fnAxesRow.domain false) (Rows.fnAxesSpec.post enc Try.prog Try.f3 false true false false) := by
  refine returnsInHanded_of_change (C := Try.checked) own started (by kernel_rfl) Try.func3
    (ChangeSpec.witness6 (enc := enc) (C := Try.checked) false ⟨#[], #[.slice none 0 0], []⟩ 8 (by kernel_rfl) (by kernel_rfl) (by kernel_rfl) (by kernel_rfl)) ?_
  intro W base args ds gs before hval hW _ _
  exact contract H enc W base args ds gs before hval hW

/-- The given statement. -/
theorem proved : Rows.FnAxesSaid :=
  OpenClaim.holds_of_wide 3 Try.f3 rfl rfl rfl rfl rfl rfl rfl ⟨rfl, rfl, rfl, rfl, rfl⟩ rfl rfl rfl rfl rfl (by kernel_rfl) Try.func3 (by kernel_rfl)
    (of_decide_eq_true (by kernel_rfl)) (by unfold Func.isWrapper; first | (rw [if_pos (by decide +kernel)]; kernel_rfl) | (rw [if_neg (by decide +kernel)]; exact ⟨rfl, rfl⟩))
    (fun os started H enc _ => lifted os started H enc)
#print axioms proved
end Go.Proofs.Ythnfgdflnlafiaa.fnAxes

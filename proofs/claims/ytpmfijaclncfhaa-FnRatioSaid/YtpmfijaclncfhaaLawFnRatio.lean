/-
  For every code, laws.FnRatio returns true: a size by the aspect ratio is the model's, a width by its height stands in the ratio but for what is rounded down, and without a ratio there is none. Conditions: none.
-/
import Derived.Test.YtpmfijaclncfhaaCodeIn
import Derived.Test.YtpmfijaclncfhaaBdB
import Derived.Test.YtpmfijaclncfhaaDrB
import Derived.Test.YtpmfijaclncfhaaPln
import Derived.Test.YtpmfijaclncfhaaPlAt
import Derived.Deep.RegionWith
import Derived.Below
namespace Go.Proofs.Ytpmfijaclncfhaa.fnRatio
open Go.ChangeShapes Go.WideShapes Go.ChangeAt Go.RowKit
set_option linter.unusedVariables false
set_option linter.unusedSimpArgs false

theorem sfdB (a b : Int) (w : World) (h0 : -9223372036854775808 ≤ a) (h1 : a ≤ 9223372036854775807) :
    Calls Try.prog 32 #[.int .i64 a, .int .i64 b] w fun e w' => e = .returned (.int .i64 (fdI a b)) ∧ Below w.heap.size w w' := (sfd_any a b w h0 h1).mono fun e w' h => ⟨h.1, h.2 ▸ Below.refl _ _⟩
theorem ra_plain : raI plF true 5 = -1 := by decide +kernel
theorem mul_hq {h q : Int} (h0 : 0 ≤ h) (h1 : h ≤ 1999) (q0 : 1 ≤ q) (q1 : q ≤ 640) : 0 ≤ h * q ∧ h * q ≤ 1279360 := by
  have a := Int.mul_le_mul_of_nonneg_left q1 h0
  have b := Int.mul_nonneg h0 (show 0 ≤ q by omega)
  omega
theorem ra_wide {f : Nat → Int} {h q : Int} (hf : f 25 = q) (h0 : 0 ≤ h) (h1 : h ≤ 1999) (q0 : 1 ≤ q) (q1 : q ≤ 640) : raI f true h = fdI (h * q) 64 := by
  have m := mul_hq h0 h1 q0 q1
  have d : 0 ≤ fdI (h * q) 64 ∧ fdI (h * q) 64 ≤ 1048576 := by
    unfold fdI
    rw [if_neg (by omega)]
    omega
  unfold raI
  rw [hf, if_neg (by omega), clI_id h0 (by omega), clI_id (show 0 ≤ q by omega) (by omega)]
  simp only [pkI, if_true]
  exact clI_id d.1 d.2
theorem ra_high {f : Nat → Int} {h q : Int} (hf : f 25 = q) (h0 : 0 ≤ h) (h1 : h ≤ 9999) (q0 : 1 ≤ q) (q1 : q ≤ 640) : raI f false h = clI (fdI (64 * h) q) := by
  unfold raI
  rw [hf, if_neg (by omega), clI_id h0 (by omega), clI_id (show 0 ≤ q by omega) (by omega)]
  simp only [pkI, Bool.false_eq_true, if_false]
  rw [Int.mul_comm h 64]
theorem cell_put {v : World} {g g' i j : Nat} {x y : Value} (hne : g ≠ g') (h : v.cell? ⟨g, i, none⟩ = some x) : (v.setCell ⟨g', j, none⟩ y).cell? ⟨g, i, none⟩ = some x := by
  rw [← h]
  simp only [World.cell?, Below.heap_setCell v ⟨g', j, none⟩ y g hne]

set_option maxRecDepth 100000 in
set_option maxHeartbeats 4000000 in
theorem walk (a : Option Addr) (len cap : Nat) (w : World) (hl : len ≤ 1048576) (hc : Code w a len) :
    Calls Try.prog 4 #[.slice a len cap] w fun e w' => e = .returned (.bool true) ∧ Below w.heap.size w w' := by
  have HC := Lib.hid hc
  go_enter Try.func4, Try.ntmps4
  go_wp2_with (first | (go_at_call 28; refine (draw_byratio a len cap w hl hc).mono ?_; rintro e w1 ⟨f, r, x, rfl, b1⟩) | (go_at_call 12; go_in) | ((with_reducible apply list_new_sty (f := f)); exact rfl; exact rfl; exact rfl; exact rfl; exact rfl; exact rfl; exact rfl; intro v1 bv1 hv1; simp only [World.size_alloc, Act.put, List.setIfInBounds_toArray, List.set_cons_succ, List.set_cons_zero]) | ((with_reducible apply list_load_sty); exact rfl; exact rfl; exact rfl; (with_reducible exact hv1); simp only [World.size_alloc, Act.put, List.setIfInBounds_toArray, List.set_cons_succ, List.set_cons_zero]))
  clear hc
  have B := b1.trans (bv1.mono b1.size)
  clear b1 bv1
  generalize w1.heap.size = gs at *
  have hs := hv1
  clear hv1
  have k1 := iratio f r x
  have k2 := sratio f r x
  generalize raI f r x = v at *
  have K2 := Lib.hid k2
  clear k2
  (try dsimp only)
  refine (k1 _).mono ?_
  rintro e w2 ⟨rfl, b2⟩
  replace hs := hp_below hs b2
  replace B := B.trans (b2.mono B.size)
  clear b2
  (try dsimp only)
  go_wp2_with ((with_reducible apply list_load_sty); exact rfl; exact rfl; exact rfl; (with_reducible exact hs); simp only [World.size_alloc, Act.put, List.setIfInBounds_toArray, List.set_cons_succ, List.set_cons_zero])
  (try dsimp only)
  refine (K2.out _).mono ?_
  rintro e w3 ⟨rfl, b3⟩
  replace B := B.trans (b3.mono B.size)
  clear b3
  clear hs k1 K2
  (try dsimp only)
  go_wp2_with (fail)
  refine (places_any a len cap w3 hl (HC.out.below B)).mono ?_
  rintro e w4 ⟨v4, xs, rfl, hxl, hin, hown, b4⟩
  replace B := B.trans (b4.mono B.size)
  clear b4 HC
  obtain ⟨gq, cp, rfl, hg0, hg1, hcell⟩ := own_places hown (by omega)
  rw [hxl] at hcell ⊢
  have c0 := hcell 0 (by omega)
  have c1 := hcell 1 (by omega)
  have c2 := hcell 2 (by omega)
  have r0 := place_in hin 0
  have r1 := place_in hin 1
  have r2 := place_in hin 2
  generalize xs.getD 0 0 = x0 at *
  generalize xs.getD 1 0 = x1 at *
  generalize xs.getD 2 0 = x2 at *
  clear hcell hxl hown hin hg0
  (try dsimp only)
  go_wp2_with (fail)
  refine (plain_any _).mono ?_
  rintro e w5 ⟨rfl, b5⟩
  replace c0 := (b5.cell (block_lt_of_cell c0)).trans c0
  replace c1 := (b5.cell (block_lt_of_cell c1)).trans c1
  replace c2 := (b5.cell (block_lt_of_cell c2)).trans c2
  have hg2 : gq < w5.heap.size := Nat.lt_of_lt_of_le hg1 b5.size
  replace B := B.trans (b5.mono B.size)
  clear b5 hg1
  have hne : gq ≠ w5.heap.size := by omega
  have hne2 := hne.symm
  have hwp := B.size
  (try dsimp only)
  go_wp2_with (first | ((with_reducible apply list_new_sty (f := plF)); exact rfl; exact rfl; exact rfl; exact rfl; exact rfl; exact rfl; exact rfl; intro v6 bv6 hv6; replace c0 := (bv6.cell (block_lt_of_cell c0)).trans c0; replace c1 := (bv6.cell (block_lt_of_cell c1)).trans c1; replace c2 := (bv6.cell (block_lt_of_cell c2)).trans c2; have F25 := sty_free hv6 25; have d25 := sty_int hv6 25 (by decide); have hq := sty_put hv6 25 (1 + x0 % 640) (.int .i64 (1 + x0 % 640)) (by decide) (sCell_int _ (by decide)); have c9 := cell_put (j := 25) (y := .int .i64 (1 + x0 % 640)) hne c2; have b9 := bl_set (B.trans (bv6.mono B.size)) 25 hwp (.int .i64 (1 + x0 % 640)); simp only [World.size_alloc, Act.put, List.setIfInBounds_toArray, List.set_cons_succ, List.set_cons_zero]) | ((with_reducible apply list_load_sty); exact rfl; exact rfl; exact rfl; (with_reducible exact hq); simp only [World.size_alloc, Act.put, List.setIfInBounds_toArray, List.set_cons_succ, List.set_cons_zero]))
  clear F25 d25 hv6 c0 c1 c2 B bv6
  generalize v6.setCell ⟨w5.heap.size, 25, none⟩ (.int .i64 (1 + x0 % 640)) = u7 at *
  generalize w5.heap.size = gp at *
  have q0 : 1 ≤ 1 + x0 % 640 := by omega
  have q1 : 1 + x0 % 640 ≤ 640 := by omega
  generalize 1 + x0 % 640 = Q at *
  have h0 : 0 ≤ x1 % 2000 := by omega
  have h1 : x1 % 2000 ≤ 1999 := by omega
  generalize x1 % 2000 = H at *
  have hF : upd plF 25 Q 25 = Q := by simp [upd]
  generalize upd plF 25 Q = F at *
  have eA := ra_wide hF h0 h1 q0 q1
  have eB := ra_high hF r2.1 r2.2 q0 q1
  have eC := ra_plain
  have kA := iratio F true H
  rw [eA] at kA
  clear eA r0 r1
  have m0 := mul_hq h0 h1 q0 q1
  have m1 := fdI_le (a := H * Q) (show (1 : Int) ≤ 64 by omega)
  obtain ⟨m2, m3⟩ := m1
  obtain ⟨m4, m5⟩ := m0
  have KA := Lib.hid kA
  clear kA
  (try dsimp only)
  refine (KA.out _).mono ?_
  rintro e w8 ⟨rfl, b8⟩
  replace hq := hp_below hq b8
  replace c9 := (b8.cell (block_lt_of_cell c9)).trans c9
  replace b9 := b9.trans (b8.mono b9.size)
  clear b8 KA hne hne2 hwp hg2
  have l25 := sty_int_regrown hq 25 (by decide)
  rw [hF] at l25
  have l2 := fun d os => cell_regrown c9 d os
  have s0 := r2.1
  have s1 := r2.2
  clear hF r2 h0 h1
  have m6 : 0 ≤ fdI (H * Q) 64 ∧ fdI (H * Q) 64 ≤ 1279360 := by omega
  obtain ⟨m6, m7⟩ := m6
  have w1' : IntKind.i64.wrap (H * Q) = H * Q := IntWalk.i64_in _ (by omega)
  have w2' : IntKind.i64.wrap (fdI (H * Q) 64 * 64) = fdI (H * Q) 64 * 64 := IntWalk.i64_in _ (by omega)
  have w3' : IntKind.i64.wrap (fdI (H * Q) 64 * 64 + 64) = fdI (H * Q) 64 * 64 + 64 := IntWalk.i64_in _ (by omega)
  have w4' : IntKind.i64.wrap (64 * x2) = 64 * x2 := IntWalk.i64_in _ (by omega)
  (try dsimp only)
  go_wp2_with (fail)
  refine wp_region_quiet_below (by kernel_rfl) (by kernel_rfl) ?_
  (try simp only [List.append_eq, List.cons_append, List.nil_append])
  repeat (first | (go_big_quiet_want; (with_reducible apply quiet_sty); exact rfl; exact rfl; (with_reducible exact hq); simp only [Act.put, List.setIfInBounds_toArray, List.set_cons_succ, List.set_cons_zero]; go_big_quiet_on) | go_big_quiet_step (first
    | (go_at_call 32; exact Calls.regrown_of (sfdB _ _ _ (by omega) (by omega)))
    | (go_at_call 33; exact Calls.regrown_of (sclampedB _ _))
    | (go_at_call 29; exact Calls.regrown_of (iratio _ _ _ _))
    | (go_at_call 21; exact Calls.regrown_of (plain_any _))
    | fail))
  refine wpQuiet_nil ?_
  intro _ hw'
  obtain ⟨⟨dq, osq⟩, hw''⟩ := hw'
  subst hw''
  go_wp2
  go_ret
  exact ⟨rfl, b9.trans ((below_regrown w8 dq osq).mono b9.size)⟩

set_option maxRecDepth 100000 in
theorem walk_big (a : Option Addr) (len cap : Nat) (w : World) (hl : 1048576 < len) (hm : len ≤ 9223372036854775807) :
    Calls Try.prog 4 #[.slice a len cap] w fun e w' => e = .returned (.bool true) ∧ Below w.heap.size w w' := by
  go_enter Try.func4, Try.ntmps4
  go_wp2
  go_ret
  exact ⟨rfl, Below.refl _ _⟩

theorem laidOut : laidOutB Try.prog = true := by kernel_rfl

theorem contract (H : Type) (enc : TypeId × Value → H) (W : World) (base : Nat) (args : Array Value) (ds gs : List (DataW H)) (before : List MemPlace)
    (hval : ∀ (j : Nat) t v, Try.f4.params[j]? = some t → args[j]? = some v → Value.okWide Try.prog W .any base t v)
    (hW : DataW.Whole enc Try.prog Try.f4.params.toList Rows.fnRatioSpec.vars false W args.toList ds gs before) :
    Calls Try.prog 4 args W fun e W' => ∃ v, e = .returned v ∧ Rows.fnRatioSpec.post enc Try.prog Try.f4 false true false false W args v W' := by
  have hW' := hW
  obtain ⟨p, q, hA0, hV, rfl, hfz, hnd⟩ := hW
  have hA : DataW.TrodAll enc Try.prog W 0 (fun _ => true) true Try.f4.params.toList args.toList ds p := hA0
  rw [Try.params4] at hA hval
  obtain ⟨v0, vs0, d0, ds0, p0, q0, hargs, rfl, rfl, h0, r0⟩ := trodAll_cons hA
  obtain ⟨rfl, rfl, rfl⟩ := trodAll_nil r0
  obtain rfl : args = #[v0] := by cases args; simp_all
  obtain ⟨rfl, rfl⟩ := trodVars_none hV
  obtain ⟨a, len, cap, rfl⟩ := okWide_slice Try.underlying22 (hval 0 22 v0 rfl rfl)
  have lt0 : ∀ x ∈ p0, x.block < W.heap.size := by obtain ⟨m, hm⟩ := h0; exact DataW.trod_lt m _ _ _ hm
  obtain ⟨hc, hm⟩ := code_of h0
  have all : Calls Try.prog 4 #[.slice a len cap] W fun e w' => e = .returned (.bool true) ∧ Below W.heap.size W w' := by
    by_cases hl : len ≤ 1048576
    · exact walk a len cap W hl hc
    · exact walk_big a len cap W (by omega) hm
  refine all.mono fun e W' ⟨he, bel⟩ => ?_
  subst he
  exact ⟨_, rfl, law_post (pa := _) (pv := []) hW' (trodAll_cons_mk (shut_bool Try.underlying4 _) trodAll_mk0) (trodAll_cons_mk (Below.trod laidOut (by kernel_rfl) (of_decide_eq_true (by kernel_rfl)) h0 bel lt0) trodAll_mk0) rfl rfl bel⟩


set_option maxRecDepth 100000 in
theorem lifted (os : Os) (started : os.Started) (H : Type) (enc : TypeId × Value → H) :
    ReturnsInHanded {} Try.checked os 4 .any (Rows.fnRatioSpec.pre6 enc Try.prog Try.f4 Rows.fnRatioRow.domain false) (Rows.fnRatioSpec.post enc Try.prog Try.f4 false true false false) := by
  refine returnsInHanded_of_change (C := Try.checked) own started (by kernel_rfl) Try.func4
    (ChangeSpec.witness6 (enc := enc) (C := Try.checked) false ⟨#[], #[.slice none 0 0], []⟩ 8 (by kernel_rfl) (by kernel_rfl) (by kernel_rfl) (by kernel_rfl)) ?_
  intro W base args ds gs before hval hW _ _
  exact contract H enc W base args ds gs before hval hW

/-- The given statement. -/
theorem proved : Rows.FnRatioSaid :=
  OpenClaim.holds_of_wide 4 Try.f4 rfl rfl rfl rfl rfl rfl rfl ⟨rfl, rfl, rfl, rfl, rfl⟩ rfl rfl rfl rfl rfl (by kernel_rfl) Try.func4 (by kernel_rfl)
    (of_decide_eq_true (by kernel_rfl)) (by unfold Func.isWrapper; first | (rw [if_pos (by decide +kernel)]; kernel_rfl) | (rw [if_neg (by decide +kernel)]; exact ⟨rfl, rfl⟩))
    (fun os started H enc _ => lifted os started H enc)
#print axioms proved
end Go.Proofs.Ytpmfijaclncfhaa.fnRatio

/-
  For every code, laws.FnBounds returns true: the bounded size is the model's, keeps to its minimum and, where the minimum allows it, to its maximum, is bounded already when bounded again, and is no less than padding and border; what is given is the model's. Conditions: none.
-/
import Derived.Test.YtpmfijaclncfhaaCodeIn
import Derived.Test.YtpmfijaclncfhaaBdB
import Derived.Test.YtpmfijaclncfhaaDrB
import Derived.Test.YtpmfijaclncfhaaPln
import Derived.Deep.RegionWith
import Derived.Below
namespace Go.Proofs.Ytpmfijaclncfhaa.fnBounds
open Go.ChangeShapes Go.WideShapes Go.ChangeAt Go.RowKit
set_option linter.unusedVariables false
set_option linter.unusedSimpArgs false

/-- The style of the last test: a minimum of 50 points, a maximum of 40. -/
def pF : Nat → Int := updL (updL plF 17 [1, 50]) 21 [1, 40]
theorem pF_size : bdI pF true (-1) 10 = 50 := by decide +kernel
theorem vz_in (f : Nat → Int) (b : Bool) (o : Nat) (base : Int) : vzI f b o base = -1 ∨ (0 ≤ vzI f b o base ∧ vzI f b o base ≤ 1048576) := szV_in _ _ _
theorem bd_facts (f : Nat → Int) (b : Bool) (base n : Int) : leI f b base ≤ bdI f b base n ∧ (vzI f b 21 base < 0 ∨ bdI f b base n ≤ vzI f b 21 base ∨ bdI f b base n = leI f b base) ∧ frI f b ≤ bdI f b base n ∧ bdI f b base (bdI f b base n) = bdI f b base n := by
  have h1 := leI_in f b base
  have h2 := vz_in f b 21 base
  unfold bdI
  generalize leI f b base = l at *
  generalize vzI f b 21 base = m at *
  generalize frI f b = z at *
  unfold clI brI wiI
  refine ⟨?_, ?_, ?_, ?_⟩ <;> (repeat' split) <;> omega

set_option maxRecDepth 100000 in
set_option maxHeartbeats 4000000 in
theorem walk (a : Option Addr) (len cap : Nat) (w : World) (hl : len ≤ 1048576) (hc : Code w a len) :
    Calls Try.prog 3 #[.slice a len cap] w fun e w' => e = .returned (.bool true) ∧ Below w.heap.size w w' := by
  have HC := Lib.hid hc
  go_enter Try.func3, Try.ntmps3
  go_wp2_with (first | (go_at_call 13; refine (draw_bounded a len cap w hl hc).mono ?_; rintro e w1 ⟨f, r, x, n, rfl, b1⟩) | (go_at_call 12; go_in) | ((with_reducible apply list_new_sty (f := f)); exact rfl; exact rfl; exact rfl; exact rfl; exact rfl; exact rfl; exact rfl; intro v1 bv1 hv1; simp only [World.size_alloc, Act.put, List.setIfInBounds_toArray, List.set_cons_succ, List.set_cons_zero]) | ((with_reducible apply list_load_sty); exact rfl; exact rfl; exact rfl; (with_reducible exact hv1); simp only [World.size_alloc, Act.put, List.setIfInBounds_toArray, List.set_cons_succ, List.set_cons_zero]))
  clear hc
  have B := b1.trans (bv1.mono b1.size)
  clear b1 bv1
  generalize w1.heap.size = gs at *
  have hs := hv1
  clear hv1
  have k1 := ibounded f r x n
  have k2 := ileast f r x
  have k3 := imost f r x
  have k4 := sbounded f r x n
  have k5 := sleast f r x
  have k6 := smost f r x
  have k7 := ibounded f r x (bdI f r x n)
  have k8 := ifsize f r
  obtain ⟨f1, f2, f3, f4⟩ := bd_facts f r x n
  rw [f4] at k7
  clear f4
  generalize bdI f r x n = b at *
  generalize leI f r x = l at *
  generalize vzI f r 21 x = m at *
  generalize frI f r = z at *
  have K1 := Lib.hid k1
  have K2 := Lib.hid k2
  have K3 := Lib.hid k3
  have K4 := Lib.hid k4
  have K5 := Lib.hid k5
  have K6 := Lib.hid k6
  have K7 := Lib.hid k7
  have K8 := Lib.hid k8
  clear k1 k2 k3 k4 k5 k6 k7 k8
  have F1 := Lib.hid f1
  have F2 := Lib.hid f2
  have F3 := Lib.hid f3
  clear f1 f2 f3
  (try dsimp only)
  refine (K1.out _).mono ?_
  rintro e w2 ⟨rfl, b2⟩
  replace hs := hp_below hs b2
  replace B := B.trans (b2.mono B.size)
  clear b2
  (try dsimp only)
  go_wp2_with ((with_reducible apply list_load_sty); exact rfl; exact rfl; exact rfl; (with_reducible exact hs); simp only [World.size_alloc, Act.put, List.setIfInBounds_toArray, List.set_cons_succ, List.set_cons_zero])
  (try dsimp only)
  refine (K2.out _).mono ?_
  rintro e w3 ⟨rfl, b3⟩
  replace hs := hp_below hs b3
  replace B := B.trans (b3.mono B.size)
  clear b3
  (try dsimp only)
  go_wp2_with ((with_reducible apply list_load_sty); exact rfl; exact rfl; exact rfl; (with_reducible exact hs); simp only [World.size_alloc, Act.put, List.setIfInBounds_toArray, List.set_cons_succ, List.set_cons_zero])
  (try dsimp only)
  refine (K3.out _).mono ?_
  rintro e w4 ⟨rfl, b4⟩
  replace hs := hp_below hs b4
  replace B := B.trans (b4.mono B.size)
  clear b4
  (try dsimp only)
  go_wp2_with (first | ((with_reducible apply list_load_sty); exact rfl; exact rfl; exact rfl; (with_reducible exact hs); simp only [World.size_alloc, Act.put, List.setIfInBounds_toArray, List.set_cons_succ, List.set_cons_zero]) | ((with_reducible apply list_load_gsty); exact rfl; exact rfl; exact rfl; (with_reducible exact hs); simp only [World.size_alloc, Act.put, List.setIfInBounds_toArray, List.set_cons_succ, List.set_cons_zero]))
  (try dsimp only)
  refine (K4.out _).mono ?_
  rintro e w5 ⟨rfl, b5⟩
  replace hs := hp_below hs b5
  replace B := B.trans (b5.mono B.size)
  clear b5
  (try dsimp only)
  go_wp2_with (first | ((with_reducible apply list_load_sty); exact rfl; exact rfl; exact rfl; (with_reducible exact hs); simp only [World.size_alloc, Act.put, List.setIfInBounds_toArray, List.set_cons_succ, List.set_cons_zero]) | ((with_reducible apply list_load_gsty); exact rfl; exact rfl; exact rfl; (with_reducible exact hs); simp only [World.size_alloc, Act.put, List.setIfInBounds_toArray, List.set_cons_succ, List.set_cons_zero]))
  (try dsimp only)
  refine (K5.out _).mono ?_
  rintro e w6 ⟨rfl, b6⟩
  replace hs := hp_below hs b6
  replace B := B.trans (b6.mono B.size)
  clear b6
  (try dsimp only)
  go_wp2_with (first | ((with_reducible apply list_load_sty); exact rfl; exact rfl; exact rfl; (with_reducible exact hs); simp only [World.size_alloc, Act.put, List.setIfInBounds_toArray, List.set_cons_succ, List.set_cons_zero]) | ((with_reducible apply list_load_gsty); exact rfl; exact rfl; exact rfl; (with_reducible exact hs); simp only [World.size_alloc, Act.put, List.setIfInBounds_toArray, List.set_cons_succ, List.set_cons_zero]))
  (try dsimp only)
  refine (K6.out _).mono ?_
  rintro e w7 ⟨rfl, b7⟩
  replace hs := hp_below hs b7
  replace B := B.trans (b7.mono B.size)
  clear b7
  (try dsimp only)
  go_wp2_with (fail)
  (try dsimp only)
  refine (draw_givenof a len cap w7 hl (HC.out.below B)).mono ?_
  rintro e w8 ⟨g, t, k, q, rfl, b8⟩
  replace hs := hp_below hs b8
  replace B := B.trans (b8.mono B.size)
  clear b8
  have k9 := ifixed g t k
  have k10 := sfixed g t k
  have k11 := igiven g t k q
  have k12 := sgiven g t k q
  have k13 := ibounded pF true (-1) 10
  rw [pF_size] at k13
  generalize vzI g t 13 k = y at *
  generalize giI g t k q = y2 at *
  have K9 := Lib.hid k9
  have K10 := Lib.hid k10
  have K11 := Lib.hid k11
  have K12 := Lib.hid k12
  have K13 := Lib.hid k13
  clear k9 k10 k11 k12 k13
  (try dsimp only)
  go_wp2_with ((with_reducible apply list_new_sty (f := g)); exact rfl; exact rfl; exact rfl; exact rfl; exact rfl; exact rfl; exact rfl; intro v9 bv9 hv9; simp only [World.size_alloc, Act.put, List.setIfInBounds_toArray, List.set_cons_succ, List.set_cons_zero])
  replace hs := hp_below hs bv9
  replace B := B.trans (bv9.mono B.size)
  clear bv9
  have hg := hv9
  clear hv9
  generalize w8.heap.size = gg at *
  (try dsimp only)
  refine (plain_any _).mono ?_
  rintro e w10 ⟨rfl, b10⟩
  replace hs := hp_below hs b10
  replace hg := hp_below hg b10
  replace B := B.trans (b10.mono B.size)
  clear b10
  have ls := hp_lt hs
  have lg := hp_lt hg
  have hpl := B.size
  (try dsimp only)
  go_wp2_with ((with_reducible apply list_new_sty (f := plF)); exact rfl; exact rfl; exact rfl; exact rfl; exact rfl; exact rfl; exact rfl; intro v11 bv11 hv11; simp only [World.size_alloc, Act.put, List.setIfInBounds_toArray, List.set_cons_succ, List.set_cons_zero])
  replace hs := hp_below hs bv11
  replace hg := hp_below hg bv11
  replace B := B.trans (bv11.mono B.size)
  clear bv11
  have hp := hv11
  clear hv11
  generalize w10.heap.size = gp at *
  (try dsimp only)
  refine (point_any 50 _).mono ?_
  rintro e w12 ⟨rfl, b12⟩
  replace hs := hp_below hs b12
  replace hg := hp_below hg b12
  replace hp := hp_below hp b12
  replace B := B.trans (b12.mono B.size)
  clear b12
  (try dsimp only)
  go_wp2_with ((with_reducible apply list_put_ints [1, 50] 17); exact rfl; exact rfl; exact rfl; exact rfl; kernel_rfl; decide; (with_reducible exact hp); (with_reducible exact B); exact hpl; intro v13 bv13 hv13 kv13; simp only [World.size_alloc, Act.put, List.setIfInBounds_toArray, List.set_cons_succ, List.set_cons_zero])
  replace hs := kv13 _ _ (by omega) hs
  replace hg := kv13 _ _ (by omega) hg
  replace hp := hv13
  replace B := bv13
  clear kv13 hv13 bv13
  (try dsimp only)
  refine (point_any 40 _).mono ?_
  rintro e w14 ⟨rfl, b14⟩
  replace hs := hp_below hs b14
  replace hg := hp_below hg b14
  replace hp := hp_below hp b14
  replace B := B.trans (b14.mono B.size)
  clear b14
  (try dsimp only)
  go_wp2_with ((with_reducible apply list_put_ints [1, 40] 21); exact rfl; exact rfl; exact rfl; exact rfl; kernel_rfl; decide; (with_reducible exact hp); (with_reducible exact B); exact hpl; intro v15 bv15 hv15 kv15; simp only [World.size_alloc, Act.put, List.setIfInBounds_toArray, List.set_cons_succ, List.set_cons_zero])
  replace hs := kv15 _ _ (by omega) hs
  replace hg := kv15 _ _ (by omega) hg
  replace hp := hv15
  replace B := bv15
  clear kv15 hv15 bv15
  rw [show updL (updL plF 17 [1, 50]) 21 [1, 40] = pF from rfl] at hp
  have f1 := F1.out
  have f3 := F3.out
  have f2 := F2.out
  clear F1 F2 F3 HC K1 K2 K3 K4 K5 K6 ls lg hpl
  by_cases c1 : m < 0
  ·
    refine wp_region_quiet_below (by kernel_rfl) (by kernel_rfl) ?_
    (try simp only [List.append_eq, List.cons_append, List.nil_append])
    repeat (first | (go_big_quiet_want; (with_reducible apply quiet_sty); exact rfl; exact rfl; (with_reducible exact hs); simp only [Act.put, List.setIfInBounds_toArray, List.set_cons_succ, List.set_cons_zero]; go_big_quiet_on) | (go_big_quiet_want; (with_reducible apply quiet_sty); exact rfl; exact rfl; (with_reducible exact hg); simp only [Act.put, List.setIfInBounds_toArray, List.set_cons_succ, List.set_cons_zero]; go_big_quiet_on) | (go_big_quiet_want; (with_reducible apply quiet_sty); exact rfl; exact rfl; (with_reducible exact hp); simp only [Act.put, List.setIfInBounds_toArray, List.set_cons_succ, List.set_cons_zero]; go_big_quiet_on) | go_big_quiet_step (first
      | (go_at_call_of 14 b; exact Calls.regrown_of (K7.out _))
      | (go_at_call 14; exact Calls.regrown_of (K13.out _))
      | (go_at_call 23; exact Calls.regrown_of (K8.out _))
      | (go_at_call 24; exact Calls.regrown_of (K9.out _))
      | (go_at_call 25; exact Calls.regrown_of (K10.out _))
      | (go_at_call 26; exact Calls.regrown_of (K11.out _))
      | (go_at_call 27; exact Calls.regrown_of (K12.out _))
      | fail))
    refine wpQuiet_nil ?_
    intro _ hw'
    obtain ⟨⟨dq, osq⟩, hw''⟩ := hw'
    subst hw''
    go_wp2
    go_ret
    exact ⟨rfl, B.trans ((below_regrown v15 dq osq).mono B.size)⟩
  by_cases c2 : b ≤ m
  ·
    refine wp_region_quiet_below (by kernel_rfl) (by kernel_rfl) ?_
    (try simp only [List.append_eq, List.cons_append, List.nil_append])
    repeat (first | (go_big_quiet_want; (with_reducible apply quiet_sty); exact rfl; exact rfl; (with_reducible exact hs); simp only [Act.put, List.setIfInBounds_toArray, List.set_cons_succ, List.set_cons_zero]; go_big_quiet_on) | (go_big_quiet_want; (with_reducible apply quiet_sty); exact rfl; exact rfl; (with_reducible exact hg); simp only [Act.put, List.setIfInBounds_toArray, List.set_cons_succ, List.set_cons_zero]; go_big_quiet_on) | (go_big_quiet_want; (with_reducible apply quiet_sty); exact rfl; exact rfl; (with_reducible exact hp); simp only [Act.put, List.setIfInBounds_toArray, List.set_cons_succ, List.set_cons_zero]; go_big_quiet_on) | go_big_quiet_step (first
      | (go_at_call_of 14 b; exact Calls.regrown_of (K7.out _))
      | (go_at_call 14; exact Calls.regrown_of (K13.out _))
      | (go_at_call 23; exact Calls.regrown_of (K8.out _))
      | (go_at_call 24; exact Calls.regrown_of (K9.out _))
      | (go_at_call 25; exact Calls.regrown_of (K10.out _))
      | (go_at_call 26; exact Calls.regrown_of (K11.out _))
      | (go_at_call 27; exact Calls.regrown_of (K12.out _))
      | fail))
    refine wpQuiet_nil ?_
    intro _ hw'
    obtain ⟨⟨dq, osq⟩, hw''⟩ := hw'
    subst hw''
    go_wp2
    go_ret
    exact ⟨rfl, B.trans ((below_regrown v15 dq osq).mono B.size)⟩
  have c3 : b = l := by omega
  subst l
  refine wp_region_quiet_below (by kernel_rfl) (by kernel_rfl) ?_
  (try simp only [List.append_eq, List.cons_append, List.nil_append])
  repeat (first | (go_big_quiet_want; (with_reducible apply quiet_sty); exact rfl; exact rfl; (with_reducible exact hs); simp only [Act.put, List.setIfInBounds_toArray, List.set_cons_succ, List.set_cons_zero]; go_big_quiet_on) | (go_big_quiet_want; (with_reducible apply quiet_sty); exact rfl; exact rfl; (with_reducible exact hg); simp only [Act.put, List.setIfInBounds_toArray, List.set_cons_succ, List.set_cons_zero]; go_big_quiet_on) | (go_big_quiet_want; (with_reducible apply quiet_sty); exact rfl; exact rfl; (with_reducible exact hp); simp only [Act.put, List.setIfInBounds_toArray, List.set_cons_succ, List.set_cons_zero]; go_big_quiet_on) | go_big_quiet_step (first
    | (go_at_call_of 14 b; exact Calls.regrown_of (K7.out _))
    | (go_at_call 14; exact Calls.regrown_of (K13.out _))
    | (go_at_call 23; exact Calls.regrown_of (K8.out _))
    | (go_at_call 24; exact Calls.regrown_of (K9.out _))
    | (go_at_call 25; exact Calls.regrown_of (K10.out _))
    | (go_at_call 26; exact Calls.regrown_of (K11.out _))
    | (go_at_call 27; exact Calls.regrown_of (K12.out _))
    | fail))
  refine wpQuiet_nil ?_
  intro _ hw'
  obtain ⟨⟨dq, osq⟩, hw''⟩ := hw'
  subst hw''
  go_wp2
  go_ret
  exact ⟨rfl, B.trans ((below_regrown v15 dq osq).mono B.size)⟩

set_option maxRecDepth 100000 in
theorem walk_big (a : Option Addr) (len cap : Nat) (w : World) (hl : 1048576 < len) (hm : len ≤ 9223372036854775807) :
    Calls Try.prog 3 #[.slice a len cap] w fun e w' => e = .returned (.bool true) ∧ Below w.heap.size w w' := by
  go_enter Try.func3, Try.ntmps3
  go_wp2
  go_ret
  exact ⟨rfl, Below.refl _ _⟩

theorem laidOut : laidOutB Try.prog = true := by kernel_rfl

theorem contract (H : Type) (enc : TypeId × Value → H) (W : World) (base : Nat) (args : Array Value) (ds gs : List (DataW H)) (before : List MemPlace)
    (hval : ∀ (j : Nat) t v, Try.f3.params[j]? = some t → args[j]? = some v → Value.okWide Try.prog W .any base t v)
    (hW : DataW.Whole enc Try.prog Try.f3.params.toList Rows.fnBoundsSpec.vars false W args.toList ds gs before) :
    Calls Try.prog 3 args W fun e W' => ∃ v, e = .returned v ∧ Rows.fnBoundsSpec.post enc Try.prog Try.f3 false true false false W args v W' := by
  have hW' := hW
  obtain ⟨p, q, hA0, hV, rfl, hfz, hnd⟩ := hW
  have hA : DataW.TrodAll enc Try.prog W 0 (fun _ => true) true Try.f3.params.toList args.toList ds p := hA0
  rw [Try.params3] at hA hval
  obtain ⟨v0, vs0, d0, ds0, p0, q0, hargs, rfl, rfl, h0, r0⟩ := trodAll_cons hA
  obtain ⟨rfl, rfl, rfl⟩ := trodAll_nil r0
  obtain rfl : args = #[v0] := by cases args; simp_all
  obtain ⟨rfl, rfl⟩ := trodVars_none hV
  obtain ⟨a, len, cap, rfl⟩ := okWide_slice Try.underlying22 (hval 0 22 v0 rfl rfl)
  have lt0 : ∀ x ∈ p0, x.block < W.heap.size := by obtain ⟨m, hm⟩ := h0; exact DataW.trod_lt m _ _ _ hm
  obtain ⟨hc, hm⟩ := code_of h0
  have all : Calls Try.prog 3 #[.slice a len cap] W fun e w' => e = .returned (.bool true) ∧ Below W.heap.size W w' := by
    by_cases hl : len ≤ 1048576
    · exact walk a len cap W hl hc
    · exact walk_big a len cap W (by omega) hm
  refine all.mono fun e W' ⟨he, bel⟩ => ?_
  subst he
  exact ⟨_, rfl, law_post (pa := _) (pv := []) hW' (trodAll_cons_mk (shut_bool Try.underlying4 _) trodAll_mk0) (trodAll_cons_mk (Below.trod laidOut (by kernel_rfl) (of_decide_eq_true (by kernel_rfl)) h0 bel lt0) trodAll_mk0) rfl rfl bel⟩


set_option maxRecDepth 100000 in
theorem lifted (os : Os) (started : os.Started) (H : Type) (enc : TypeId × Value → H) :
    ReturnsInHanded {} Try.checked os 3 .any (Rows.fnBoundsSpec.pre6 enc Try.prog Try.f3 Rows.fnBoundsRow.domain false) (Rows.fnBoundsSpec.post enc Try.prog Try.f3 false true false false) := by
  refine returnsInHanded_of_change (C := Try.checked) own started (by kernel_rfl) Try.func3
    (ChangeSpec.witness6 (enc := enc) (C := Try.checked) false ⟨#[], #[.slice none 0 0], []⟩ 8 (by kernel_rfl) (by kernel_rfl) (by kernel_rfl) (by kernel_rfl)) ?_
  intro W base args ds gs before hval hW _ _
  exact contract H enc W base args ds gs before hval hW

/-- The given statement. -/
theorem proved : Rows.FnBoundsSaid :=
  OpenClaim.holds_of_wide 3 Try.f3 rfl rfl rfl rfl rfl rfl rfl ⟨rfl, rfl, rfl, rfl, rfl⟩ rfl rfl rfl rfl rfl (by kernel_rfl) Try.func3 (by kernel_rfl)
    (of_decide_eq_true (by kernel_rfl)) (by unfold Func.isWrapper; first | (rw [if_pos (by decide +kernel)]; kernel_rfl) | (rw [if_neg (by decide +kernel)]; exact ⟨rfl, rfl⟩))
    (fun os started H enc _ => lifted os started H enc)
#print axioms proved
end Go.Proofs.Ytpmfijaclncfhaa.fnBounds

/-
  For every code of bytes, laws.FnLead returns true: LeadOf, AutosIn and FreeOf are the model's, and LeadOf answers 50, 30, 25 at three places; the code reads as before. Conditions: none.
-/
import Derived.Test.YtcnmchcleghcgaaCodeIn
import Derived.Test.YtcnmchcleghcgaaLgD
import Derived.Test.YtcnmchcleghcgaaLgA
import Derived.Test.YtcnmchcleghcgaaLgL
namespace Go.Proofs.Ytcnmchcleghcgaa.fnLead
open Go.ChangeShapes Go.WideShapes Go.ChangeAt Go.RowKit
set_option linter.unusedVariables false
set_option linter.unusedSimpArgs false
set_option maxRecDepth 20000

theorem ld_a : ldV 100 1 3 = 50 := by decide +kernel
theorem ld_b : ldV 90 2 6 = 30 := by decide +kernel
theorem ld_c : ldV 100 2 5 = 25 := by decide +kernel
set_option maxRecDepth 100000 in
set_option maxHeartbeats 8000000 in
theorem walk (a : Option Addr) (len cap : Nat) (w : World) (hl : len ≤ 1048576) (hc : Code w a len) :
    Calls Try.prog 4 #[.slice a len cap] w fun e w' => e = .returned (.bool true) ∧ Below w.heap.size w w' := by
  have HC := Lib.hid hc
  go_enter Try.func4, Try.ntmps4
  go_wp2_with (first | (go_at_call 21; refine (draw_leadof a len cap w hl hc).mono ?_; rintro e w1 ⟨free, many, js, rfl, f0, f1, b1⟩) | (go_at_call 12; go_in))
  have B1 := Lib.hid b1
  have KI := Lib.hid (fun w' => ilead free many js w' f0 f1)
  have KS := Lib.hid (fun w' => slead free many js w' f0 f1)
  obtain ⟨L, eL⟩ : ∃ L, L = ldV free many js := ⟨_, rfl⟩
  rw [← eL] at KI KS
  clear b1 hc eL
  (try dsimp only)
  go_wp2_with (fail)
  refine (KI.out w1).mono ?_
  rintro e w2 ⟨rfl, b2⟩
  have B2 := Lib.hid (B1.out.trans (b2.mono B1.out.size))
  clear b2 B1 KI
  (try dsimp only)
  go_wp2_with (fail)
  refine (draw_autosin a len cap w2 hl (HC.out.below B2.out)).mono ?_
  rintro e w3 ⟨v, xs, rfl, hxl, hx, hr, b3⟩
  obtain ⟨ax, cx, rfl, hz⟩ := hr.slice hx
  have HZ3 := Lib.hid hz
  have B3 := Lib.hid (B2.out.trans (b3.mono B2.out.size))
  clear hx hr hz b3 B2
  (try dsimp only)
  go_wp2_with (fail)
  refine (draw_freeof a len cap w3 hl (HC.out.below B3.out)).mono ?_
  rintro e w4 ⟨v4, ys, u4, zs, gap, inner, rfl, hyl, hy, hry, hza, hzl, hrz, b4⟩
  obtain ⟨ay, cy, rfl, hzy⟩ := hry.slice hy
  obtain ⟨az, cz, rfl, hzz⟩ := hrz.slice hza
  have HZ4 := Lib.hid (HZ3.out.below b4)
  have HY4 := Lib.hid hzy
  have HS4 := Lib.hid hzz
  have B4 := Lib.hid (B3.out.trans (b4.mono B3.out.size))
  clear hy hry hza hrz hzy hzz b4 B3 HZ3
  (try dsimp only)
  go_wp2_with (fail)
  refine (KS.out w4).mono ?_
  rintro e w5 ⟨rfl, b5⟩
  have B5 := Lib.hid (B4.out.trans (b5.mono B4.out.size))
  have HZ5 := Lib.hid (HZ4.out.below b5)
  have HY5 := Lib.hid (HY4.out.below b5)
  have HS5 := Lib.hid (HS4.out.below b5)
  clear b5 B4 HZ4 HY4 HS4 KS
  obtain ⟨A, eA⟩ : ∃ A : Int, A = ((auN xs xs.length : Nat) : Int) := ⟨_, rfl⟩
  have K6 := Lib.hid (iautos ax cx xs w5 HZ5.out (by omega))
  rw [← eA] at K6
  (try dsimp only)
  go_wp2_with (fail)
  refine K6.out.mono ?_
  rintro e w6 ⟨rfl, b6⟩
  have B6 := Lib.hid (B5.out.trans (b6.mono B5.out.size))
  have HY6 := Lib.hid (HY5.out.below b6)
  have HS6 := Lib.hid (HS5.out.below b6)
  have K7 := Lib.hid (sautos ax cx xs w6 (HZ5.out.below b6) (by omega))
  rw [← eA] at K7
  clear b6 B5 HZ5 HY5 HS5 K6
  (try dsimp only)
  go_wp2_with (fail)
  refine K7.out.mono ?_
  rintro e w7 ⟨rfl, b7⟩
  have B7 := Lib.hid (B6.out.trans (b7.mono B6.out.size))
  have HY7 := Lib.hid (HY6.out.below b7)
  have HS7 := Lib.hid (HS6.out.below b7)
  clear b7 B6 HY6 HS6 K7 eA
  obtain ⟨R, eR⟩ : ∃ R, R = frA ys zs gap inner := ⟨_, rfl⟩
  have K8 := Lib.hid (ifree ay cy ys az zs.length cz zs gap inner w7 HY7.out (by omega) HS7.out (by omega))
  rw [← eR] at K8
  (try dsimp only)
  go_wp2_with (fail)
  refine K8.out.mono ?_
  rintro e w8 ⟨rfl, b8⟩
  have B8 := Lib.hid (B7.out.trans (b8.mono B7.out.size))
  have K9 := Lib.hid (sfree15 ay cy ys az zs.length cz zs gap inner w8 (HY7.out.below b8) (by omega) (HS7.out.below b8) (by omega))
  rw [← eR] at K9
  clear b8 B7 HY7 HS7 K8 eR
  (try dsimp only)
  go_wp2_with (fail)
  refine K9.out.mono ?_
  rintro e w9 ⟨rfl, b9⟩
  have B9 := Lib.hid (B8.out.trans (b9.mono B8.out.size))
  clear b9 B8 K9
  have K10 := Lib.hid (ilead 100 1 3 w9 (by omega) (by omega))
  rw [ld_a] at K10
  (try dsimp only)
  go_wp2_with (fail)
  refine K10.out.mono ?_
  rintro e w10 ⟨rfl, b10⟩
  have B10 := Lib.hid (B9.out.trans (b10.mono B9.out.size))
  clear b10 B9 K10
  have K11 := Lib.hid (ilead 90 2 6 w10 (by omega) (by omega))
  rw [ld_b] at K11
  (try dsimp only)
  go_wp2_with (fail)
  refine K11.out.mono ?_
  rintro e w11 ⟨rfl, b11⟩
  have B11 := Lib.hid (B10.out.trans (b11.mono B10.out.size))
  clear b11 B10 K11
  have K12 := Lib.hid (ilead 100 2 5 w11 (by omega) (by omega))
  rw [ld_c] at K12
  (try dsimp only)
  go_wp2_with (fail)
  refine K12.out.mono ?_
  rintro e w12 ⟨rfl, b12⟩
  have B12 := Lib.hid (B11.out.trans (b12.mono B11.out.size))
  clear b12 B11 K12
  (try dsimp only)
  go_wp2
  go_ret
  exact ⟨rfl, B12.out⟩

set_option maxRecDepth 100000 in
theorem walk_big (a : Option Addr) (len cap : Nat) (w : World) (hl : 1048576 < len) (hm : len ≤ 9223372036854775807) :
    Calls Try.prog 4 #[.slice a len cap] w fun e w' => e = .returned (.bool true) ∧ Below w.heap.size w w' := by
  go_enter Try.func4, Try.ntmps4
  go_wp2
  go_ret
  exact ⟨rfl, Below.refl _ _⟩

theorem laidOut : laidOutB Try.prog = true := by kernel_rfl

theorem contract (H : Type) (enc : TypeId × Value → H) (W : World) (base : Nat) (args : Array Value) (ds gs : List (DataW H)) (before : List MemPlace)
    (hval : ∀ (j : Nat) t v, Try.f4.params[j]? = some t → args[j]? = some v → Value.okWide Try.prog W .any base t v)
    (hW : DataW.Whole enc Try.prog Try.f4.params.toList Rows.fnLeadSpec.vars false W args.toList ds gs before) :
    Calls Try.prog 4 args W fun e W' => ∃ v, e = .returned v ∧ Rows.fnLeadSpec.post enc Try.prog Try.f4 false true false false W args v W' := by
  have hW' := hW
  obtain ⟨p, q, hA0, hV, rfl, hfz, hnd⟩ := hW
  have hA : DataW.TrodAll enc Try.prog W 0 (fun _ => true) true Try.f4.params.toList args.toList ds p := hA0
  rw [Try.params4] at hA hval
  obtain ⟨v0, vs0, d0, ds0, p0, q0, hargs, rfl, rfl, h0, r0⟩ := trodAll_cons hA
  obtain ⟨rfl, rfl, rfl⟩ := trodAll_nil r0
  obtain rfl : args = #[v0] := by cases args; simp_all
  obtain ⟨rfl, rfl⟩ := trodVars_none hV
  obtain ⟨a, len, cap, rfl⟩ := okWide_slice Try.underlying22 (hval 0 22 v0 rfl rfl)
  have lt0 : ∀ x ∈ p0, x.block < W.heap.size := by obtain ⟨m, hm⟩ := h0; exact DataW.trod_lt m _ _ _ hm
  obtain ⟨hc, hm⟩ := code_of h0
  have all : Calls Try.prog 4 #[.slice a len cap] W fun e w' => e = .returned (.bool true) ∧ Below W.heap.size W w' := by
    by_cases hl : len ≤ 1048576
    · exact walk a len cap W hl hc
    · exact walk_big a len cap W (by omega) hm
  refine all.mono fun e W' ⟨he, bel⟩ => ?_
  subst he
  exact ⟨_, rfl, law_post (pa := _) (pv := []) hW' (trodAll_cons_mk (shut_bool Try.underlying4 _) trodAll_mk0) (trodAll_cons_mk (Below.trod laidOut (by kernel_rfl) (of_decide_eq_true (by kernel_rfl)) h0 bel lt0) trodAll_mk0) rfl rfl bel⟩


set_option maxRecDepth 100000 in
theorem lifted (os : Os) (started : os.Started) (H : Type) (enc : TypeId × Value → H) :
    ReturnsInHanded {} Try.checked os 4 .any (Rows.fnLeadSpec.pre6 enc Try.prog Try.f4 Rows.fnLeadRow.domain false) (Rows.fnLeadSpec.post enc Try.prog Try.f4 false true false false) := by
  refine returnsInHanded_of_change (C := Try.checked) own started (by kernel_rfl) Try.func4
    (ChangeSpec.witness6 (enc := enc) (C := Try.checked) false ⟨#[], #[.slice none 0 0], []⟩ 8 (by kernel_rfl) (by kernel_rfl) (by kernel_rfl) (by kernel_rfl)) ?_
  intro W base args ds gs before hval hW _ _
  exact contract H enc W base args ds gs before hval hW

/-- The given statement. -/
theorem proved : Rows.FnLeadSaid :=
  OpenClaim.holds_of_wide 4 Try.f4 rfl rfl rfl rfl rfl rfl rfl ⟨rfl, rfl, rfl, rfl, rfl⟩ rfl rfl rfl rfl rfl (by kernel_rfl) Try.func4 (by kernel_rfl)
    (of_decide_eq_true (by kernel_rfl)) (by unfold Func.isWrapper; first | (rw [if_pos (by decide +kernel)]; kernel_rfl) | (rw [if_neg (by decide +kernel)]; exact ⟨rfl, rfl⟩))
    (fun os started H enc _ => lifted os started H enc)
#print axioms proved
end Go.Proofs.Ytcnmchcleghcgaa.fnLead

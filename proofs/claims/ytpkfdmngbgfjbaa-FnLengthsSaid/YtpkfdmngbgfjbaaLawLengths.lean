/-
  For every code of bytes, laws.FnLengths returns true: what is divided is rounded down, what is within is within and the least wins, nothing is above the ceiling; the code reads as before. Conditions: none.
-/
import Derived.Test.YtpkfdmngbgfjbaaPlAt
import Derived.Test.YtpkfdmngbgfjbaaCodeIn
import Derived.Test.YtpkfdmngbgfjbaaDr2
import Derived.Test.YtpkfdmngbgfjbaaWit
import Derived.Test.YtpkfdmngbgfjbaaFdiv
namespace Go.Proofs.Ytpkfdmngbgfjbaa.fnLengths
open Go.ChangeShapes Go.WideShapes Go.ChangeAt Go.RowKit

theorem icl_id (n : Int) (w : World) (h0 : 0 ≤ n) (h1 : n ≤ 1048576) :
    Calls Try.prog 19 #[.int .i64 n] w fun e w' => e = .returned (.int .i64 n) ∧ w' = w := by
  have h := iclamped n w
  rwa [clI_id h0 h1] at h
theorem ipart_id (k : Int) (w : World) (h0 : 0 ≤ k) (h1 : k ≤ 9999) :
    Calls Try.prog 20 #[.int .i64 1000, .int .i64 k, .int .i64 100] w fun e w' => e = .returned (.int .i64 (fdI (1000 * k) 100)) ∧ w' = w := by
  have h := ipart_any 1000 k 100 w
  rwa [lenI_id (by omega) (by omega), cntI_id h0 (by omega), cntI_id (by omega) (by omega)] at h
set_option maxRecDepth 100000 in
set_option maxHeartbeats 2000000 in
theorem walk (a : Option Addr) (len cap : Nat) (w : World) (hl : len ≤ 1048576) (hc : Code w a len) :
    Calls Try.prog 3 #[.slice a len cap] w fun e w' => e = .returned (.bool true) ∧ Below w.heap.size w w' := by
  go_enter Try.func3, Try.ntmps3
  go_wp2_with (first | (go_at_call 11; refine (places_any a len cap w hl hc).mono ?_; rintro e w1 ⟨v, xs, rfl, hxl, hin, hown, hb1⟩) | go_in)
  obtain ⟨g, cp, rfl, hg0, hg1, hcell⟩ := own_places hown (by omega)
  rw [hxl] at hcell ⊢
  have c0 := hcell 0 (by omega)
  have c1 := hcell 1 (by omega)
  have c2 := hcell 2 (by omega)
  have c3 := hcell 3 (by omega)
  have b0 := place_in hin 0
  have b1 := place_in hin 1
  have b2 := place_in hin 2
  have b3 := place_in hin 3
  generalize xs.getD 0 0 = x0 at *
  generalize xs.getD 1 0 = x1 at *
  generalize xs.getD 2 0 = x2 at *
  generalize xs.getD 3 0 = x3 at *
  clear hcell hxl hown hin
  have r1 : IntKind.i64.wrap (x0 * 100) = x0 * 100 := IntWalk.i64_in _ (by omega)
  have r2 : IntKind.i64.wrap (x0 * 100 + x1) = x0 * 100 + x1 := IntWalk.i64_in _ (by omega)
  have r3 : IntKind.i64.wrap (x0 * 100 + x1 - 300000) = x0 * 100 + x1 - 300000 := IntWalk.i64_in _ (by omega)
  go_wp2
  go_quiet (fail)
  clear r1 r2 r3
  have hA0 : -300000 ≤ x0 * 100 + x1 - 300000 := by omega
  have hA1 : x0 * 100 + x1 - 300000 ≤ 1000000 := by omega
  generalize x0 * 100 + x1 - 300000 = A at *
  go_wp2_with (fail)
  have hB0 : 1 ≤ 1 + x2 % 97 := by omega
  have hB1 : 1 + x2 % 97 ≤ 97 := by omega
  generalize hBe : 1 + x2 % 97 = B at *
  clear hBe
  refine (ifd_any A B _ (by omega) (by omega)).mono ?_
  rintro e w2 ⟨rfl, hw2⟩
  have hq := fdI_le (a := A) hB0
  have hq2 : -1000000 ≤ fdI A B ∧ fdI A B ≤ 1000000 := by
    unfold fdI
    rw [if_neg (by omega)]
    by_cases hA : 0 ≤ A
    · have h2 := Int.ediv_le_self B hA
      have h3 := Int.ediv_nonneg hA (show 0 ≤ B by omega)
      omega
    · have h2 : A ≤ A / B := by
        rw [Int.le_ediv_iff_mul_le (by omega)]
        have := Int.mul_le_mul_of_nonpos_left (show A ≤ 0 by omega) hB0
        omega
      have h3 := Int.ediv_neg_of_neg_of_pos (show A < 0 by omega) (show 0 < B by omega)
      omega
  generalize fdI A B = q at *
  have hb2 : Below w.heap.size w w2 := by rw [hw2]; exact hb1.trans ((below_drawn w1 _).mono hb1.size)
  have hg2 : g < w2.heap.size := by rw [hw2]; exact hg1
  have k3 : w2.cell? ⟨g, 3, none⟩ = some (.int .i64 x3) := by rw [hw2]; exact c3
  clear c0 c1 c2 c3 hw2 hb1 hg1 b0 b1 b2
  have HB2 := Lib.hid hb2
  have HQ := Lib.hid hq
  clear hq
  go_wp2_with (fail)
  refine (draw_within a len cap w2 hl (hc.below hb2)).mono ?_
  rintro e w3 ⟨n, least, most, rfl, hn, hle, hmo, hb3⟩
  have k33 : w3.cell? ⟨g, 3, none⟩ = some (.int .i64 x3) := (hb3.cell (p := ⟨g, 3, none⟩) hg2).trans k3
  have hg3 : g < w3.heap.size := Nat.lt_of_lt_of_le hg2 hb3.size
  have hb23 : Below w.heap.size w w3 := hb2.trans (hb3.mono hb2.size)
  clear k3 hg2 hb2 hb3 HB2
  go_wp2_with (fail)
  refine (iwit_any n least most w3).mono ?_
  rintro e w4 ⟨rfl, rfl⟩
  go_wp2_with (fail)
  refine (draw_addlen a len cap w4 hl (hc.below hb23)).mono ?_
  rintro e w5 ⟨x, y, rfl, hx, hy, hb5⟩
  have k5 : w5.cell? ⟨g, 3, none⟩ = some (.int .i64 x3) := (hb5.cell (p := ⟨g, 3, none⟩) hg3).trans k33
  have hb25 : Below w.heap.size w w5 := hb23.trans (hb5.mono hb23.size)
  clear k33 hg3 hb23 hb5
  go_wp2_with (fail)
  refine (iadd_any x y w5).mono ?_
  rintro e w6 ⟨rfl, rfl⟩
  have hs := clI_in (lenI x + lenI y)
  have hge := wiI_ge n least most
  have hle2 := wiI_le n least most
  have hqb := HQ.out
  have r1 : IntKind.i64.wrap (q * B) = q * B := IntWalk.i64_in _ (by omega)
  have r2 : IntKind.i64.wrap (q * B + B) = q * B + B := IntWalk.i64_in _ (by omega)
  have r3 : IntKind.i64.wrap (1000 * x3) = 1000 * x3 := IntWalk.i64_in _ (by omega)
  have hm1 : fdI (-1) 2 = -1 := rfl
  have hidx : (0 : Int) ≤ 3 ∧ (3 : Int) < 12 := by omega
  have hx30 : 0 ≤ x3 := b3.1
  have hx31 : x3 ≤ 9999 := b3.2
  have hs0 := hs.1
  have hs1 := hs.2
  go_wp2_with (fail)
  have hsw : ∀ W : World, Calls Try.prog 17 #[.int .i64 n, .int .i64 least, .int .i64 most] W fun e w' => e = .returned (.int .i64 (wiI n least most)) ∧ w' = W := fun W => swit_any n least most W
  have hsa : ∀ W : World, Calls Try.prog 18 #[.int .i64 x, .int .i64 y] W fun e w' => e = .returned (.int .i64 (clI (lenI x + lenI y))) ∧ w' = W := fun W => sadd_any x y W
  generalize clI (lenI x + lenI y) = s at *
  generalize wiI n least most = v at *
  have p1 : q * B ≤ A := hqb.1
  have p2 : A < q * B + B := hqb.2
  have t1 : decide (q * B ≤ A) = true := decide_eq_true p1
  have t2 : decide (A < q * B + B) = true := decide_eq_true p2
  have t3 : decide (least ≤ v) = true := decide_eq_true hge
  have t4 : decide (0 ≤ s) = true := decide_eq_true hs0
  have t5 : decide (s ≤ 1048576) = true := decide_eq_true hs1
  clear HQ hqb hs hn hmo hle hx hy hc hl hidx hq2
  simp only [List.append_eq, List.cons_append, List.nil_append]
  by_cases h1 : v ≤ most
  · have t6 : decide (v ≤ most) = true := decide_eq_true h1
    go_quiet (first
      | (go_at_call 17; exact Calls.quiet_of_same (hsw _))
      | (go_at_call 18; exact Calls.quiet_of_same (hsa _))
      | (go_at_call 19; exact Calls.quiet_of_same (icl_id s _ hs0 hs1))
      | (go_at_call 20; exact Calls.quiet_of_same (ipart_id x3 _ hx30 hx31))
      | (go_at_call 12; exact Calls.quiet_of_same (ifd_any _ _ _ (by omega) (by omega)))
      | fail)
    go_wp2
    go_ret
    exact ⟨rfl, hb25.trans ((below_drawn w6 _).mono hb25.size)⟩
  · have t6 : decide (v ≤ most) = false := decide_eq_false h1
    by_cases h2 : most < 0
    · have t7 : decide (most < 0) = true := decide_eq_true h2
      go_quiet (first
      | (go_at_call 17; exact Calls.quiet_of_same (hsw _))
      | (go_at_call 18; exact Calls.quiet_of_same (hsa _))
      | (go_at_call 19; exact Calls.quiet_of_same (icl_id s _ hs0 hs1))
      | (go_at_call 20; exact Calls.quiet_of_same (ipart_id x3 _ hx30 hx31))
      | (go_at_call 12; exact Calls.quiet_of_same (ifd_any _ _ _ (by omega) (by omega)))
      | fail)
      go_wp2
      go_ret
      exact ⟨rfl, hb25.trans ((below_drawn w6 _).mono hb25.size)⟩
    · have t7 : decide (most < 0) = false := decide_eq_false h2
      obtain rfl : v = least := by rcases hle2 with h | h | h
                                   · exact absurd h h1
                                   · exact absurd h h2
                                   · exact h
      go_quiet (first
      | (go_at_call 17; exact Calls.quiet_of_same (hsw _))
      | (go_at_call 18; exact Calls.quiet_of_same (hsa _))
      | (go_at_call 19; exact Calls.quiet_of_same (icl_id s _ hs0 hs1))
      | (go_at_call 20; exact Calls.quiet_of_same (ipart_id x3 _ hx30 hx31))
      | (go_at_call 12; exact Calls.quiet_of_same (ifd_any _ _ _ (by omega) (by omega)))
      | fail)
      go_wp2
      go_ret
      exact ⟨rfl, hb25.trans ((below_drawn w6 _).mono hb25.size)⟩

set_option maxRecDepth 100000 in
theorem walk_big (a : Option Addr) (len cap : Nat) (w : World) (hl : 1048576 < len) (hm : len ≤ 9223372036854775807) :
    Calls Try.prog 3 #[.slice a len cap] w fun e w' => e = .returned (.bool true) ∧ Below w.heap.size w w' := by
  go_enter Try.func3, Try.ntmps3
  go_wp2
  go_ret
  exact ⟨rfl, Below.refl _ _⟩

theorem laidOut : laidOutB Try.prog = true := by kernel_rfl

theorem contract (H : Type) (enc : TypeId × Value → H) (W : World) (base : Nat) (args : Array Value) (ds gs : List (DataW H)) (before : List MemPlace)
    (hval : ∀ (j : Nat) t v, Try.f3.params[j]? = some t → args[j]? = some v → Value.okWide Try.prog W .any base t v)
    (hW : DataW.Whole enc Try.prog Try.f3.params.toList Rows.fnLengthsSpec.vars false W args.toList ds gs before) :
    Calls Try.prog 3 args W fun e W' => ∃ v, e = .returned v ∧ Rows.fnLengthsSpec.post enc Try.prog Try.f3 false true false false W args v W' := by
  have hW' := hW
  obtain ⟨p, q, hA0, hV, rfl, hfz, hnd⟩ := hW
  have hA : DataW.TrodAll enc Try.prog W 0 (fun _ => true) true Try.f3.params.toList args.toList ds p := hA0
  rw [Try.params3] at hA hval
  obtain ⟨v0, vs0, d0, ds0, p0, q0, hargs, rfl, rfl, h0, r0⟩ := trodAll_cons hA
  obtain ⟨rfl, rfl, rfl⟩ := trodAll_nil r0
  obtain rfl : args = #[v0] := by cases args; simp_all
  obtain ⟨rfl, rfl⟩ := trodVars_none hV
  obtain ⟨a, len, cap, rfl⟩ := okWide_slice Try.underlying22 (hval 0 22 v0 rfl rfl)
  have lt0 : ∀ x ∈ p0, x.block < W.heap.size := by obtain ⟨m, hm⟩ := h0; exact DataW.trod_lt m _ _ _ hm
  obtain ⟨hc, hm⟩ := code_of h0
  have all : Calls Try.prog 3 #[.slice a len cap] W fun e w' => e = .returned (.bool true) ∧ Below W.heap.size W w' := by
    by_cases hl : len ≤ 1048576
    · exact walk a len cap W hl hc
    · exact walk_big a len cap W (by omega) hm
  refine all.mono fun e W' ⟨he, bel⟩ => ?_
  subst he
  exact ⟨_, rfl, law_post (pa := _) (pv := []) hW' (trodAll_cons_mk (shut_bool Try.underlying4 _) trodAll_mk0) (trodAll_cons_mk (Below.trod laidOut (by kernel_rfl) (of_decide_eq_true (by kernel_rfl)) h0 bel lt0) trodAll_mk0) rfl rfl bel⟩


set_option maxRecDepth 100000 in
theorem lifted (os : Os) (started : os.Started) (H : Type) (enc : TypeId × Value → H) :
    ReturnsInHanded {} Try.checked os 3 .any (Rows.fnLengthsSpec.pre6 enc Try.prog Try.f3 Rows.fnLengthsRow.domain false) (Rows.fnLengthsSpec.post enc Try.prog Try.f3 false true false false) := by
  refine returnsInHanded_of_change (C := Try.checked) own started (by kernel_rfl) Try.func3
    (ChangeSpec.witness6 (enc := enc) (C := Try.checked) false ⟨#[], #[.slice none 0 0], []⟩ 8 (by kernel_rfl) (by kernel_rfl) (by kernel_rfl) (by kernel_rfl)) ?_
  intro W base args ds gs before hval hW _ _
  exact contract H enc W base args ds gs before hval hW

/-- The given statement. -/
theorem proved : Rows.FnLengthsSaid :=
  OpenClaim.holds_of_wide 3 Try.f3 rfl rfl rfl rfl rfl rfl rfl ⟨rfl, rfl, rfl, rfl, rfl⟩ rfl rfl rfl rfl rfl (by kernel_rfl) Try.func3 (by kernel_rfl)
    (of_decide_eq_true (by kernel_rfl)) (by unfold Func.isWrapper; first | (rw [if_pos (by decide +kernel)]; kernel_rfl) | (rw [if_neg (by decide +kernel)]; exact ⟨rfl, rfl⟩))
    (fun os started H enc _ => lifted os started H enc)
#print axioms proved
end Go.Proofs.Ytpkfdmngbgfjbaa.fnLengths

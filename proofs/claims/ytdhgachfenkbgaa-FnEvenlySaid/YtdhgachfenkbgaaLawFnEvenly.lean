/-
  For every code of bytes, laws.FnEvenly returns true: even shares differ by at most 1 and add up to the whole; sizes are scaled by their factors; the code reads as before. Conditions: none.
-/
import Derived.Test.YtdhgachfenkbgaaCodeIn
import Derived.Test.YtdhgachfenkbgaaDr3
import Derived.Test.YtdhgachfenkbgaaEvT
import Derived.Test.YtdhgachfenkbgaaSame
import Derived.Test.YtdhgachfenkbgaaScI
import Derived.Test.YtdhgachfenkbgaaScS
import Derived.Test.YtdhgachfenkbgaaWant
namespace Go.Proofs.Ytdhgachfenkbgaa.fnEvenly
open Go.ChangeShapes Go.WideShapes Go.ChangeAt Go.RowKit
set_option maxRecDepth 20000

set_option maxRecDepth 100000 in
set_option maxHeartbeats 2000000 in
theorem walk (a : Option Addr) (len cap : Nat) (w : World) (hl : len ≤ 1048576) (hc : Code w a len) :
    Calls Try.prog 7 #[.slice a len cap] w fun e w' => e = .returned (.bool true) ∧ Below w.heap.size w w' := by
  go_enter Try.func7, Try.ntmps7
  go_wp2_with (first | (go_at_call 49; refine (draw_evenly a len cap w hl hc).mono ?_; rintro e w1 ⟨n, many, rfl, hn, hmany, b1⟩) | (go_at_call 8; go_in))
  have HC := Lib.hid hc
  have B1 := Lib.hid b1
  clear b1 hn hmany hc
  go_wp2_with (fail)
  refine (iev_any n many w1).mono ?_
  rintro e w2 ⟨v2, rfl, hr2, b2⟩
  have HXA := Lib.hid (evnL_all n many)
  have hxl := evnL_le n many
  obtain ⟨q, q0, q1, hq⟩ := evn_near n many
  have HQ := Lib.hid hq
  obtain ⟨ax, cx, rfl, hx2⟩ := hr2.slice HXA.out
  have HX2 := Lib.hid hx2
  have B2 := Lib.hid (B1.out.trans (b2.mono B1.out.size))
  clear hr2 hx2 b2 B1 hq
  go_wp2_with (fail)
  refine (sev_any n many w2).mono ?_
  rintro e w3 ⟨v3, rfl, hr3, b3⟩
  obtain ⟨a3, c3, rfl, hx3⟩ := hr3.slice HXA.out
  have HX3 := Lib.hid (HX2.out.below b3)
  have HY3 := Lib.hid hx3
  have B3 := Lib.hid (B2.out.trans (b3.mono B2.out.size))
  clear hr3 hx3 b3 HX2 B2
  generalize evnL n many = xs at *
  go_wp2_with (fail)
  refine (same_any ax a3 xs.length cx c3 xs w3 HX3.out HY3.out (by omega)).mono ?_
  rintro e w4 ⟨rfl, b4⟩
  have HX4 := Lib.hid (HX3.out.below b4)
  have B4 := Lib.hid (B3.out.trans (b4.mono B3.out.size))
  clear b4 HX3 HY3 B3
  go_wp2
  go_loopw [6] (fun i wr => ∃ k m : Nat, 1 ≤ k ∧ (k ≤ xs.length ∨ k = 1) ∧ i = .int .i64 k ∧ wr = w4.drewN m) (fun i _ => xs.length - (intOf i).toNat)
  case atStart => exact ⟨1, 0, by omega, by omega, rfl, rfl⟩
  case round =>
    obtain ⟨k, m, hk1, hk, rfl, rfl⟩ := hrel
    have HK := Lib.hid hk
    clear hk
    by_cases hlt : k < xs.length
    · obtain ⟨b, off, rfl, hbl, c1⟩ := HX4.out.look hlt
      obtain ⟨b0, off0, hba, hbl0, c0⟩ := HX4.out.look (show 0 < xs.length by omega)
      simp at hba
      obtain ⟨rfl, rfl⟩ := hba
      rw [Nat.add_zero] at c0
      have h1 := HQ.out k hlt
      have h0 := HQ.out 0 (by omega)
      have hlo : (0 : Int) ≤ (k : Int) := Int.natCast_nonneg _
      have hhi : (k : Int) < (xs.length : Int) := by omega
      have hhi0 : (0 : Int) < (xs.length : Int) := by omega
      generalize xs.getD k 0 = x at *
      generalize xs.getD 0 0 = y at *
      have r1 : IntKind.i64.wrap (x - y) = x - y := IntWalk.i64_in _ (by omega)
      go_wp2
      go_quiet (fail)
      go_wp2
      go_roundw
      case rel => exact ⟨k + 1, m + nq, by omega, by omega, by go_num, rfl⟩
      case measure => simp [intOf]; omega
    · have B5 := Lib.hid (B4.out.trans ((below_drawn w4 m).mono B4.out.size))
      clear HX4 B4
      generalize w4.drewN m = w5 at *
      go_wp2_with (fail)
      refine (draw_scaled a len cap w5 hl (HC.out.below B5.out)).mono ?_
      rintro e w6 ⟨vs, vf, ss, fs, rfl, hsl, hsa, hrs, hfl, hfa, hrf, b6⟩
      obtain ⟨asz, cs, rfl, hs6⟩ := hrs.slice hsa
      obtain ⟨af, cf, rfl, hf6⟩ := hrf.slice hfa
      have HS6 := Lib.hid hs6
      have HF6 := Lib.hid hf6
      have B6 := Lib.hid (B5.out.trans (b6.mono B5.out.size))
      clear hs6 hf6 hrs hrf hsa hfa b6 B5
      go_wp2_with (fail)
      refine (draw_wanting a len cap w6 hl (HC.out.below B6.out)).mono ?_
      rintro e w7 ⟨mm, vm, ms, rfl, hm0, hm1, hml, hma, hrm, b7⟩
      obtain ⟨am, cm, rfl, hm7⟩ := hrm.slice hma
      have HM7 := Lib.hid hm7
      have HS7 := Lib.hid (HS6.out.below b7)
      have HF7 := Lib.hid (HF6.out.below b7)
      have B7 := Lib.hid (B6.out.trans (b7.mono B6.out.size))
      clear hm7 hrm hma b7 HS6 HF6 B6
      go_wp2_with (fail)
      refine (isc_any asz ss.length cs ss af fs.length cf fs w7 HS7.out (by omega) HF7.out (by omega)).mono ?_
      rintro e w8 ⟨v8, rfl, hr8, b8⟩
      have HS8 := Lib.hid (HS7.out.below b8)
      have HF8 := Lib.hid (HF7.out.below b8)
      have HM8 := Lib.hid (HM7.out.below b8)
      have R8 := Lib.hid hr8
      have B8 := Lib.hid (B7.out.trans (b8.mono B7.out.size))
      clear hr8 b8 HS7 HF7 HM7 B7
      go_wp2_with (fail)
      refine (ssc_any asz ss.length cs ss af fs.length cf fs w8 HS8.out (by omega) HF8.out (by omega)).mono ?_
      rintro e w9 ⟨v9, rfl, hr9, b9⟩
      have HM9 := Lib.hid (HM8.out.below b9)
      have R89 := Lib.hid (R8.out.below b9)
      have R9 := Lib.hid hr9
      have B9 := Lib.hid (B8.out.trans (b9.mono B8.out.size))
      clear hr9 b9 HS8 HF8 HM8 B8 R8
      go_wp2_with (fail)
      refine (sameR_any _ _ v8 v9 (scL ss fs) w9 (scL_all ss fs) (by rw [scL_len]; omega) R89.out R9.out).mono ?_
      rintro e w10 ⟨rfl, b10⟩
      have HM10 := Lib.hid (HM9.out.below b10)
      have B10 := Lib.hid (B9.out.trans (b10.mono B9.out.size))
      clear b10 HM9 B9 R89 R9
      have ht := totK_in ms ms.length
      go_wp2_with (fail)
      have e1 : wrap64 (mm - totK ms ms.length) = mm - totK ms ms.length := IntWalk.wrap64_in _ (by omega)
      have hwant := iwant_any mm am ms.length cm ms w10 HM10.out (by omega)
      rw [e1] at hwant
      clear e1
      refine hwant.mono ?_
      clear hwant
      rintro e w11 ⟨rfl, rfl⟩
      go_wp2_with (fail)
      refine (stot_any am ms.length cm ms w11 HM10.out (by omega)).mono ?_
      rintro e w12 ⟨rfl, rfl⟩
      go_wp2_with (fail)
      refine (itot_any am ms.length cm ms w12 HM10.out (by omega)).mono ?_
      rintro e w13 ⟨rfl, rfl⟩
      go_wp2_with (fail)
      refine (stot_any am ms.length cm ms w13 HM10.out (by omega)).mono ?_
      rintro e w14 ⟨rfl, rfl⟩
      go_wp2_with (fail)
      refine (iev_any 10 3 w14).mono ?_
      rw [evn_ten]
      rintro e w16 ⟨v16, rfl, hr16, b16⟩
      obtain ⟨a16, c16, hv16, h16⟩ := hr16.slice (by unfold AllI; decide)
      have hv16' : v16 = .slice a16 3 c16 := hv16
      have h16' : Ints w16 a16 3 [3, 3, 4] := h16
      have B16 := Lib.hid (B10.out.trans (b16.mono B10.out.size))
      subst hv16'
      have H16 := Lib.hid h16'
      clear hr16 b16 h16 h16' hv16 HM10 B10
      go_wp2_with (fail)
      have hl25 := lit_ints w16 [3, 3, 4] (by decide)
      have bl25 : Below w16.heap.size w16 (w16.alloc (.cells ([3, 3, 4].map (Value.int .i64)).toArray 3)) := (Below.refl _ _).alloc (Nat.le_refl _) _
      refine (same_any _ _ 3 c16 3 [3, 3, 4] _ (H16.out.below bl25) hl25 (by omega)).mono ?_
      rintro e w17 ⟨rfl, b17⟩
      have B18 := Lib.hid (B16.out.trans (bl25.mono B16.out.size))
      have B17 := Lib.hid (B18.out.trans (b17.mono B18.out.size))
      clear hl25 bl25 b17 B18
      go_wp2
      go_ret
      exact ⟨rfl, B17.out⟩

set_option maxRecDepth 100000 in
theorem walk_big (a : Option Addr) (len cap : Nat) (w : World) (hl : 1048576 < len) (hm : len ≤ 9223372036854775807) :
    Calls Try.prog 7 #[.slice a len cap] w fun e w' => e = .returned (.bool true) ∧ Below w.heap.size w w' := by
  go_enter Try.func7, Try.ntmps7
  go_wp2
  go_ret
  exact ⟨rfl, Below.refl _ _⟩

theorem laidOut : laidOutB Try.prog = true := by kernel_rfl

theorem contract (H : Type) (enc : TypeId × Value → H) (W : World) (base : Nat) (args : Array Value) (ds gs : List (DataW H)) (before : List MemPlace)
    (hval : ∀ (j : Nat) t v, Try.f7.params[j]? = some t → args[j]? = some v → Value.okWide Try.prog W .any base t v)
    (hW : DataW.Whole enc Try.prog Try.f7.params.toList Rows.fnEvenlySpec.vars false W args.toList ds gs before) :
    Calls Try.prog 7 args W fun e W' => ∃ v, e = .returned v ∧ Rows.fnEvenlySpec.post enc Try.prog Try.f7 false true false false W args v W' := by
  have hW' := hW
  obtain ⟨p, q, hA0, hV, rfl, hfz, hnd⟩ := hW
  have hA : DataW.TrodAll enc Try.prog W 0 (fun _ => true) true Try.f7.params.toList args.toList ds p := hA0
  rw [Try.params7] at hA hval
  obtain ⟨v0, vs0, d0, ds0, p0, q0, hargs, rfl, rfl, h0, r0⟩ := trodAll_cons hA
  obtain ⟨rfl, rfl, rfl⟩ := trodAll_nil r0
  obtain rfl : args = #[v0] := by cases args; simp_all
  obtain ⟨rfl, rfl⟩ := trodVars_none hV
  obtain ⟨a, len, cap, rfl⟩ := okWide_slice Try.underlying22 (hval 0 22 v0 rfl rfl)
  have lt0 : ∀ x ∈ p0, x.block < W.heap.size := by obtain ⟨m, hm⟩ := h0; exact DataW.trod_lt m _ _ _ hm
  obtain ⟨hc, hm⟩ := code_of h0
  have all : Calls Try.prog 7 #[.slice a len cap] W fun e w' => e = .returned (.bool true) ∧ Below W.heap.size W w' := by
    by_cases hl : len ≤ 1048576
    · exact walk a len cap W hl hc
    · exact walk_big a len cap W (by omega) hm
  refine all.mono fun e W' ⟨he, bel⟩ => ?_
  subst he
  exact ⟨_, rfl, law_post (pa := _) (pv := []) hW' (trodAll_cons_mk (shut_bool Try.underlying4 _) trodAll_mk0) (trodAll_cons_mk (Below.trod laidOut (by kernel_rfl) (of_decide_eq_true (by kernel_rfl)) h0 bel lt0) trodAll_mk0) rfl rfl bel⟩


set_option maxRecDepth 100000 in
theorem lifted (os : Os) (started : os.Started) (H : Type) (enc : TypeId × Value → H) :
    ReturnsInHanded {} Try.checked os 7 .any (Rows.fnEvenlySpec.pre6 enc Try.prog Try.f7 Rows.fnEvenlyRow.domain false) (Rows.fnEvenlySpec.post enc Try.prog Try.f7 false true false false) := by
  refine returnsInHanded_of_change (C := Try.checked) own started (by kernel_rfl) Try.func7
    (ChangeSpec.witness6 (enc := enc) (C := Try.checked) false ⟨#[], #[.slice none 0 0], []⟩ 8 (by kernel_rfl) (by kernel_rfl) (by kernel_rfl) (by kernel_rfl)) ?_
  intro W base args ds gs before hval hW _ _
  exact contract H enc W base args ds gs before hval hW

/-- The given statement. -/
theorem proved : Rows.FnEvenlySaid :=
  OpenClaim.holds_of_wide 7 Try.f7 rfl rfl rfl rfl rfl rfl rfl ⟨rfl, rfl, rfl, rfl, rfl⟩ rfl rfl rfl rfl rfl (by kernel_rfl) Try.func7 (by kernel_rfl)
    (of_decide_eq_true (by kernel_rfl)) (by unfold Func.isWrapper; first | (rw [if_pos (by decide +kernel)]; kernel_rfl) | (rw [if_neg (by decide +kernel)]; exact ⟨rfl, rfl⟩))
    (fun os started H enc _ => lifted os started H enc)
#print axioms proved
end Go.Proofs.Ytdhgachfenkbgaa.fnEvenly

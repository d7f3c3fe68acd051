/-
  For all arguments, laws.FnExactCrossOf returns true: the function answers as its model, writes into no argument; the arguments read as before. Conditions: none.
-/
import Derived.Test.YtdpibpelghnihaaSaE
import Derived.Test.YtdpibpelghnihaaSaL
namespace Go.Proofs.Ytdpibpelghnihaa.fnExactCrossOf
open Go.ChangeShapes Go.WideShapes Go.ChangeAt Go.RowKit
set_option linter.unusedVariables false
set_option linter.unusedSimpArgs false

theorem walk_big_xs (axs : Option Addr) (capxs : Nat) (xs : List Sa) (w : World)  (hlxs : 1048576 < xs.length) (hmxs : xs.length ≤ 9223372036854775807) :
    Calls Try.prog 7 #[.slice axs xs.length capxs] w fun e w' => e = .returned (.bool true) ∧ Below w.heap.size w w' := by
  go_enter Try.func7, Try.ntmps7
  go_wp2_with (fail)
  refine (szsa_big axs xs.length capxs 1048576 _ (by omega) (by omega) hmxs).mono ?_
  rintro e w1 ⟨rfl, rfl⟩
  go_wp2
  go_ret
  exact ⟨rfl, Below.refl _ _⟩
set_option maxHeartbeats 4000000 in
theorem walk_small (axs : Option Addr) (capxs : Nat) (xs : List Sa) (w : World) (hzxs : Sas w axs xs) (hlxs : xs.length ≤ 1048576) :
    Calls Try.prog 7 #[.slice axs xs.length capxs] w fun e w' => e = .returned (.bool true) ∧ Below w.heap.size w w' := by
  have hrxs := hzxs.1
  have HZxs := Lib.hid hzxs
  clear hzxs
  have B0 := Lib.hid (Below.refl w.heap.size w)
  go_enter Try.func7, Try.ntmps7
  go_wp2_with (fail)
  refine (szsa_fit axs xs.length capxs 1048576 w (by omega) (by omega)).mono ?_
  rintro e w1 ⟨rfl, b1⟩
  replace b1 : Below w.heap.size w w1 := by rw [b1]; exact Below.refl _ _
  have B1 := Lib.hid (B0.out.trans (b1.mono B0.out.size))
  have S1 := Lib.hid b1.size
  clear b1
  go_wp2_with (fail)
  refine (tosas_any axs capxs xs w1 (HZxs.out.below B1.out) hlxs).mono ?_
  rintro e w2 ⟨rfl, r2, b2⟩
  have B2 := Lib.hid (B1.out.trans (b2.mono B1.out.size))
  have S2 := Lib.hid b2.size
  clear b2
  have Upxs := Lib.hid (World.ownsRow.lt r2)
  have Rpxs := Lib.hid r2
  clear r2
  go_wp2_with (fail)
  refine (scrossof _ _ xs w2 (Rpxs.out.its hrxs) (by omega)).mono ?_
  rintro e w3 ⟨rfl, b3⟩
  have Rpxs := Lib.hid (Rpxs.out.below b3)
  have B3 := Lib.hid (B2.out.trans (b3.mono B2.out.size))
  have S3 := Lib.hid b3.size
  clear b3
  clear Rpxs
  go_wp2_with (fail)
  refine (tosas_any axs capxs xs w3 (HZxs.out.below B3.out) hlxs).mono ?_
  rintro e w4 ⟨rfl, r4, b4⟩
  have B4 := Lib.hid (B3.out.trans (b4.mono B3.out.size))
  have S4 := Lib.hid b4.size
  clear b4
  have Uxxs := Lib.hid (World.ownsRow.lt r4)
  have Rxxs := Lib.hid r4
  clear r4
  go_wp2_with (fail)
  refine (icrossof _ _ xs w4 (Rxxs.out.its hrxs) (by omega)).mono ?_
  rintro e w5 ⟨rfl, b5⟩
  have Rxxs := Lib.hid (Rxxs.out.below b5)
  have B5 := Lib.hid (B4.out.trans (b5.mono B4.out.size))
  have S5 := Lib.hid b5.size
  clear b5
  generalize (coV xs) = ANSW at *
  go_wp2_with (fail)
  refine (tosas_any axs capxs xs w5 (HZxs.out.below B5.out) hlxs).mono ?_
  rintro e w6 ⟨rfl, r6, b6⟩
  have Rxxs := Lib.hid (Rxxs.out.below b6)
  have B6 := Lib.hid (B5.out.trans (b6.mono B5.out.size))
  have S6 := Lib.hid b6.size
  clear b6
  have Uq := Lib.hid (World.ownsRow.lt r6)
  have Rq := Lib.hid r6
  clear r6
  go_wp2_with (fail)
  refine (eqsas_any _ _ _ _ xs w6 (Rxxs.out.its hrxs) (Rq.out.its hrxs) (by have := hlxs; omega)).mono ?_
  rintro e w7 ⟨rfl, b7⟩
  have Rxxs := Lib.hid (Rxxs.out.below b7)
  have Rq := Lib.hid (Rq.out.below b7)
  have B7 := Lib.hid (B6.out.trans (b7.mono B6.out.size))
  have S7 := Lib.hid b7.size
  clear b7
  clear Rq
  go_wp2
  go_ret
  exact ⟨rfl, B7.out⟩
theorem walk (axs : Option Addr) (capxs : Nat) (xs : List Sa) (w : World) (hzxs : Sas w axs xs) (hmxs : xs.length ≤ 9223372036854775807) :
    Calls Try.prog 7 #[.slice axs xs.length capxs] w fun e w' => e = .returned (.bool true) ∧ Below w.heap.size w w' := by
  by_cases hlxs : 1048576 < xs.length
  · exact walk_big_xs axs capxs xs w  hlxs hmxs
  · exact walk_small axs capxs xs w hzxs (by omega)

theorem laidOut : laidOutB Try.prog = true := by kernel_rfl

set_option maxRecDepth 100000 in
theorem lifted (os : Os) (started : os.Started) (H : Type) (enc : TypeId × Value → H) :
    ReturnsInHanded {} Try.checked os 7 .any (Rows.fnExactCrossOfSpec.pre6 enc Try.prog Try.f7 Rows.fnExactCrossOfRow.domain false) (Rows.fnExactCrossOfSpec.post enc Try.prog Try.f7 false true false false) := by
  refine returnsInHanded_of_change (C := Try.checked) own started (by kernel_rfl) Try.func7
    (ChangeSpec.witness6 (enc := enc) (C := Try.checked) false ⟨#[], #[.slice none 0 0], []⟩ 8 (by kernel_rfl) (by kernel_rfl) (by kernel_rfl) (by kernel_rfl)) ?_
  intro W base args ds gs before hval0 hW hcnd _
  have hval : ∀ (j : Nat) t v, Try.f7.params[j]? = some t → args[j]? = some v → Value.okWide Try.prog W .any base t v := hval0
  have hW' := hW
  obtain ⟨p, q, hA0, hV, rfl, hfz, hnd⟩ := hW
  have hA : DataW.TrodAll enc Try.prog W 0 (fun _ => true) true Try.f7.params.toList args.toList ds p := hA0
  rw [Try.params7] at hA hval
  obtain ⟨v0, vs0, d0, ds0, p0, q0, hargs, rfl, rfl, h0, r0⟩ := trodAll_cons hA
  obtain ⟨rfl, rfl, rfl⟩ := trodAll_nil r0
  obtain rfl : args = #[v0] := by cases args; simp_all
  obtain ⟨rfl, rfl⟩ := trodVars_none hV
  have k0 := h0
  have lt0 : ∀ x ∈ p0, x.block < W.heap.size := by obtain ⟨m, hm⟩ := k0; exact DataW.trod_lt m _ _ _ hm
  obtain ⟨a0, len0, cap0, rfl⟩ := okWide_slice Try.underlying36 (hval 0 36 v0 rfl rfl)
  obtain ⟨z0, rfl, hz0, hm0⟩ := sasl_of h0
  clear hA0 hval0
  refine (walk a0 cap0 z0 W hz0 hm0).mono fun e W' ⟨he, bel⟩ => ?_
  subst he
  exact ⟨_, rfl, law_post (pa := _) (pv := []) hW' (trodAll_cons_mk (shut_bool Try.underlying4 _) trodAll_mk0) (trodAll_cons_mk (Below.trod laidOut (by kernel_rfl) (of_decide_eq_true (by kernel_rfl)) k0 bel lt0) trodAll_mk0) rfl rfl bel⟩

/-- The given statement. -/
theorem proved : Rows.FnExactCrossOfSaid :=
  OpenClaim.holds_of_wide 7 Try.f7 rfl rfl rfl rfl rfl rfl rfl ⟨rfl, rfl, rfl, rfl, rfl⟩ rfl rfl rfl rfl rfl (by kernel_rfl) Try.func7 (by kernel_rfl)
    (of_decide_eq_true (by kernel_rfl)) (by unfold Func.isWrapper; first | (rw [if_pos (by decide +kernel)]; kernel_rfl) | (rw [if_neg (by decide +kernel)]; exact ⟨rfl, rfl⟩))
    (fun os started H enc _ => lifted os started H enc)
#print axioms proved
end Go.Proofs.Ytdpibpelghnihaa.fnExactCrossOf

/-
  The laws' helpers eqRule, eqRuleS, eqTable on equals: true. Conditions: the length's bound.
-/
import Derived.Test.YtfnnfjpbplbjmaaRls
import Derived.Deep.QuietTactic
import Derived.BigQuiet
import Derived.Lib.QuietBelow
namespace Go.Proofs.Ytfnnfjpbplbjmaa
open Go.ChangeShapes Go.WideShapes Go.ChangeAt Go.RowKit
set_option linter.unusedVariables false

theorem eqrule_same (x y z : Int) (w : World) :
    Calls Try.prog 176 #[.agg #[.int .i64 x, .int .i64 y, .int .i64 z], .agg #[.int .i64 x, .int .i64 y, .int .i64 z]] w fun e w' => e = .returned (.bool true) ∧ Below w.heap.size w w' := by
  have h0 := hp_on (hp_new w (.cells #[.int .i64 x, .int .i64 y, .int .i64 z] 137)) (.cells #[.int .i64 x, .int .i64 y, .int .i64 z] 137)
  have h1 := hp_new (w.alloc (.cells #[.int .i64 x, .int .i64 y, .int .i64 z] 137)) (.cells #[.int .i64 x, .int .i64 y, .int .i64 z] 137)
  simp only [World.size_alloc] at h0 h1
  have c0 := Go.Joins.cell_of_block h0 0
  have c1 := Go.Joins.cell_of_block h0 1
  have c2 := Go.Joins.cell_of_block h0 2
  have d0 := Go.Joins.cell_of_block h1 0
  have d1 := Go.Joins.cell_of_block h1 1
  have d2 := Go.Joins.cell_of_block h1 2
  simp at c0 c1 c2 d0 d1 d2
  have bb := Go.Joins.below_alloc2 w (.cells #[.int .i64 x, .int .i64 y, .int .i64 z] 137) (.cells #[.int .i64 x, .int .i64 y, .int .i64 z] 137)
  clear h0 h1
  go_enter Try.func176, Try.ntmps176
  go_wp2
  go_ret
  exact ⟨rfl, bb⟩

set_option maxHeartbeats 1000000 in
theorem eqRS_any (a a' : Option Addr) (len cap cap' : Nat) (zs : List Int) (w : World) (hz : Rls w a len zs) (hz' : Rls w a' len zs) (hl : len ≤ 4611686018427387904) :
    Calls Try.prog 171 #[.slice a len cap, .slice a' len cap'] w fun e w' => e = .returned (.bool true) ∧ Below w.heap.size w w' := by
  go_enter Try.func171, Try.ntmps171
  go_wp2
  go_loopw [5] (fun i wr => ∃ k : Nat, k ≤ len ∧ i = .int .i64 k ∧ Below w.heap.size w wr) (fun i _ => len - (intOf i).toNat)
  case atStart => exact ⟨0, Nat.zero_le _, rfl, Below.refl _ _⟩
  case round =>
    obtain ⟨k, hk, rfl, hb⟩ := hrel
    by_cases hlt : k < len
    · obtain ⟨b, off, rfl, hbl, c0, c1, c2⟩ := (hz.below hb).look hlt
      obtain ⟨b', off', rfl, hbl', d0, d1, d2⟩ := (hz'.below hb).look hlt
      have hlo : (0 : Int) ≤ (k : Int) := Int.natCast_nonneg _
      have hhi : (k : Int) < (len : Int) := by omega
      clear hz hz'
      generalize zs.getD (k * 3) 0 = x at *
      generalize zs.getD (k * 3 + 1) 0 = y at *
      generalize zs.getD (k * 3 + 2) 0 = z at *
      have q0 := fun d os => cell_regrown c0 d os
      have q1 := fun d os => cell_regrown c1 d os
      have q2 := fun d os => cell_regrown c2 d os
      have r0 := fun d os => cell_regrown d0 d os
      have r1 := fun d os => cell_regrown d1 d os
      have r2 := fun d os => cell_regrown d2 d os
      clear c0 c1 c2 d0 d1 d2
      go_wp2
      refine wp_region_quiet_below (by kernel_rfl) (by kernel_rfl) ?_
      repeat (go_big_quiet_step (first
        | (go_at_call 176; exact Calls.regrown_of (eqrule_same x y z _))
        | fail))
      refine wpQuiet_nil ?_
      intro _ hw'
      obtain ⟨⟨dq, osq⟩, hw''⟩ := hw'
      subst hw''
      clear q0 q1 q2 r0 r1 r2
      go_wp2
      go_roundw
      case rel => exact ⟨k + 1, by omega, by go_num, hb.trans ((below_regrown wr dq osq).mono hb.size)⟩
      case measure => simp [intOf]; omega
    · clear hz hz'
      go_wp2
      go_ret
      exact ⟨rfl, hb⟩

theorem eqT_any (a a' : Option Addr) (len cap cap' : Nat) (zs : List Int) (w : World) (hz : Rls w a len zs) (hz' : Rls w a' len zs) (hl : len ≤ 4611686018427387904) :
    Calls Try.prog 157 #[.agg #[.slice a len cap], .agg #[.slice a' len cap']] w fun e w' => e = .returned (.bool true) ∧ Below w.heap.size w w' := by
  have h0 := hp_on (hp_new w (.cells #[.slice a len cap] 51)) (.cells #[.slice a' len cap'] 51)
  have h1 := hp_new (w.alloc (.cells #[.slice a len cap] 51)) (.cells #[.slice a' len cap'] 51)
  simp only [World.size_alloc] at h0 h1
  have c0 := Go.Joins.cell_of_block h0 0
  have d0 := Go.Joins.cell_of_block h1 0
  simp at c0 d0
  have bb := Go.Joins.below_alloc2 w (.cells #[.slice a len cap] 51) (.cells #[.slice a' len cap'] 51)
  have HZ := Lib.hid hz
  have HZ' := Lib.hid hz'
  clear h0 h1 hz hz'
  go_enter Try.func157, Try.ntmps157
  go_wp2_with (fail)
  refine (eqRS_any a a' len cap cap' zs _ (HZ.out.below bb) (HZ'.out.below bb) hl).mono ?_
  rintro e w1 ⟨rfl, b1⟩
  go_wp2
  go_ret
  exact ⟨rfl, bb.trans (b1.mono bb.size)⟩
end Go.Proofs.Ytfnnfjpbplbjmaa

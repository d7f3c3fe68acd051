/-
  The laws' helper sameItems on two slices of the same items: true; loads of a whole item from a row in a region that draws. Conditions: at most 1048576 items.
-/
import Derived.Test.YtcnmchcleghcgaaItQ
import Derived.Laws.StructEq
namespace Go.Proofs.Ytcnmchcleghcgaa
open Go.ChangeShapes Go.WideShapes Go.ChangeAt Go.RowKit
set_option linter.unusedVariables false
set_option linter.unusedSimpArgs false
set_option maxRecDepth 20000

theorem quiet_rg {o : Oper} {a : Act} {K : Act → Prop} {g j : Nat} {x : It} {w : World} {p : Operand} (ho : o.op = .load 32 p) (hx : a.eval p = .pointer (some ⟨g, j, none⟩)) (hg : w.rangeAt g j x.L) (h : K (a.put o.dst (.agg #[.int .i64 x.base, .int .i64 x.least, .int .i64 x.most, .int .i64 x.grow, .int .i64 x.shrink, .int .i64 x.before, .int .i64 x.behind, .bool x.ab, .bool x.ah]))) :
    o.quiet Try.prog a (fun w' => ∃ p : Regrown, w' = Sort.grow (redrawn w p.d) p.os) K :=
  ⟨.agg #[.int .i64 x.base, .int .i64 x.least, .int .i64 x.most, .int .i64 x.grow, .int .i64 x.shrink, .int .i64 x.before, .int .i64 x.behind, .bool x.ab, .bool x.ah], fun w' hw => by
    have hg' : w'.rangeAt g j x.L := by
      obtain ⟨p, e⟩ := hw
      rw [e]
      exact rg_below hg (below_regrown w p.d p.os)
    have hr := run_loadVar_mid (P := Try.prog) w' g j 32 x.L _ hg' it_under rfl (it_size x)
    unfold Oper.quietAt execOp
    simp only [ho, hx, Instr.loadAt, Instr.sureAddr, Sem.run_bind, Sem.run_pure, Result.andThen_ok, hr]
    exact ⟨rfl, rfl⟩, h⟩
theorem neq_it (b l m g s f h : Int) (p q : Bool) (w : World) :
    (binOp .neq 32 (.agg #[.int .i64 b, .int .i64 l, .int .i64 m, .int .i64 g, .int .i64 s, .int .i64 f, .int .i64 h, .bool p, .bool q]) (.agg #[.int .i64 b, .int .i64 l, .int .i64 m, .int .i64 g, .int .i64 s, .int .i64 f, .int .i64 h, .bool p, .bool q])).run Try.prog w = .ok (.bool false) w := by
  have u3 := Try.underlying3
  have a3 := Try.isAgg3
  have z3 := Try.sizeOf3
  have u4 := Try.underlying4
  have a4 := Try.isAgg4
  have z4 := Try.sizeOf4
  have hS : Try.prog.underlying 32 = some (.struct (Try.prog.fieldsOf 32)) := by kernel_rfl
  have hp : Try.prog.stoodInHeld 32 = false := by kernel_rfl
  rw [run_neq_struct, show (10000 : Nat) = 9999 + 1 from rfl, run_equalIn_agg w 9999 32 _ _ hS hp]
  simp only [Program.fieldsOf, Try.underlying32]
  go_simp
  try simp
theorem guard_it (o : BinOp) (x y : Operand) (xs ys : Array Value) (w : World) : (eqGuard o 32 x y (.agg xs) (.agg ys)).run Try.prog w = .ok () w := run_eqGuard_agg w _ _ x y xs ys (by kernel_rfl)
set_option maxHeartbeats 1000000 in
theorem sameIt (a a' : Option Addr) (cap cap' : Nat) (xs : List It) (w : World) (hz : Its w a xs) (hz' : Its w a' xs) (hl : xs.length ≤ 1048576) :
    Calls Try.prog 48 #[.slice a xs.length cap, .slice a' xs.length cap'] w fun e w' => e = .returned (.bool true) ∧ Below w.heap.size w w' := by
  have HZ := Lib.hid hz
  have HY := Lib.hid hz'
  clear hz hz'
  go_enter Try.func48, Try.ntmps48
  go_wp2
  go_loopw [5] (fun i wr => ∃ k : Nat, k ≤ xs.length ∧ i = .int .i64 k ∧ Below w.heap.size w wr) (fun i _ => xs.length - (intOf i).toNat)
  case atStart => exact ⟨0, Nat.zero_le _, rfl, Below.refl _ _⟩
  case round =>
    obtain ⟨k, hk, rfl, hb⟩ := hrel
    have HB := Lib.hid hb
    by_cases hlt : k < xs.length
    · obtain ⟨b, off, rfl, _, r1⟩ := (HZ.out.below hb).look hlt
      obtain ⟨b', off', rfl, _, r2⟩ := (HY.out.below hb).look hlt
      have hlo : (0 : Int) ≤ (k : Int) := Int.natCast_nonneg _
      have hhi : (k : Int) < (xs.length : Int) := by omega
      generalize itD xs k = x at *
      have R1 := Lib.hid r1
      have R2 := Lib.hid r2
      have hne := fun w => neq_it x.base x.least x.most x.grow x.shrink x.before x.behind x.ab x.ah w
      have hgd := fun o x y xs ys w => guard_it o x y xs ys w
      clear r1 r2 hb
      go_wp2_with (fail)
      refine wp_region_quiet_below (by kernel_rfl) (by kernel_rfl) ?_
      repeat (first
        | (go_big_quiet_want; (with_reducible apply quiet_rg (x := x)); exact rfl; exact rfl; (with_reducible first | exact R1.out | exact R2.out); simp only [Act.put, List.setIfInBounds_toArray, List.set_cons_succ, List.set_cons_zero]; go_big_quiet_on)
        | go_big_quiet_step (fail))
      refine wpQuiet_nil ?_
      intro _ hw'
      obtain ⟨⟨dq, osq⟩, hw''⟩ := hw'
      subst hw''
      clear hne hgd
      have B7 := Lib.hid (HB.out.trans ((below_regrown wr dq osq).mono HB.out.size))
      (try dsimp only)
      go_wp2
      go_roundw
      case rel => exact ⟨k + 1, by omega, by go_num, B7.out⟩
      case measure => simp [intOf]; omega
    · obtain rfl : k = xs.length := by omega
      have B7 := Lib.hid hb
      clear hb
      go_wp2
      go_ret
      exact ⟨rfl, B7.out⟩
end Go.Proofs.Ytcnmchcleghcgaa

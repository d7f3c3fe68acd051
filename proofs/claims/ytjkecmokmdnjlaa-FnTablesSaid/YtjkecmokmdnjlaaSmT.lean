/-
  The contracts of SameTable (program and model): two tables hold the same rules. Conditions: none but the length's bound.
-/
import Derived.Test.YtjkecmokmdnjlaaRls
import Derived.Deep.QuietTactic
import Derived.BigQuiet
import Derived.Laws.StructEq
namespace Go.Proofs.Ytjkecmokmdnjlaa
open Go.ChangeShapes Go.WideShapes Go.ChangeAt Go.RowKit
set_option linter.unusedVariables false

/-- The same rules. -/
def smB (zs ys : List Int) : Bool := decide (zs = ys)
theorem sm_len {zs ys : List Int} {n m : Nat} (h1 : zs.length = n * 3) (h2 : ys.length = m * 3) (h : n ≠ m) : smB zs ys = false :=
  decide_eq_false fun e => by subst e; omega
theorem sm_bad {zs ys : List Int} {j : Nat} (h : zs.getD j 0 ≠ ys.getD j 0) : smB zs ys = false :=
  decide_eq_false fun e => by subst e; exact h rfl
theorem sm_all {zs ys : List Int} {n : Nat} (h1 : zs.length = n * 3) (h2 : ys.length = n * 3) (h : ∀ j, j < n * 3 → zs.getD j 0 = ys.getD j 0) : smB zs ys = true := by
  refine decide_eq_true (List.ext_getElem (by omega) fun j h3 h4 => ?_)
  have := h j (by omega)
  simpa [List.getD, h3, h4] using this
theorem sm_succ {zs ys : List Int} {k : Nat} (h : ∀ j, j < k * 3 → zs.getD j 0 = ys.getD j 0) (e0 : zs.getD (k * 3) 0 = ys.getD (k * 3) 0) (e1 : zs.getD (k * 3 + 1) 0 = ys.getD (k * 3 + 1) 0) (e2 : zs.getD (k * 3 + 2) 0 = ys.getD (k * 3 + 2) 0) :
    ∀ j, j < (k + 1) * 3 → zs.getD j 0 = ys.getD j 0 := by
  intro j hj
  by_cases h3 : j < k * 3
  · exact h j h3
  · have : j = k * 3 ∨ j = k * 3 + 1 ∨ j = k * 3 + 2 := by omega
    rcases this with rfl | rfl | rfl <;> assumption
theorem neq_rule (a b c x y z : Int) (w : World) :
    (binOp .neq 32 (.agg #[.int .i64 a, .int .i64 b, .int .i64 c]) (.agg #[.int .i64 x, .int .i64 y, .int .i64 z])).run Try.prog w = .ok (.bool (!(a == x && b == y && c == z))) w := by
  have u3 := Try.underlying3
  have a3 := Try.isAgg3
  have z3 := Try.sizeOf3
  have hS : Try.prog.underlying 32 = some (.struct (Try.prog.fieldsOf 32)) := by kernel_rfl
  have hp : Try.prog.stoodInHeld 32 = false := by kernel_rfl
  rw [run_neq_struct, show (10000 : Nat) = 9999 + 1 from rfl, run_equalIn_agg w 9999 32 _ _ hS hp]
  simp only [Program.fieldsOf, Try.underlying32]
  go_simp
  by_cases h1 : a = x <;> by_cases h2 : b = y <;> by_cases h3 : c = z <;> simp [h1, h2, h3]
theorem nguard_rule (x y : Operand) (xs ys : Array Value) (w : World) : (eqGuard .neq 32 x y (.agg xs) (.agg ys)).run Try.prog w = .ok () w := run_eqGuard_agg w _ _ x y xs ys (by kernel_rfl)
set_option maxHeartbeats 1000000 in
theorem eqsl_any (a a' : Option Addr) (len len' cap cap' : Nat) (zs ys : List Int) (w : World) (hz : Rls w a len zs) (hz' : Rls w a' len' ys) (hl : len ≤ 4611686018427387904) (hl' : len' ≤ 4611686018427387904) :
    Calls Try.prog 42 #[.slice a len cap, .slice a' len' cap'] w fun e w' => e = .returned (.bool (smB zs ys)) ∧ Below w.heap.size w w' := by
  by_cases hn : len = len'
  · subst hn
    have q' := nguard_rule
    go_enter Try.func42, Try.ntmps42
    go_wp2
    go_loopw [13] (fun i wr => ∃ k m : Nat, k ≤ len ∧ i = .int .i64 k ∧ (∀ j, j < k * 3 → zs.getD j 0 = ys.getD j 0) ∧ wr = w.drewN m) (fun i _ => len - (intOf i).toNat)
    case atStart => exact ⟨0, 0, Nat.zero_le _, rfl, fun j hj => absurd hj (by omega), rfl⟩
    case round =>
      obtain ⟨k, m, hk, rfl, hm, rfl⟩ := hrel
      by_cases hlt : k < len
      · obtain ⟨b, off, rfl, hbl, c0, c1, c2⟩ := hz.look hlt
        obtain ⟨b', off', rfl, hbl', d0, d1, d2⟩ := hz'.look hlt
        have hlo : (0 : Int) ≤ (k : Int) := Int.natCast_nonneg _
        have hhi : (k : Int) < (len : Int) := by omega
        have b0 := sm_bad (zs := zs) (ys := ys) (j := k * 3)
        have b1 := sm_bad (zs := zs) (ys := ys) (j := k * 3 + 1)
        have b2 := sm_bad (zs := zs) (ys := ys) (j := k * 3 + 2)
        have hs := sm_succ (zs := zs) (ys := ys) (k := k) hm
        generalize zs.getD (k * 3) 0 = x0 at *
        generalize zs.getD (k * 3 + 1) 0 = x1 at *
        generalize zs.getD (k * 3 + 2) 0 = x2 at *
        generalize ys.getD (k * 3) 0 = y0 at *
        generalize ys.getD (k * 3 + 1) 0 = y1 at *
        generalize ys.getD (k * 3 + 2) 0 = y2 at *
        have q := neq_rule x0 x1 x2 y0 y1 y2
        have hbad : (!(x0 == y0 && x1 == y1 && x2 == y2)) = true → smB zs ys = false := by
          intro h
          by_cases g0 : x0 = y0
          · by_cases g1 : x1 = y1
            · by_cases g2 : x2 = y2
              · simp [g0, g1, g2] at h
              · exact b2 g2
            · exact b1 g1
          · exact b0 g0
        have hgood : (!(x0 == y0 && x1 == y1 && x2 == y2)) = false → x0 = y0 ∧ x1 = y1 ∧ x2 = y2 := by
          intro h
          simp at h
          exact ⟨h.1.1, h.1.2, h.2⟩
        generalize (!(x0 == y0 && x1 == y1 && x2 == y2)) = r at *
        have HBAD := Lib.hid hbad
        have HGOOD := Lib.hid hgood
        have HS := Lib.hid hs
        clear hz hz' hm b0 b1 b2 hs hbad hgood
        go_wp2
        go_quiet (fail)
        clear q c0 c1 c2 d0 d1 d2
        cases r with
        | true =>
          go_wp2
          go_ret
          exact ⟨congrArg (fun t => Ending.returned (.bool t)) (HBAD.out (by simp)).symm, below_drawn w _⟩
        | false =>
          have g := HGOOD.out (by simp)
          have HG := Lib.hid g
          clear g
          go_wp2
          go_roundw
          case rel => exact ⟨k + 1, m + nq, by omega, by go_num, HS.out HG.out.1 HG.out.2.1 HG.out.2.2, rfl⟩
          case measure => simp [intOf]; omega
      · obtain rfl : k = len := by omega
        have HA := Lib.hid (sm_all hz.1 hz'.1 hm)
        clear hz hz' hm
        go_wp2
        go_ret
        exact ⟨congrArg (fun t => Ending.returned (.bool t)) HA.out.symm, below_drawn w m⟩
  · have HA := Lib.hid (sm_len hz.1 hz'.1 hn)
    have hni : ¬ (len : Int) = (len' : Int) := by omega
    clear hz hz'
    go_enter Try.func42, Try.ntmps42
    go_wp2
    go_ret
    exact ⟨congrArg (fun t => Ending.returned (.bool t)) HA.out.symm, Below.refl _ _⟩
set_option maxHeartbeats 1000000 in
theorem lrules_any (a a' : Option Addr) (len len' cap cap' : Nat) (zs ys : List Int) (w : World) (hz : Rls w a len zs) (hz' : Rls w a' len' ys) (hl : len ≤ 4611686018427387904) (hl' : len' ≤ 4611686018427387904) :
    Calls Try.prog 43 #[.slice a len cap, .slice a' len' cap'] w fun e w' => e = .returned (.bool (smB zs ys)) ∧ Below w.heap.size w w' := by
  by_cases hn : len = len'
  · subst hn
    have q' := nguard_rule
    go_enter Try.func43, Try.ntmps43
    go_wp2
    go_loopw [5] (fun i wr => ∃ k m : Nat, k ≤ len ∧ i = .int .i64 k ∧ (∀ j, j < k * 3 → zs.getD j 0 = ys.getD j 0) ∧ wr = w.drewN m) (fun i _ => len - (intOf i).toNat)
    case atStart => exact ⟨0, 0, Nat.zero_le _, rfl, fun j hj => absurd hj (by omega), rfl⟩
    case round =>
      obtain ⟨k, m, hk, rfl, hm, rfl⟩ := hrel
      by_cases hlt : k < len
      · obtain ⟨b, off, rfl, hbl, c0, c1, c2⟩ := hz.look hlt
        obtain ⟨b', off', rfl, hbl', d0, d1, d2⟩ := hz'.look hlt
        have hlo : (0 : Int) ≤ (k : Int) := Int.natCast_nonneg _
        have hhi : (k : Int) < (len : Int) := by omega
        have b0 := sm_bad (zs := zs) (ys := ys) (j := k * 3)
        have b1 := sm_bad (zs := zs) (ys := ys) (j := k * 3 + 1)
        have b2 := sm_bad (zs := zs) (ys := ys) (j := k * 3 + 2)
        have hs := sm_succ (zs := zs) (ys := ys) (k := k) hm
        generalize zs.getD (k * 3) 0 = x0 at *
        generalize zs.getD (k * 3 + 1) 0 = x1 at *
        generalize zs.getD (k * 3 + 2) 0 = x2 at *
        generalize ys.getD (k * 3) 0 = y0 at *
        generalize ys.getD (k * 3 + 1) 0 = y1 at *
        generalize ys.getD (k * 3 + 2) 0 = y2 at *
        have q := neq_rule x0 x1 x2 y0 y1 y2
        have hbad : (!(x0 == y0 && x1 == y1 && x2 == y2)) = true → smB zs ys = false := by
          intro h
          by_cases g0 : x0 = y0
          · by_cases g1 : x1 = y1
            · by_cases g2 : x2 = y2
              · simp [g0, g1, g2] at h
              · exact b2 g2
            · exact b1 g1
          · exact b0 g0
        have hgood : (!(x0 == y0 && x1 == y1 && x2 == y2)) = false → x0 = y0 ∧ x1 = y1 ∧ x2 = y2 := by
          intro h
          simp at h
          exact ⟨h.1.1, h.1.2, h.2⟩
        generalize (!(x0 == y0 && x1 == y1 && x2 == y2)) = r at *
        have HBAD := Lib.hid hbad
        have HGOOD := Lib.hid hgood
        have HS := Lib.hid hs
        clear hz hz' hm b0 b1 b2 hs hbad hgood
        go_wp2
        go_quiet (fail)
        clear q c0 c1 c2 d0 d1 d2
        cases r with
        | true =>
          go_wp2
          go_ret
          exact ⟨congrArg (fun t => Ending.returned (.bool t)) (HBAD.out (by simp)).symm, below_drawn w _⟩
        | false =>
          have g := HGOOD.out (by simp)
          have HG := Lib.hid g
          clear g
          go_wp2
          go_roundw
          case rel => exact ⟨k + 1, m + nq, by omega, by go_num, HS.out HG.out.1 HG.out.2.1 HG.out.2.2, rfl⟩
          case measure => simp [intOf]; omega
      · obtain rfl : k = len := by omega
        have HA := Lib.hid (sm_all hz.1 hz'.1 hm)
        clear hz hz' hm
        go_wp2
        go_ret
        exact ⟨congrArg (fun t => Ending.returned (.bool t)) HA.out.symm, below_drawn w m⟩
  · have HA := Lib.hid (sm_len hz.1 hz'.1 hn)
    have hni : ¬ (len : Int) = (len' : Int) := by omega
    clear hz hz'
    go_enter Try.func43, Try.ntmps43
    go_wp2
    go_ret
    exact ⟨congrArg (fun t => Ending.returned (.bool t)) HA.out.symm, Below.refl _ _⟩
set_option maxHeartbeats 1000000 in
theorem ssametable (a a' : Option Addr) (len len' cap cap' : Nat) (zs ys : List Int) (w : World) (hz : Rls w a len zs) (hz' : Rls w a' len' ys) (hl : len ≤ 4611686018427387904) (hl' : len' ≤ 4611686018427387904) :
    Calls Try.prog 27 #[.agg #[.slice a len cap], .agg #[.slice a' len' cap']] w fun e w' => e = .returned (.bool (smB zs ys)) ∧ Below w.heap.size w w' := by
  have h0 := hp_on (hp_new w (.cells #[.slice a len cap] 26)) (.cells #[.slice a' len' cap'] 26)
  have h1 := hp_new (w.alloc (.cells #[.slice a len cap] 26)) (.cells #[.slice a' len' cap'] 26)
  have bb := Go.Joins.below_alloc2 w (.cells #[.slice a len cap] 26) (.cells #[.slice a' len' cap'] 26)
  simp only [World.size_alloc] at h0 h1
  obtain ⟨u, eu⟩ : ∃ u, u = (w.alloc (.cells #[.slice a len cap] 26)).alloc (.cells #[.slice a' len' cap'] 26) := ⟨_, rfl⟩
  rw [← eu] at h0 h1 bb
  have EU := Lib.hid eu
  clear eu
  replace hz := hz.below bb
  replace hz' := hz'.below bb
  have t0 := Go.Joins.cell_of_block h0 0
  have t1 := Go.Joins.cell_of_block h1 0
  simp at t0 t1
  have BB := Lib.hid bb
  clear h0 h1 bb
  by_cases hn : len = len'
  · subst hn
    have q' := nguard_rule
    go_enter Try.func27, Try.ntmps27
    go_wp2_with (rw [← EU.out])
    go_loopw [5] (fun i wr => ∃ k m : Nat, k ≤ len ∧ i = .int .i64 k ∧ (∀ j, j < k * 3 → zs.getD j 0 = ys.getD j 0) ∧ wr = u.drewN m) (fun i _ => len - (intOf i).toNat)
    case atStart => exact ⟨0, 0, Nat.zero_le _, rfl, fun j hj => absurd hj (by omega), rfl⟩
    case round =>
      obtain ⟨k, m, hk, rfl, hm, rfl⟩ := hrel
      by_cases hlt : k < len
      · obtain ⟨b, off, rfl, hbl, c0, c1, c2⟩ := hz.look hlt
        obtain ⟨b', off', rfl, hbl', d0, d1, d2⟩ := hz'.look hlt
        have hlo : (0 : Int) ≤ (k : Int) := Int.natCast_nonneg _
        have hhi : (k : Int) < (len : Int) := by omega
        have b0 := sm_bad (zs := zs) (ys := ys) (j := k * 3)
        have b1 := sm_bad (zs := zs) (ys := ys) (j := k * 3 + 1)
        have b2 := sm_bad (zs := zs) (ys := ys) (j := k * 3 + 2)
        have hs := sm_succ (zs := zs) (ys := ys) (k := k) hm
        generalize zs.getD (k * 3) 0 = x0 at *
        generalize zs.getD (k * 3 + 1) 0 = x1 at *
        generalize zs.getD (k * 3 + 2) 0 = x2 at *
        generalize ys.getD (k * 3) 0 = y0 at *
        generalize ys.getD (k * 3 + 1) 0 = y1 at *
        generalize ys.getD (k * 3 + 2) 0 = y2 at *
        have q := neq_rule x0 x1 x2 y0 y1 y2
        have hbad : (!(x0 == y0 && x1 == y1 && x2 == y2)) = true → smB zs ys = false := by
          intro h
          by_cases g0 : x0 = y0
          · by_cases g1 : x1 = y1
            · by_cases g2 : x2 = y2
              · simp [g0, g1, g2] at h
              · exact b2 g2
            · exact b1 g1
          · exact b0 g0
        have hgood : (!(x0 == y0 && x1 == y1 && x2 == y2)) = false → x0 = y0 ∧ x1 = y1 ∧ x2 = y2 := by
          intro h
          simp at h
          exact ⟨h.1.1, h.1.2, h.2⟩
        generalize (!(x0 == y0 && x1 == y1 && x2 == y2)) = r at *
        have HBAD := Lib.hid hbad
        have HGOOD := Lib.hid hgood
        have HS := Lib.hid hs
        clear hz hz' hm b0 b1 b2 hs hbad hgood
        go_wp2
        go_quiet (fail)
        clear q c0 c1 c2 d0 d1 d2
        cases r with
        | true =>
          go_wp2
          go_ret
          exact ⟨congrArg (fun t => Ending.returned (.bool t)) (HBAD.out (by simp)).symm, BB.out.trans ((below_drawn u _).mono BB.out.size)⟩
        | false =>
          have g := HGOOD.out (by simp)
          have HG := Lib.hid g
          clear g
          go_wp2
          go_roundw
          case rel => exact ⟨k + 1, m + nq, by omega, by go_num, HS.out HG.out.1 HG.out.2.1 HG.out.2.2, rfl⟩
          case measure => simp [intOf]; omega
      · obtain rfl : k = len := by omega
        have HA := Lib.hid (sm_all hz.1 hz'.1 hm)
        clear hz hz' hm
        go_wp2
        go_ret
        exact ⟨congrArg (fun t => Ending.returned (.bool t)) HA.out.symm, BB.out.trans ((below_drawn u m).mono BB.out.size)⟩
  · have HA := Lib.hid (sm_len hz.1 hz'.1 hn)
    have hni : ¬ (len : Int) = (len' : Int) := by omega
    clear hz hz'
    go_enter Try.func27, Try.ntmps27
    go_wp2_with (rw [← EU.out])
    go_ret
    exact ⟨congrArg (fun t => Ending.returned (.bool t)) HA.out.symm, BB.out⟩
theorem isametable (a a' : Option Addr) (len len' cap cap' : Nat) (zs ys : List Int) (w : World) (hz : Rls w a len zs) (hz' : Rls w a' len' ys) (hl : len ≤ 4611686018427387904) (hl' : len' ≤ 4611686018427387904) :
    Calls Try.prog 20 #[.agg #[.slice a len cap], .agg #[.slice a' len' cap']] w fun e w' => e = .returned (.bool (smB zs ys)) ∧ Below w.heap.size w w' := by
  have h0 := hp_on (hp_new w (.cells #[.slice a len cap] 26)) (.cells #[.slice a' len' cap'] 26)
  have h1 := hp_new (w.alloc (.cells #[.slice a len cap] 26)) (.cells #[.slice a' len' cap'] 26)
  have bb := Go.Joins.below_alloc2 w (.cells #[.slice a len cap] 26) (.cells #[.slice a' len' cap'] 26)
  simp only [World.size_alloc] at h0 h1
  obtain ⟨u, eu⟩ : ∃ u, u = (w.alloc (.cells #[.slice a len cap] 26)).alloc (.cells #[.slice a' len' cap'] 26) := ⟨_, rfl⟩
  rw [← eu] at h0 h1 bb
  have EU := Lib.hid eu
  clear eu
  replace hz := hz.below bb
  replace hz' := hz'.below bb
  have t0 := Go.Joins.cell_of_block h0 0
  have t1 := Go.Joins.cell_of_block h1 0
  simp at t0 t1
  have BB := Lib.hid bb
  clear h0 h1 bb
  have HZ := Lib.hid hz
  have HZ' := Lib.hid hz'
  clear hz hz'
  go_enter Try.func20, Try.ntmps20
  go_wp2_with (rw [← EU.out])
  refine (eqsl_any a a' len len' cap cap' zs ys u HZ.out HZ'.out hl hl').mono ?_
  rintro e w1 ⟨rfl, b1⟩
  go_wp2_with (fail)
  go_ret
  exact ⟨rfl, BB.out.trans (b1.mono BB.out.size)⟩
theorem lsametable (a a' : Option Addr) (len len' cap cap' : Nat) (zs ys : List Int) (w : World) (hz : Rls w a len zs) (hz' : Rls w a' len' ys) (hl : len ≤ 4611686018427387904) (hl' : len' ≤ 4611686018427387904) :
    Calls Try.prog 21 #[.agg #[.slice a len cap], .agg #[.slice a' len' cap']] w fun e w' => e = .returned (.bool (smB zs ys)) ∧ Below w.heap.size w w' := by
  have h0 := hp_on (hp_new w (.cells #[.slice a len cap] 26)) (.cells #[.slice a' len' cap'] 26)
  have h1 := hp_new (w.alloc (.cells #[.slice a len cap] 26)) (.cells #[.slice a' len' cap'] 26)
  have bb := Go.Joins.below_alloc2 w (.cells #[.slice a len cap] 26) (.cells #[.slice a' len' cap'] 26)
  simp only [World.size_alloc] at h0 h1
  obtain ⟨u, eu⟩ : ∃ u, u = (w.alloc (.cells #[.slice a len cap] 26)).alloc (.cells #[.slice a' len' cap'] 26) := ⟨_, rfl⟩
  rw [← eu] at h0 h1 bb
  have EU := Lib.hid eu
  clear eu
  replace hz := hz.below bb
  replace hz' := hz'.below bb
  have t0 := Go.Joins.cell_of_block h0 0
  have t1 := Go.Joins.cell_of_block h1 0
  simp at t0 t1
  have BB := Lib.hid bb
  clear h0 h1 bb
  have HZ := Lib.hid hz
  have HZ' := Lib.hid hz'
  clear hz hz'
  go_enter Try.func21, Try.ntmps21
  go_wp2_with (rw [← EU.out])
  refine (lrules_any a a' len len' cap cap' zs ys u HZ.out HZ'.out hl hl').mono ?_
  rintro e w1 ⟨rfl, b1⟩
  go_wp2_with (fail)
  go_ret
  exact ⟨rfl, BB.out.trans (b1.mono BB.out.size)⟩
end Go.Proofs.Ytjkecmokmdnjlaa

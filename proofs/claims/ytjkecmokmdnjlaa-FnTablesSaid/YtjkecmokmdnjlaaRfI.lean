/-
  The contract of impl.RuleFor, through its interface: the first rule that applies. Conditions: none but the length's bound.
-/
import Derived.Test.YtjkecmokmdnjlaaRfS
namespace Go.Proofs.Ytjkecmokmdnjlaa
open Go.ChangeShapes Go.WideShapes Go.ChangeAt Go.RowKit
set_option linter.unusedVariables false

theorem icontent0 (a : Option Addr) (cap : Nat) (w : World) :
    Calls Try.prog 35 #[.agg #[.slice a 0 cap]] w fun e w' => e = .returned (.iface 72 (.agg #[])) ∧ Below w.heap.size w w' := by
  go_enter Try.func35, Try.ntmps35
  go_wp2
  go_ret
  exact ⟨rfl, Go.Joins.below_alloc1 ..⟩
theorem icontent1 (a : Option Addr) (len cap : Nat) (w : World) (h : 0 < len) :
    Calls Try.prog 35 #[.agg #[.slice a len cap]] w fun e w' => e = .returned (.iface 73 (.slice a len cap)) ∧ Below w.heap.size w w' := by
  have hne : ¬ (len : Int) = 0 := by omega
  go_enter Try.func35, Try.ntmps35
  go_wp2
  go_ret
  exact ⟨rfl, Go.Joins.below_alloc1 ..⟩
/-- The method's name, out of the program's own table. -/
noncomputable def ruleName : String := ((Try.prog.methodsAt 55)[0]?.map (·.1)).getD default
theorem meth0 (n : Nat) (nm : String) (w : World) (hn : n = Try.prog.types.size + Made.depth) (hm : nm = ruleName) :
    (method n 72 (.agg #[]) nm).run Try.prog w = .ok (73, .agg #[]) w := by
  subst hn
  subst hm
  kernel_rfl
theorem meth1 (n : Nat) (nm : String) (v : Value) (w : World) (hn : n = Try.prog.types.size + Made.depth) (hm : nm = ruleName) :
    (method n 73 v nm).run Try.prog w = .ok (74, v) w := by
  subst hn
  subst hm
  kernel_rfl
theorem iblank (room : Int) (w : World) :
    Calls Try.prog 73 #[.agg #[], .int .i64 room] w fun e w' => e = .returned (.tuple #[.agg #[.int .i64 0, .int .i64 0, .int .i64 0], .bool false]) ∧ Below w.heap.size w w' := by
  have h1 := hp_new (w.alloc (.cells #[] 72)) (.cells #[.int .i64 0, .int .i64 0, .int .i64 0] 32)
  have bb := Go.Joins.below_alloc2 w (.cells #[] 72) (.cells #[.int .i64 0, .int .i64 0, .int .i64 0] 32)
  simp only [World.size_alloc] at h1
  go_enter Try.func73, Try.ntmps73
  go_wp2
  exact bodyPost_ret (results_rule3 (b := .bool false) rfl rfl rfl h1) rfl ⟨rfl, bb⟩
set_option maxHeartbeats 1000000 in
theorem irulein (a : Option Addr) (len cap : Nat) (zs : List Int) (room : Int) (w : World) (hz : Rls w a len zs) (h0 : 0 < len) (hl : len ≤ 4611686018427387904) :
    Calls Try.prog 74 #[.slice a len cap, .int .i64 room] w fun e w' => e = .returned (rfV zs len room) ∧ Below w.heap.size w w' := by
  have h1 := hp_new w (.cells #[.int .i64 0, .int .i64 0, .int .i64 0] 32)
  have bb := Go.Joins.below_alloc1 w (.cells #[.int .i64 0, .int .i64 0, .int .i64 0] 32)
  obtain ⟨u, eu⟩ : ∃ u, u = w.alloc (.cells #[.int .i64 0, .int .i64 0, .int .i64 0] 32) := ⟨_, rfl⟩
  rw [← eu] at h1 bb
  have EU := Lib.hid eu
  have hus : w.heap.size < u.heap.size := by rw [eu]; simp
  clear eu
  have HZ := Lib.hid (hz.below bb)
  have d0 := Go.Joins.cell_of_block h1 0
  have d1 := Go.Joins.cell_of_block h1 1
  have d2 := Go.Joins.cell_of_block h1 2
  have F0 := Go.Joins.unfrozen_of_block h1 0
  have F1 := Go.Joins.unfrozen_of_block h1 1
  have F2 := Go.Joins.unfrozen_of_block h1 2
  simp at d0 d1 d2
  have H1 := Lib.hid h1
  have BB := Lib.hid bb
  clear hz h1 bb
  by_cases hr1 : room = -1
  · obtain ⟨b, off, rfl, hbl, e0, e1, e2⟩ := HZ.out.look h0
    have hlo : (0 : Int) ≤ ((0 : Nat) : Int) := Int.natCast_nonneg _
    have hhi : ((0 : Nat) : Int) < (len : Int) := by omega
    have hput := rule_put H1.out (zs.getD (0 * 3) 0) (zs.getD (0 * 3 + 1) 0) (zs.getD (0 * 3 + 2) 0)
    have hbel := below_put BB.out (g := w.heap.size) (by omega) (.int .i64 (zs.getD (0 * 3) 0)) (.int .i64 (zs.getD (0 * 3 + 1) 0)) (.int .i64 (zs.getD (0 * 3 + 2) 0))
    have hend := rfV_some (rfK_some h0 (hit_unknown (zs := zs) (room := room) 0 hr1) (fun j hj => absurd hj (Nat.not_lt_zero _)))
    generalize zs.getD (0 * 3) 0 = x at *
    generalize zs.getD (0 * 3 + 1) 0 = y at *
    generalize zs.getD (0 * 3 + 2) 0 = z at *
    simp only [Nat.zero_mul, Nat.add_zero] at e0 e1 e2
    have HP := Lib.hid hput
    have HB := Lib.hid hbel
    have HN := Lib.hid hend
    have hdr : decide (room = -1) = true := decide_eq_true hr1
    clear hput hbel hend
    go_enter Try.func74, Try.ntmps74
    go_wp2_with (rw [← EU.out])
    refine bodyPost_ret (results_rule3 (b := .bool true) rfl rfl rfl HP.out) rfl ⟨?_, HB.out⟩
    exact congrArg Ending.returned HN.out.symm
  · go_enter Try.func74, Try.ntmps74
    go_wp2_with (rw [← EU.out])
    go_loopw [15] (fun i wr => ∃ k : Nat, k ≤ len ∧ i = .int .i64 k ∧ (∀ j, j < k → hitB zs room j = false) ∧ Below u.heap.size u wr) (fun i _ => len - (intOf i).toNat)
    case atStart => exact ⟨0, Nat.zero_le _, rfl, fun j hj => absurd hj (Nat.not_lt_zero _), Below.refl _ _⟩
    case round =>
      obtain ⟨k, hk, rfl, hm, hb⟩ := hrel
      have hwr := Nat.lt_of_lt_of_le hus hb.size
      have HW := Lib.hid (hb.block w.heap.size hus ▸ H1.out : wr.heap[w.heap.size]? = _)
      have BW := Lib.hid (BB.out.trans (hb.mono BB.out.size))
      clear d0 d1 d2 F0 F1 F2
      by_cases hlt : k < len
      · obtain ⟨b, off, rfl, hbl, e0, e1, e2⟩ := (HZ.out.below hb).look hlt
        have hlo : (0 : Int) ≤ (k : Int) := Int.natCast_nonneg _
        have hhi : (k : Int) < (len : Int) := by omega
        have HM := Lib.hid hm
        have hend : hitB zs room k = true → rfV zs len room = .tuple #[.agg #[.int .i64 (zs.getD (k * 3) 0), .int .i64 (zs.getD (k * 3 + 1) 0), .int .i64 (zs.getD (k * 3 + 2) 0)], .bool true] := fun h => rfV_some (rfK_some hlt h HM.out)
        have hmis : room ≠ -1 → room < zs.getD (k * 3) 0 → ∀ j, j < k + 1 → hitB zs room j = false := misses HM.out
        have hro : zs.getD (k * 3) 0 ≤ room → hitB zs room k = true := hit_room
        generalize zs.getD (k * 3) 0 = x at *
        generalize zs.getD (k * 3 + 1) 0 = y at *
        generalize zs.getD (k * 3 + 2) 0 = z at *
        obtain ⟨v, ev⟩ : ∃ v, v = wr.alloc (.cells #[.int .i64 x, .int .i64 y, .int .i64 z] 32) := ⟨_, rfl⟩
        have hnew : v.heap[w.heap.size]? = _ := ev ▸ hp_on HW.out (.cells #[.int .i64 x, .int .i64 y, .int .i64 z] 32)
        have hown : v.heap[wr.heap.size]? = some (.cells #[.int .i64 x, .int .i64 y, .int .i64 z] 32) := ev ▸ hp_new wr _
        have D0 := Go.Joins.cell_of_block hnew 0
        have D1 := Go.Joins.cell_of_block hnew 1
        have D2 := Go.Joins.cell_of_block hnew 2
        have G0 := Go.Joins.unfrozen_of_block hnew 0
        have G1 := Go.Joins.unfrozen_of_block hnew 1
        have G2 := Go.Joins.unfrozen_of_block hnew 2
        have N0 := Go.Joins.cell_of_block hown 0
        have N1 := Go.Joins.cell_of_block hown 1
        have N2 := Go.Joins.cell_of_block hown 2
        simp at D0 D1 D2 N0 N1 N2
        have hbn : Below w.heap.size w v := ev ▸ BW.out.alloc BW.out.size _
        have HBR := Lib.hid (ev ▸ hb.alloc hb.size (.cells #[.int .i64 x, .int .i64 y, .int .i64 z] 32) : Below u.heap.size u v)
        have HP := Lib.hid (rule_put hnew x y z)
        have HB := Lib.hid (below_put hbn (g := w.heap.size) (Nat.le_refl _) (.int .i64 x) (.int .i64 y) (.int .i64 z))
        have EV := Lib.hid ev
        have HN := Lib.hid hend
        have HMI := Lib.hid hmis
        have HR := Lib.hid hro
        clear hm hend hmis hro hnew hown hbn hb ev
        by_cases hr2 : x ≤ room
        · go_wp2_with (rw [← EV.out])
          exact bodyPost_ret (results_rule3 (b := .bool true) rfl rfl rfl HP.out) rfl ⟨congrArg Ending.returned (HN.out (HR.out hr2)).symm, HB.out⟩
        · go_wp2_with (rw [← EV.out])
          go_roundw
          case rel => exact ⟨k + 1, by omega, by go_num, HMI.out hr1 (by omega), HBR.out⟩
          case measure => simp [intOf]; omega
      · obtain rfl : k = len := by omega
        have D0 := Go.Joins.cell_of_block HW.out 0
        have D1 := Go.Joins.cell_of_block HW.out 1
        have D2 := Go.Joins.cell_of_block HW.out 2
        have G0 := Go.Joins.unfrozen_of_block HW.out 0
        have G1 := Go.Joins.unfrozen_of_block HW.out 1
        have G2 := Go.Joins.unfrozen_of_block HW.out 2
        simp at D0 D1 D2
        have HN := Lib.hid (rfV_none (rfK_none hm))
        have HP := Lib.hid (rule_put HW.out 0 0 0)
        have HB := Lib.hid (below_put BW.out (g := w.heap.size) (Nat.le_refl _) (.int .i64 0) (.int .i64 0) (.int .i64 0))
        clear hm hb
        go_wp2
        exact bodyPost_ret (results_rule3 (b := .bool false) rfl rfl rfl HP.out) rfl ⟨congrArg Ending.returned HN.out.symm, HB.out⟩
theorem irulefor (a : Option Addr) (len cap : Nat) (zs : List Int) (room : Int) (w : World) (hz : Rls w a len zs) (hl : len ≤ 4611686018427387904) :
    Calls Try.prog 13 #[.agg #[.slice a len cap], .int .i64 room] w fun e w' => e = .returned (rfV zs len room) ∧ Below w.heap.size w w' := by
  have h0 := hp_on (hp_new w (.cells #[.slice a len cap] 26)) (.cells #[.int .i64 0, .int .i64 0, .int .i64 0] 32)
  have h1 := hp_new (w.alloc (.cells #[.slice a len cap] 26)) (.cells #[.int .i64 0, .int .i64 0, .int .i64 0] 32)
  have bb := Go.Joins.below_alloc2 w (.cells #[.slice a len cap] 26) (.cells #[.int .i64 0, .int .i64 0, .int .i64 0] 32)
  simp only [World.size_alloc] at h0 h1
  obtain ⟨u, eu⟩ : ∃ u, u = (w.alloc (.cells #[.slice a len cap] 26)).alloc (.cells #[.int .i64 0, .int .i64 0, .int .i64 0] 32) := ⟨_, rfl⟩
  rw [← eu] at h0 h1 bb
  have EU := Lib.hid eu
  clear eu
  have HZ := Lib.hid (hz.below bb)
  have c0 := Go.Joins.cell_of_block h0 0
  simp at c0
  have H1 := Lib.hid h1
  have BB := Lib.hid bb
  clear hz h0 h1 bb
  rcases Nat.eq_zero_or_pos len with hl0 | hl0
  · subst hl0
    go_enter Try.func13, Try.ntmps13
    go_wp2_with (rw [← EU.out])
    refine (icontent0 a cap u).mono ?_
    rintro e w1 ⟨rfl, b1⟩
    go_wp2_with (fail)
    rw [meth0]
    rotate_left
    · kernel_rfl
    · kernel_rfl
    go_wp2_with (fail)
    refine (iblank room w1).mono ?_
    rintro e w2 ⟨rfl, b2⟩
    have g1 := hp_below (hp_below H1.out b1) b2
    have B2 := Lib.hid ((BB.out.trans (b1.mono BB.out.size)).trans (b2.mono (BB.out.trans (b1.mono BB.out.size)).size))
    have D0 := Go.Joins.cell_of_block g1 0
    have D1 := Go.Joins.cell_of_block g1 1
    have D2 := Go.Joins.cell_of_block g1 2
    have G0 := Go.Joins.unfrozen_of_block g1 0
    have G1 := Go.Joins.unfrozen_of_block g1 1
    have G2 := Go.Joins.unfrozen_of_block g1 2
    simp at D0 D1 D2
    have HP := Lib.hid (rule_put g1 0 0 0)
    have HB := Lib.hid (below_put B2.out (g := w.heap.size + 1) (by omega) (.int .i64 0) (.int .i64 0) (.int .i64 0))
    clear g1 b1 b2 c0
    dsimp only
    go_wp2
    exact bodyPost_ret (results_rule3 (b := .bool false) rfl rfl rfl HP.out) rfl ⟨congrArg Ending.returned (rfV_none (rfK_none (fun j hj => absurd hj (Nat.not_lt_zero _)))).symm, HB.out⟩
  · go_enter Try.func13, Try.ntmps13
    go_wp2_with (rw [← EU.out])
    refine (icontent1 a len cap u hl0).mono ?_
    rintro e w1 ⟨rfl, b1⟩
    go_wp2_with (fail)
    rw [meth1]
    rotate_left
    · kernel_rfl
    · kernel_rfl
    go_wp2_with (fail)
    refine (irulein a len cap zs room w1 (HZ.out.below b1) hl0 hl).mono ?_
    rintro e w2 ⟨rfl, b2⟩
    have g1 := hp_below (hp_below H1.out b1) b2
    have B2 := Lib.hid ((BB.out.trans (b1.mono BB.out.size)).trans (b2.mono (BB.out.trans (b1.mono BB.out.size)).size))
    have er : rfV zs len room = .tuple #[.agg #[.int .i64 (rfX zs len room 0), .int .i64 (rfX zs len room 1), .int .i64 (rfX zs len room 2)], .bool (rfB zs len room)] := rfl
    rw [er]
    generalize rfX zs len room 0 = x at *
    generalize rfX zs len room 1 = y at *
    generalize rfX zs len room 2 = z at *
    generalize rfB zs len room = t at *
    have ER := Lib.hid er
    clear er
    have D0 := Go.Joins.cell_of_block g1 0
    have D1 := Go.Joins.cell_of_block g1 1
    have D2 := Go.Joins.cell_of_block g1 2
    have G0 := Go.Joins.unfrozen_of_block g1 0
    have G1 := Go.Joins.unfrozen_of_block g1 1
    have G2 := Go.Joins.unfrozen_of_block g1 2
    simp at D0 D1 D2
    have HP := Lib.hid (rule_put g1 x y z)
    have HB := Lib.hid (below_put B2.out (g := w.heap.size + 1) (by omega) (.int .i64 x) (.int .i64 y) (.int .i64 z))
    clear g1 b1 b2 c0
    dsimp only
    go_wp2
    exact bodyPost_ret (results_rule3 (b := .bool t) rfl rfl rfl HP.out) rfl ⟨congrArg Ending.returned ER.out.symm, HB.out⟩
end Go.Proofs.Ytjkecmokmdnjlaa

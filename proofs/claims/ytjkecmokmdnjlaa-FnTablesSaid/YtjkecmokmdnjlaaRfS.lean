/-
  The contract of spec.RuleFor: the first rule that applies. Conditions: none but the length's bound.
-/
import Derived.Test.YtjkecmokmdnjlaaRlM
namespace Go.Proofs.Ytjkecmokmdnjlaa
open Go.ChangeShapes Go.WideShapes Go.ChangeAt Go.RowKit
set_option linter.unusedVariables false

/-- The store of a whole rule, as three. -/
theorem rule_put {w : World} {g : Nat} {t : TypeId} {a b c : Int} (h : w.heap[g]? = some (.cells #[.int .i64 a, .int .i64 b, .int .i64 c] t)) (x y z : Int) :
    (((w.setCell ⟨g, 0, none⟩ (.int .i64 x)).setCell ⟨g, 1, none⟩ (.int .i64 y)).setCell ⟨g, 2, none⟩ (.int .i64 z)).heap[g]? = some (.cells #[.int .i64 x, .int .i64 y, .int .i64 z] t) := by
  have := Go.Joins.block_setCell (Go.Joins.block_setCell (Go.Joins.block_setCell h (i := 0) (.int .i64 x)) (i := 1) (.int .i64 y)) (i := 2) (.int .i64 z)
  simpa using this
theorem below_put {B : Nat} {a w : World} (h : Below B a w) {g : Nat} (hg : B ≤ g) (x y z : Value) : Below B a (((w.setCell ⟨g, 0, none⟩ x).setCell ⟨g, 1, none⟩ y).setCell ⟨g, 2, none⟩ z) :=
  bl_set (bl_set (bl_set h 0 hg x) 1 hg y) 2 hg z
theorem results_rule3 {fn : Func} {p q : Tmp} {b : Value} {g : Nat} {w : World} {x y z : Int} {t : TypeId} (h : fn.results = #[.cell p 32, .tmp q]) {tmps : Array Value} (hp : tmps.getD p undef = .pointer (some ⟨g, 0, none⟩)) (hq : tmps.getD q undef = b)
    (hb : w.heap[g]? = some (.cells #[.int .i64 x, .int .i64 y, .int .i64 z] t)) : (results fn tmps).run Try.prog w = .ok (.tuple #[.agg #[.int .i64 x, .int .i64 y, .int .i64 z], b]) w := by
  have c0 := Go.Joins.cell_of_block hb 0
  have c1 := Go.Joins.cell_of_block hb 1
  have c2 := Go.Joins.cell_of_block hb 2
  simp at c0 c1 c2
  exact results_rule h hp hq c0 c1 c2

set_option maxHeartbeats 1000000 in
theorem srulefor (a : Option Addr) (len cap : Nat) (zs : List Int) (room : Int) (w : World) (hz : Rls w a len zs) (hl : len ≤ 4611686018427387904) :
    Calls Try.prog 25 #[.agg #[.slice a len cap], .int .i64 room] w fun e w' => e = .returned (rfV zs len room) ∧ Below w.heap.size w w' := by
  have h0 := hp_on (hp_new w (.cells #[.slice a len cap] 26)) (.cells #[.int .i64 0, .int .i64 0, .int .i64 0] 32)
  have h1 := hp_new (w.alloc (.cells #[.slice a len cap] 26)) (.cells #[.int .i64 0, .int .i64 0, .int .i64 0] 32)
  have bb := Go.Joins.below_alloc2 w (.cells #[.slice a len cap] 26) (.cells #[.int .i64 0, .int .i64 0, .int .i64 0] 32)
  simp only [World.size_alloc] at h0 h1
  obtain ⟨u, eu⟩ : ∃ u, u = (w.alloc (.cells #[.slice a len cap] 26)).alloc (.cells #[.int .i64 0, .int .i64 0, .int .i64 0] 32) := ⟨_, rfl⟩
  rw [← eu] at h0 h1 bb
  have EU := Lib.hid eu
  clear eu
  have zu := hz.below bb
  have HZ := Lib.hid zu
  have c0 := Go.Joins.cell_of_block h0 0
  have d0 := Go.Joins.cell_of_block h1 0
  have d1 := Go.Joins.cell_of_block h1 1
  have d2 := Go.Joins.cell_of_block h1 2
  have F0 := Go.Joins.unfrozen_of_block h1 0
  have F1 := Go.Joins.unfrozen_of_block h1 1
  have F2 := Go.Joins.unfrozen_of_block h1 2
  simp at c0 d0 d1 d2
  have H1 := Lib.hid h1
  have BB := Lib.hid bb
  clear hz zu h0 h1 bb
  go_enter Try.func25, Try.ntmps25
  go_wp2_with (rw [← EU.out])
  go_loop [6] (fun i => ∃ k : Nat, k ≤ len ∧ i = .int .i64 k ∧ ∀ j, j < k → hitB zs room j = false) (fun i => len - (intOf i).toNat)
  case atStart => exact ⟨0, Nat.zero_le _, rfl, fun j hj => absurd hj (Nat.not_lt_zero _)⟩
  case round =>
    obtain ⟨k, hk, rfl, hm⟩ := hrel
    by_cases hlt : k < len
    · obtain ⟨b, off, rfl, hbl, e0, e1, e2⟩ := HZ.out.look hlt
      have hlo : (0 : Int) ≤ (k : Int) := Int.natCast_nonneg _
      have hhi : (k : Int) < (len : Int) := by omega
      have HM := Lib.hid hm
      have hput := rule_put H1.out (zs.getD (k * 3) 0) (zs.getD (k * 3 + 1) 0) (zs.getD (k * 3 + 2) 0)
      have hbel := below_put BB.out (g := w.heap.size + 1) (by omega) (.int .i64 (zs.getD (k * 3) 0)) (.int .i64 (zs.getD (k * 3 + 1) 0)) (.int .i64 (zs.getD (k * 3 + 2) 0))
      have hend : hitB zs room k = true → rfV zs len room = .tuple #[.agg #[.int .i64 (zs.getD (k * 3) 0), .int .i64 (zs.getD (k * 3 + 1) 0), .int .i64 (zs.getD (k * 3 + 2) 0)], .bool true] := fun h => rfV_some (rfK_some hlt h HM.out)
      have hmis : room ≠ -1 → room < zs.getD (k * 3) 0 → ∀ j, j < k + 1 → hitB zs room j = false := misses HM.out
      have hun : room = -1 → hitB zs room k = true := hit_unknown k
      have hro : zs.getD (k * 3) 0 ≤ room → hitB zs room k = true := hit_room
      generalize zs.getD (k * 3) 0 = x at *
      generalize zs.getD (k * 3 + 1) 0 = y at *
      generalize zs.getD (k * 3 + 2) 0 = z at *
      have HP := Lib.hid hput
      have HB := Lib.hid hbel
      have HN := Lib.hid hend
      have HMI := Lib.hid hmis
      have HU := Lib.hid hun
      have HR := Lib.hid hro
      clear hm hput hbel hend hmis hun hro
      by_cases hr1 : room = -1
      · go_wp2
        refine bodyPost_ret (results_rule3 (b := .bool true) rfl rfl rfl HP.out) rfl ⟨?_, HB.out⟩
        rw [← hr1]
        exact congrArg Ending.returned (HN.out (HU.out hr1)).symm
      · by_cases hr2 : x ≤ room
        · go_wp2
          exact bodyPost_ret (results_rule3 (b := .bool true) rfl rfl rfl HP.out) rfl ⟨congrArg Ending.returned (HN.out (HR.out hr2)).symm, HB.out⟩
        · go_wp2
          go_round
          case rel => exact ⟨k + 1, by omega, by go_num, HMI.out hr1 (by omega)⟩
          case measure => simp [intOf]; omega
    · obtain rfl : k = len := by omega
      have hend := rfV_none (rfK_none hm)
      have hput := rule_put H1.out 0 0 0
      have hbel := below_put BB.out (g := w.heap.size + 1) (by omega) (.int .i64 0) (.int .i64 0) (.int .i64 0)
      have HP := Lib.hid hput
      have HB := Lib.hid hbel
      have HN := Lib.hid hend
      clear hm hend hput hbel
      go_wp2
      exact bodyPost_ret (results_rule3 (b := .bool false) rfl rfl rfl HP.out) rfl ⟨congrArg Ending.returned HN.out.symm, HB.out⟩
end Go.Proofs.Ytjkecmokmdnjlaa

import Derived.Lib.QuietBelow
import Derived.BigQuiet
import Derived.Laws.StructEq
import Derived.StillTailTactics
import Derived.Test.YtckpjldenkjddaaZtAK
section
namespace Go.Proofs.Ytckpjldenkjddaa
open Go.ChangeShapes Go.WideShapes Go.ChangeAt Go.RowKit

theorem isum (a b : Int) (w : World) :
    Calls Try.prog 173 #[.int .i64 a, .int .i64 b] w fun e w' => e = .returned (.int .i64 (smI a b)) ∧ w' = w := by
  go_enter Try.func173, Try.ntmps173
  go_wp2_with (fail)
  refine (iclamped a w).mono ?_
  rintro e w1 ⟨rfl, rfl⟩
  go_wp2_with (fail)
  refine (iclamped b w1).mono ?_
  rintro e w2 ⟨rfl, rfl⟩
  go_wp2_with (fail)
  refine (iadd_any (clI a) (clI b) w2).mono ?_
  rintro e w3 ⟨rfl, rfl⟩
  rw [sm_len]
  go_wp2
  go_ret
  exact ⟨rfl, rfl⟩
set_option maxRecDepth 100000 in
theorem iedgesin (a b c d x y z u : Int) (w : World) :
    Calls Try.prog 161 #[.agg #[.int .i64 a, .int .i64 b, .int .i64 c, .int .i64 d], .agg #[.int .i64 x, .int .i64 y, .int .i64 z, .int .i64 u]] w fun e w' => e = .returned (.agg #[.int .i64 (smI a x), .int .i64 (smI b y), .int .i64 (smI c z), .int .i64 (smI d u)]) ∧ Below w.heap.size w w' := by
  go_enter Try.func161, Try.ntmps161
  go_wp2_with (fail)
  have ha := hp_on (hp_on (hp_new w (.cells #[.int .i64 a, .int .i64 b, .int .i64 c, .int .i64 d] 39)) (.cells #[.int .i64 x, .int .i64 y, .int .i64 z, .int .i64 u] 39)) (.cells #[.int .i64 0, .int .i64 0, .int .i64 0, .int .i64 0] 39)
  have hx := hp_on (hp_new (w.alloc (.cells #[.int .i64 a, .int .i64 b, .int .i64 c, .int .i64 d] 39)) (.cells #[.int .i64 x, .int .i64 y, .int .i64 z, .int .i64 u] 39)) (.cells #[.int .i64 0, .int .i64 0, .int .i64 0, .int .i64 0] 39)
  have hz := hp_new ((w.alloc (.cells #[.int .i64 a, .int .i64 b, .int .i64 c, .int .i64 d] 39)).alloc (.cells #[.int .i64 x, .int .i64 y, .int .i64 z, .int .i64 u] 39)) (.cells #[.int .i64 0, .int .i64 0, .int .i64 0, .int .i64 0] 39)
  have bb := Go.Joins.below_alloc3 w (.cells #[.int .i64 a, .int .i64 b, .int .i64 c, .int .i64 d] 39) (.cells #[.int .i64 x, .int .i64 y, .int .i64 z, .int .i64 u] 39) (.cells #[.int .i64 0, .int .i64 0, .int .i64 0, .int .i64 0] 39)
  generalize ((w.alloc (.cells #[.int .i64 a, .int .i64 b, .int .i64 c, .int .i64 d] 39)).alloc (.cells #[.int .i64 x, .int .i64 y, .int .i64 z, .int .i64 u] 39)).alloc (.cells #[.int .i64 0, .int .i64 0, .int .i64 0, .int .i64 0] 39) = w3 at *
  simp only [World.size_alloc] at hx hz
  refine region_tail 21 (by kernel_rfl) (by kernel_rfl) ?_
  intro w4 e4
  have bd : Below w.heap.size w w4 := e4 ▸ bb.drew
  have eh : w4.heap = w3.heap := by rw [e4]; rfl
  rw [← eh] at ha hx hz
  clear e4 bb eh
  have a0 := Go.Joins.cell_of_block ha 0
  have a1 := Go.Joins.cell_of_block ha 1
  have a2 := Go.Joins.cell_of_block ha 2
  have a3 := Go.Joins.cell_of_block ha 3
  have x0 := Go.Joins.cell_of_block hx 0
  have x1 := Go.Joins.cell_of_block hx 1
  have x2 := Go.Joins.cell_of_block hx 2
  have x3 := Go.Joins.cell_of_block hx 3
  simp at a0 a1 a2 a3 x0 x1 x2 x3
  simp only [List.take_succ_cons, List.take_zero, List.drop_succ_cons, List.drop_zero]
  repeat (first | still_step | still_call ((isum _ _ _).mono fun e w' h => h))
  refine wpStill_nil ?_
  have z0 := Go.Joins.cell_of_block hz 0
  have z1 := Go.Joins.cell_of_block hz 1
  have z2 := Go.Joins.cell_of_block hz 2
  have z3 := Go.Joins.cell_of_block hz 3
  simp at z0 z1 z2 z3
  have F0 := Go.Joins.unfrozen_of_block hz 0
  have F1 := Go.Joins.unfrozen_of_block hz 1
  have F2 := Go.Joins.unfrozen_of_block hz 2
  have F3 := Go.Joins.unfrozen_of_block hz 3
  have HZ := Lib.hid hz
  clear hz a0 a1 a2 a3 x0 x1 x2 x3 ha hx
  go_wp2
  clear z0 z1 z2 z3 F0 F1 F2 F3
  have hz9 := Go.Joins.block_setCell (Go.Joins.block_setCell (Go.Joins.block_setCell (Go.Joins.block_setCell HZ.out (i := 0) (.int .i64 (smI a x))) (i := 1) (.int .i64 (smI b y))) (i := 2) (.int .i64 (smI c z))) (i := 3) (.int .i64 (smI d u))
  have b9 := bl_set (bl_set (bl_set (bl_set bd (g := w.heap.size + 1 + 1) 0 (by omega) (.int .i64 (smI a x))) (g := w.heap.size + 1 + 1) 1 (by omega) (.int .i64 (smI b y))) (g := w.heap.size + 1 + 1) 2 (by omega) (.int .i64 (smI c z))) (g := w.heap.size + 1 + 1) 3 (by omega) (.int .i64 (smI d u))
  generalize (((w4.setCell ⟨w.heap.size + 1 + 1, 0, none⟩ (.int .i64 (smI a x))).setCell ⟨w.heap.size + 1 + 1, 1, none⟩ (.int .i64 (smI b y))).setCell ⟨w.heap.size + 1 + 1, 2, none⟩ (.int .i64 (smI c z))).setCell ⟨w.heap.size + 1 + 1, 3, none⟩ (.int .i64 (smI d u)) = w9 at *
  have D0 := Go.Joins.cell_of_block hz9 0
  have D1 := Go.Joins.cell_of_block hz9 1
  have D2 := Go.Joins.cell_of_block hz9 2
  have D3 := Go.Joins.cell_of_block hz9 3
  simp at D0 D1 D2 D3
  exact bodyPost_ret (v := .agg #[.int .i64 (smI a x), .int .i64 (smI b y), .int .i64 (smI c z), .int .i64 (smI d u)]) (by simp [results, Try.results161, go_sem, D0, D1, D2, D3]) rfl ⟨rfl, b9⟩
theorem eq_edges (a b c d x y z u : Int) (w : World) :
    (binOp .eql 39 (.agg #[.int .i64 a, .int .i64 b, .int .i64 c, .int .i64 d]) (.agg #[.int .i64 x, .int .i64 y, .int .i64 z, .int .i64 u])).run Try.prog w = .ok (.bool (a == x && b == y && c == z && d == u)) w := by
  have u3 := Try.underlying3
  have a3 := Try.isAgg3
  have z3 := Try.sizeOf3
  have hS : Try.prog.underlying 39 = some (.struct (Try.prog.fieldsOf 39)) := by kernel_rfl
  have hp : Try.prog.stoodInHeld 39 = false := by kernel_rfl
  rw [run_eql_struct, show (10000 : Nat) = 9999 + 1 from rfl, run_equalIn_agg w 9999 39 _ _ hS hp]
  simp only [Program.fieldsOf, Try.underlying39]
  go_simp
  by_cases h1 : a = x <;> by_cases h2 : b = y <;> by_cases h3 : c = z <;> by_cases h4 : d = u <;> simp [h1, h2, h3, h4]
theorem guard_edges (x y : Operand) (xs ys : Array Value) (w : World) : (eqGuard .eql 39 x y (.agg xs) (.agg ys)).run Try.prog w = .ok () w := run_eqGuard_agg w _ _ x y xs ys (by kernel_rfl)

theorem iedgesok (a b c d : Int) (w : World) :
    Calls Try.prog 145 #[.agg #[.int .i64 a, .int .i64 b, .int .i64 c, .int .i64 d]] w fun e w' => e = .returned (.bool (edOk a b c d)) ∧ Below w.heap.size w w' := by
  go_enter Try.func145, Try.ntmps145
  go_wp2_with (fail)
  have q := eq_edges a b c d (smI a 0) (smI b 0) (smI c 0) (smI d 0)
  have q' := guard_edges
  have ha := hp_new w (.cells #[.int .i64 a, .int .i64 b, .int .i64 c, .int .i64 d] 39)
  have k0 := fun d os => hp_cell ha d os 0 _ rfl
  have k1 := fun d os => hp_cell ha d os 1 _ rfl
  have k2 := fun d os => hp_cell ha d os 2 _ rfl
  have k3 := fun d os => hp_cell ha d os 3 _ rfl
  refine wp_region_quiet_below (by kernel_rfl) (by kernel_rfl) ?_
  repeat (go_big_quiet_step (first
    | (go_at_call 161; exact Calls.regrown_of (iedgesin a b c d 0 0 0 0 _))
    | fail))
  refine wpQuiet_nil ?_
  intro _ hw'
  obtain ⟨⟨dq, osq⟩, hw''⟩ := hw'
  subst hw''
  go_wp2
  go_ret
  exact ⟨ret_bool' (by rw [sm_zero, sm_zero, sm_zero, sm_zero, in_cl, in_cl, in_cl, in_cl]; rfl), (Go.Joins.below_alloc1 ..).trans ((below_regrown _ dq osq).mono (by simp))⟩
end Go.Proofs.Ytckpjldenkjddaa
end

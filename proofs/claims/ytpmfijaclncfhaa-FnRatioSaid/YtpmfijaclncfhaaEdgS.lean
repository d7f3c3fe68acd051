/-
  The contracts of the document's model of chapter 5 over edges: spec.WideOf, HighOf, EdgesIn, EdgesOk. Conditions: none.
-/
import Derived.Test.YtpmfijaclncfhaaEdgM
import Derived.Test.YtpmfijaclncfhaaLenM
namespace Go.Proofs.Ytpmfijaclncfhaa
open Go.ChangeShapes Go.WideShapes Go.ChangeAt Go.RowKit

theorem swideof (a b c d : Int) (w : World) :
    Calls Try.prog 63 #[.agg #[.int .i64 a, .int .i64 b, .int .i64 c, .int .i64 d]] w fun e w' => e = .returned (.int .i64 (smI a c)) ∧ Below w.heap.size w w' := by
  have hs := sum_in a c
  have hr : IntKind.i64.wrap (clI a + clI c) = clI a + clI c := IntWalk.i64_in _ hs
  go_enter Try.func63, Try.ntmps63
  go_wp2_with (fail)
  go_quiet (first
    | (go_at_call 33; exact Calls.quiet_of_same (sclamped _ _))
    | fail)
  go_wp2
  go_ret
  exact ⟨rfl, (Go.Joins.below_alloc1 ..).trans ((below_drawn _ _).mono (by simp))⟩
theorem shighof (a b c d : Int) (w : World) :
    Calls Try.prog 65 #[.agg #[.int .i64 a, .int .i64 b, .int .i64 c, .int .i64 d]] w fun e w' => e = .returned (.int .i64 (smI b d)) ∧ Below w.heap.size w w' := by
  have hs := sum_in b d
  have hr : IntKind.i64.wrap (clI b + clI d) = clI b + clI d := IntWalk.i64_in _ hs
  go_enter Try.func65, Try.ntmps65
  go_wp2_with (fail)
  go_quiet (first
    | (go_at_call 33; exact Calls.quiet_of_same (sclamped _ _))
    | fail)
  go_wp2
  go_ret
  exact ⟨rfl, (Go.Joins.below_alloc1 ..).trans ((below_drawn _ _).mono (by simp))⟩
set_option maxRecDepth 100000 in
theorem sedgesin (a b c d x y z u : Int) (w : World) :
    Calls Try.prog 79 #[.agg #[.int .i64 a, .int .i64 b, .int .i64 c, .int .i64 d], .agg #[.int .i64 x, .int .i64 y, .int .i64 z, .int .i64 u]] w fun e w' => e = .returned (.agg #[.int .i64 (smI a x), .int .i64 (smI b y), .int .i64 (smI c z), .int .i64 (smI d u)]) ∧ Below w.heap.size w w' := by
  go_enter Try.func79, Try.ntmps79
  go_wp2_with (fail)
  have ha := hp_on (hp_on (hp_new w (.cells #[.int .i64 a, .int .i64 b, .int .i64 c, .int .i64 d] 29)) (.cells #[.int .i64 x, .int .i64 y, .int .i64 z, .int .i64 u] 29)) (.cells #[.int .i64 0, .int .i64 0, .int .i64 0, .int .i64 0] 29)
  have hx := hp_on (hp_new (w.alloc (.cells #[.int .i64 a, .int .i64 b, .int .i64 c, .int .i64 d] 29)) (.cells #[.int .i64 x, .int .i64 y, .int .i64 z, .int .i64 u] 29)) (.cells #[.int .i64 0, .int .i64 0, .int .i64 0, .int .i64 0] 29)
  have hz := hp_new ((w.alloc (.cells #[.int .i64 a, .int .i64 b, .int .i64 c, .int .i64 d] 29)).alloc (.cells #[.int .i64 x, .int .i64 y, .int .i64 z, .int .i64 u] 29)) (.cells #[.int .i64 0, .int .i64 0, .int .i64 0, .int .i64 0] 29)
  have bb := Go.Joins.below_alloc3 w (.cells #[.int .i64 a, .int .i64 b, .int .i64 c, .int .i64 d] 29) (.cells #[.int .i64 x, .int .i64 y, .int .i64 z, .int .i64 u] 29) (.cells #[.int .i64 0, .int .i64 0, .int .i64 0, .int .i64 0] 29)
  generalize ((w.alloc (.cells #[.int .i64 a, .int .i64 b, .int .i64 c, .int .i64 d] 29)).alloc (.cells #[.int .i64 x, .int .i64 y, .int .i64 z, .int .i64 u] 29)).alloc (.cells #[.int .i64 0, .int .i64 0, .int .i64 0, .int .i64 0] 29) = w3 at *
  simp only [World.size_alloc] at hx hz
  refine region_tail 33 (by kernel_rfl) (by kernel_rfl) ?_
  intro w4 e4
  have bd : Below w.heap.size w w4 := e4 ▸ bb.drew
  have eh : w4.heap = w3.heap := by rw [e4]; rfl
  rw [← eh] at ha hx hz
  clear e4 bb eh
  have a0 := Go.Joins.cell_of_block ha 0
  have a1 := Go.Joins.cell_of_block ha 1
  have a2 := Go.Joins.cell_of_block ha 2
  have a3 := Go.Joins.cell_of_block ha 3
  have x0 := Go.Joins.cell_of_block hx 0
  have x1 := Go.Joins.cell_of_block hx 1
  have x2 := Go.Joins.cell_of_block hx 2
  have x3 := Go.Joins.cell_of_block hx 3
  simp at a0 a1 a2 a3 x0 x1 x2 x3
  simp only [List.take_succ_cons, List.take_zero, List.drop_succ_cons, List.drop_zero]
  have r0 : IntKind.i64.wrap (clI a + clI x) = clI a + clI x := IntWalk.i64_in _ (sum_in a x)
  have r1 : IntKind.i64.wrap (clI b + clI y) = clI b + clI y := IntWalk.i64_in _ (sum_in b y)
  have r2 : IntKind.i64.wrap (clI c + clI z) = clI c + clI z := IntWalk.i64_in _ (sum_in c z)
  have r3 : IntKind.i64.wrap (clI d + clI u) = clI d + clI u := IntWalk.i64_in _ (sum_in d u)
  repeat (first | still_step | still_call ((sclamped _ _).mono fun e w' h => h))
  refine wpStill_nil ?_
  rw [show clI (clI a + clI x) = smI a x from rfl, show clI (clI b + clI y) = smI b y from rfl, show clI (clI c + clI z) = smI c z from rfl, show clI (clI d + clI u) = smI d u from rfl]
  have z0 := Go.Joins.cell_of_block hz 0
  have z1 := Go.Joins.cell_of_block hz 1
  have z2 := Go.Joins.cell_of_block hz 2
  have z3 := Go.Joins.cell_of_block hz 3
  simp at z0 z1 z2 z3
  have F0 := Go.Joins.unfrozen_of_block hz 0
  have F1 := Go.Joins.unfrozen_of_block hz 1
  have F2 := Go.Joins.unfrozen_of_block hz 2
  have F3 := Go.Joins.unfrozen_of_block hz 3
  have HZ := Lib.hid hz
  clear hz a0 a1 a2 a3 x0 x1 x2 x3 ha hx
  go_wp2
  clear z0 z1 z2 z3 F0 F1 F2 F3
  have hz9 := Go.Joins.block_setCell (Go.Joins.block_setCell (Go.Joins.block_setCell (Go.Joins.block_setCell HZ.out (i := 0) (.int .i64 (smI a x))) (i := 1) (.int .i64 (smI b y))) (i := 2) (.int .i64 (smI c z))) (i := 3) (.int .i64 (smI d u))
  have b9 := bl_set (bl_set (bl_set (bl_set bd (g := w.heap.size + 1 + 1) 0 (by omega) (.int .i64 (smI a x))) (g := w.heap.size + 1 + 1) 1 (by omega) (.int .i64 (smI b y))) (g := w.heap.size + 1 + 1) 2 (by omega) (.int .i64 (smI c z))) (g := w.heap.size + 1 + 1) 3 (by omega) (.int .i64 (smI d u))
  generalize (((w4.setCell ⟨w.heap.size + 1 + 1, 0, none⟩ (.int .i64 (smI a x))).setCell ⟨w.heap.size + 1 + 1, 1, none⟩ (.int .i64 (smI b y))).setCell ⟨w.heap.size + 1 + 1, 2, none⟩ (.int .i64 (smI c z))).setCell ⟨w.heap.size + 1 + 1, 3, none⟩ (.int .i64 (smI d u)) = w9 at *
  have D0 := Go.Joins.cell_of_block hz9 0
  have D1 := Go.Joins.cell_of_block hz9 1
  have D2 := Go.Joins.cell_of_block hz9 2
  have D3 := Go.Joins.cell_of_block hz9 3
  simp at D0 D1 D2 D3
  exact bodyPost_ret (v := .agg #[.int .i64 (smI a x), .int .i64 (smI b y), .int .i64 (smI c z), .int .i64 (smI d u)]) (by simp [results, Try.results79, go_sem, D0, D1, D2, D3]) rfl ⟨rfl, b9⟩
end Go.Proofs.Ytpmfijaclncfhaa

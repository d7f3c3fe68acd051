/-
  The contracts of FrameOf (program and model): the sums of padding and border. Conditions: none.
-/
import Derived.Test.YtpmfijaclncfhaaStyW
import Derived.Test.YtpmfijaclncfhaaEdgI
import Derived.Test.YtpmfijaclncfhaaEdgS
namespace Go.Proofs.Ytpmfijaclncfhaa
open Go.ChangeShapes Go.WideShapes Go.ChangeAt Go.RowKit

theorem sframe (f : Nat → Int) (w : World) :
    Calls Try.prog 64 #[.agg (sCells f)] w fun e w' => e = .returned (.agg #[.int .i64 (smI (f 50) (f 54)), .int .i64 (smI (f 51) (f 55)), .int .i64 (smI (f 52) (f 56)), .int .i64 (smI (f 53) (f 57))]) ∧ Below w.heap.size w w' := by
  have h0 := hp_on (hp_new w (.cells (sCells f) 31)) (.cells #[.int .i64 0, .int .i64 0, .int .i64 0, .int .i64 0] 29)
  have hz := hp_new (w.alloc (.cells (sCells f) 31)) (.cells #[.int .i64 0, .int .i64 0, .int .i64 0, .int .i64 0] 29)
  have bb := Go.Joins.below_alloc2 w (.cells (sCells f) 31) (.cells #[.int .i64 0, .int .i64 0, .int .i64 0, .int .i64 0] 29)
  simp only [World.size_alloc] at h0 hz
  obtain ⟨u, eu⟩ : ∃ u, u = (w.alloc (.cells (sCells f) 31)).alloc (.cells #[.int .i64 0, .int .i64 0, .int .i64 0, .int .i64 0] 29) := ⟨_, rfl⟩
  rw [← eu] at h0 hz bb
  have EU := Lib.hid eu
  clear eu
  have c50 := sty_int h0 50 (by decide)
  have c51 := sty_int h0 51 (by decide)
  have c52 := sty_int h0 52 (by decide)
  have c53 := sty_int h0 53 (by decide)
  have c54 := sty_int h0 54 (by decide)
  have c55 := sty_int h0 55 (by decide)
  have c56 := sty_int h0 56 (by decide)
  have c57 := sty_int h0 57 (by decide)
  go_enter Try.func64, Try.ntmps64
  go_wp2_with (rw [← EU.out])
  refine (sedgesin (f 50) (f 51) (f 52) (f 53) (f 54) (f 55) (f 56) (f 57) u).mono ?_
  rintro e w1 ⟨rfl, b1⟩
  replace hz := hp_below hz b1
  replace bb := bb.trans (b1.mono bb.size)
  clear b1 c50 c51 c52 c53 c54 c55 c56 c57
  have z0 := Go.Joins.cell_of_block hz 0
  have F0 := Go.Joins.unfrozen_of_block hz 0
  have z1 := Go.Joins.cell_of_block hz 1
  have F1 := Go.Joins.unfrozen_of_block hz 1
  have z2 := Go.Joins.cell_of_block hz 2
  have F2 := Go.Joins.unfrozen_of_block hz 2
  have z3 := Go.Joins.cell_of_block hz 3
  have F3 := Go.Joins.unfrozen_of_block hz 3
  simp at z0 z1 z2 z3
  have HZ := Lib.hid hz
  clear hz
  dsimp only
  go_wp2
  clear z0 z1 z2 z3 F0 F1 F2 F3
  have h9 := (Go.Joins.block_setCell (Go.Joins.block_setCell (Go.Joins.block_setCell (Go.Joins.block_setCell HZ.out (i := 0) (.int .i64 (smI (f 50) (f 54)))) (i := 1) (.int .i64 (smI (f 51) (f 55)))) (i := 2) (.int .i64 (smI (f 52) (f 56)))) (i := 3) (.int .i64 (smI (f 53) (f 57))))
  have b9 := (bl_set (bl_set (bl_set (bl_set bb (g := w.heap.size + 1) 0 (by omega) (.int .i64 (smI (f 50) (f 54)))) (g := w.heap.size + 1) 1 (by omega) (.int .i64 (smI (f 51) (f 55)))) (g := w.heap.size + 1) 2 (by omega) (.int .i64 (smI (f 52) (f 56)))) (g := w.heap.size + 1) 3 (by omega) (.int .i64 (smI (f 53) (f 57))))
  generalize ((((w1.setCell ⟨w.heap.size + 1, 0, none⟩ (.int .i64 (smI (f 50) (f 54)))).setCell ⟨w.heap.size + 1, 1, none⟩ (.int .i64 (smI (f 51) (f 55)))).setCell ⟨w.heap.size + 1, 2, none⟩ (.int .i64 (smI (f 52) (f 56)))).setCell ⟨w.heap.size + 1, 3, none⟩ (.int .i64 (smI (f 53) (f 57)))) = u9 at *
  have h9' : u9.heap[w.heap.size + 1]? = some (.cells #[.int .i64 (smI (f 50) (f 54)), .int .i64 (smI (f 51) (f 55)), .int .i64 (smI (f 52) (f 56)), .int .i64 (smI (f 53) (f 57))] 29) := by simpa using h9
  have D0 := Go.Joins.cell_of_block h9' 0
  have D1 := Go.Joins.cell_of_block h9' 1
  have D2 := Go.Joins.cell_of_block h9' 2
  have D3 := Go.Joins.cell_of_block h9' 3
  simp at D0 D1 D2 D3
  exact bodyPost_ret (v := .agg #[.int .i64 (smI (f 50) (f 54)), .int .i64 (smI (f 51) (f 55)), .int .i64 (smI (f 52) (f 56)), .int .i64 (smI (f 53) (f 57))]) (by simp [results, Try.results64, go_sem, D0, D1, D2, D3]) rfl ⟨rfl, b9⟩
theorem iframe (f : Nat → Int) (w : World) :
    Calls Try.prog 52 #[.agg (sCells f)] w fun e w' => e = .returned (.agg #[.int .i64 (smI (f 50) (f 54)), .int .i64 (smI (f 51) (f 55)), .int .i64 (smI (f 52) (f 56)), .int .i64 (smI (f 53) (f 57))]) ∧ Below w.heap.size w w' := by
  have h0 := hp_on (hp_new w (.cells (sCells f) 31)) (.cells #[.int .i64 0, .int .i64 0, .int .i64 0, .int .i64 0] 29)
  have hz := hp_new (w.alloc (.cells (sCells f) 31)) (.cells #[.int .i64 0, .int .i64 0, .int .i64 0, .int .i64 0] 29)
  have bb := Go.Joins.below_alloc2 w (.cells (sCells f) 31) (.cells #[.int .i64 0, .int .i64 0, .int .i64 0, .int .i64 0] 29)
  simp only [World.size_alloc] at h0 hz
  obtain ⟨u, eu⟩ : ∃ u, u = (w.alloc (.cells (sCells f) 31)).alloc (.cells #[.int .i64 0, .int .i64 0, .int .i64 0, .int .i64 0] 29) := ⟨_, rfl⟩
  rw [← eu] at h0 hz bb
  have EU := Lib.hid eu
  clear eu
  have c50 := sty_int h0 50 (by decide)
  have c51 := sty_int h0 51 (by decide)
  have c52 := sty_int h0 52 (by decide)
  have c53 := sty_int h0 53 (by decide)
  have c54 := sty_int h0 54 (by decide)
  have c55 := sty_int h0 55 (by decide)
  have c56 := sty_int h0 56 (by decide)
  have c57 := sty_int h0 57 (by decide)
  go_enter Try.func52, Try.ntmps52
  go_wp2_with (rw [← EU.out])
  refine (iedgesin (f 50) (f 51) (f 52) (f 53) (f 54) (f 55) (f 56) (f 57) u).mono ?_
  rintro e w1 ⟨rfl, b1⟩
  replace hz := hp_below hz b1
  replace bb := bb.trans (b1.mono bb.size)
  clear b1 c50 c51 c52 c53 c54 c55 c56 c57
  have z0 := Go.Joins.cell_of_block hz 0
  have F0 := Go.Joins.unfrozen_of_block hz 0
  have z1 := Go.Joins.cell_of_block hz 1
  have F1 := Go.Joins.unfrozen_of_block hz 1
  have z2 := Go.Joins.cell_of_block hz 2
  have F2 := Go.Joins.unfrozen_of_block hz 2
  have z3 := Go.Joins.cell_of_block hz 3
  have F3 := Go.Joins.unfrozen_of_block hz 3
  simp at z0 z1 z2 z3
  have HZ := Lib.hid hz
  clear hz
  dsimp only
  go_wp2
  clear z0 z1 z2 z3 F0 F1 F2 F3
  have h9 := (Go.Joins.block_setCell (Go.Joins.block_setCell (Go.Joins.block_setCell (Go.Joins.block_setCell HZ.out (i := 0) (.int .i64 (smI (f 50) (f 54)))) (i := 1) (.int .i64 (smI (f 51) (f 55)))) (i := 2) (.int .i64 (smI (f 52) (f 56)))) (i := 3) (.int .i64 (smI (f 53) (f 57))))
  have b9 := (bl_set (bl_set (bl_set (bl_set bb (g := w.heap.size + 1) 0 (by omega) (.int .i64 (smI (f 50) (f 54)))) (g := w.heap.size + 1) 1 (by omega) (.int .i64 (smI (f 51) (f 55)))) (g := w.heap.size + 1) 2 (by omega) (.int .i64 (smI (f 52) (f 56)))) (g := w.heap.size + 1) 3 (by omega) (.int .i64 (smI (f 53) (f 57))))
  generalize ((((w1.setCell ⟨w.heap.size + 1, 0, none⟩ (.int .i64 (smI (f 50) (f 54)))).setCell ⟨w.heap.size + 1, 1, none⟩ (.int .i64 (smI (f 51) (f 55)))).setCell ⟨w.heap.size + 1, 2, none⟩ (.int .i64 (smI (f 52) (f 56)))).setCell ⟨w.heap.size + 1, 3, none⟩ (.int .i64 (smI (f 53) (f 57)))) = u9 at *
  have h9' : u9.heap[w.heap.size + 1]? = some (.cells #[.int .i64 (smI (f 50) (f 54)), .int .i64 (smI (f 51) (f 55)), .int .i64 (smI (f 52) (f 56)), .int .i64 (smI (f 53) (f 57))] 29) := by simpa using h9
  have D0 := Go.Joins.cell_of_block h9' 0
  have D1 := Go.Joins.cell_of_block h9' 1
  have D2 := Go.Joins.cell_of_block h9' 2
  have D3 := Go.Joins.cell_of_block h9' 3
  simp at D0 D1 D2 D3
  exact bodyPost_ret (v := .agg #[.int .i64 (smI (f 50) (f 54)), .int .i64 (smI (f 51) (f 55)), .int .i64 (smI (f 52) (f 56)), .int .i64 (smI (f 53) (f 57))]) (by simp [results, Try.results52, go_sem, D0, D1, D2, D3]) rfl ⟨rfl, b9⟩
end Go.Proofs.Ytpmfijaclncfhaa

/-
  The draws of chapter 5's laws (spec.DrawSideOf, DrawMarginOf, DrawWideOf): ints and bools; all old memory stays. Conditions: at most 1048576 bytes.
-/
import Derived.Test.YtafemgkkibjopaaSdA
import Derived.Test.YtafemgkkibjopaaEdD
import Derived.Test.YtafemgkkibjopaaNewC
namespace Go.Proofs.Ytafemgkkibjopaa
open Go.ChangeShapes Go.WideShapes Go.ChangeAt Go.RowKit

def SideDraw (w : World) (e : Ending) (w' : World) : Prop :=
  ∃ lk ln tk tn rk rn bk bn sk sn ek en side : Int, ∃ t : Bool, e = .returned (.tuple #[.agg #[.int .i64 lk, .int .i64 ln, .int .i64 tk, .int .i64 tn, .int .i64 rk, .int .i64 rn, .int .i64 bk, .int .i64 bn, .int .i64 sk, .int .i64 sn, .int .i64 ek, .int .i64 en], .int .i64 side, .bool t]) ∧ IsI side ∧ Below w.heap.size w w'
def MarginDraw (w : World) (e : Ending) (w' : World) : Prop :=
  ∃ lk ln tk tn rk rn bk bn sk sn ek en side : Int, ∃ t : Bool, ∃ b : Int, e = .returned (.tuple #[.agg #[.int .i64 lk, .int .i64 ln, .int .i64 tk, .int .i64 tn, .int .i64 rk, .int .i64 rn, .int .i64 bk, .int .i64 bn, .int .i64 sk, .int .i64 sn, .int .i64 ek, .int .i64 en], .int .i64 side, .bool t, .int .i64 b]) ∧ IsI side ∧ Below w.heap.size w w'
def EdgesDraw (w : World) (e : Ending) (w' : World) : Prop :=
  ∃ p q r s : Int, e = .returned (.agg #[.int .i64 p, .int .i64 q, .int .i64 r, .int .i64 s]) ∧ Below w.heap.size w w'

set_option maxHeartbeats 1000000 in
theorem draw_sideof (a : Option Addr) (len cap : Nat) (w : World) (hl : len ≤ 1048576) (hc : Code w a len) :
    Calls Try.prog 13 #[.slice a len cap] w (SideDraw w) := by
  have hap := fun h0 => code_lt hc h0
  have bw := Go.Joins.below_alloc1 w (.cells #[.int .i64 0, .int .i64 0, .int .i64 0, .int .i64 0, .int .i64 0, .int .i64 0, .int .i64 0, .int .i64 0, .int .i64 0, .int .i64 0, .int .i64 0, .int .i64 0] 27)
  have hc0 := hc.below bw
  have hr0 := hp_new w (.cells #[.int .i64 0, .int .i64 0, .int .i64 0, .int .i64 0, .int .i64 0, .int .i64 0, .int .i64 0, .int .i64 0, .int .i64 0, .int .i64 0, .int .i64 0, .int .i64 0] 27)
  have hs0 : w.heap.size < (w.alloc (.cells #[.int .i64 0, .int .i64 0, .int .i64 0, .int .i64 0, .int .i64 0, .int .i64 0, .int .i64 0, .int .i64 0, .int .i64 0, .int .i64 0, .int .i64 0, .int .i64 0] 27)).heap.size := by simp
  go_enter Try.func13, Try.ntmps13
  go_wp2_with (fail)
  generalize w.alloc (.cells #[.int .i64 0, .int .i64 0, .int .i64 0, .int .i64 0, .int .i64 0, .int .i64 0, .int .i64 0, .int .i64 0, .int .i64 0, .int .i64 0, .int .i64 0, .int .i64 0] 27) = W0 at *
  refine (new_cur a len cap _ hl hc0).mono ?_
  rintro e w1 ⟨rfl, c1, b1, s1⟩
  have hr1 := hp_below hr0 b1
  have B1 := bw.trans (b1.mono (Nat.le_of_lt hs0))
  have hl1 : W0.heap.size < w1.heap.size := s1
  have HAP := Lib.hid (show 0 < len → ∀ b off, a = some ⟨b, off, none⟩ → b < w.heap.size from hap)
  generalize W0.heap.size = cb at *
  clear b1 bw hc0 hr0 hap s1
  go_wp2_with (fail)
  refine (anysid cb a len cap w1 hl1 (fun h b off e => by have := HAP.out h b off e; have := B1.size; omega) c1).mono ?_
  rintro e w2 ⟨lk, ln, tk, tn, rk, rn, bk, bn, sk, sn, ek, en, rfl, c2, g2⟩
  have hr2 := blk_kept hr1 g2 (by omega)
  have B2 := B1.grown g2 B1.size (fun k hk => by simp at hk; omega)
  have hl2 : cb < w2.heap.size := by have := g2.size; omega
  clear g2 hr1 B1 c1 hl1
  go_wp2_with (fail)
  refine (below_pos 6 cb a len cap _ (by omega) (by omega) c2).mono ?_
  rintro e w3 ⟨x, rfl, x0, x1, c3, g3, _⟩
  have hr3 := blk_kept hr2 g3 (by omega)
  have B3 := B2.grown g3 B2.size (fun k hk => by simp at hk; omega)
  have hl3 : cb < w3.heap.size := by have := g3.size; omega
  clear g3 hr2 B2 c2 hl2
  go_wp2_with (fail)
  refine (once_any 2 cb a len cap _ (by omega) (by omega) c3).mono ?_
  rintro e w4 ⟨t, rfl, c4, g4⟩
  have hr4 := blk_kept hr3 g4 (by omega)
  have B4 := B3.grown g4 B3.size (fun k hk => by simp at hk; omega)
  have hl4 : cb < w4.heap.size := by have := g4.size; omega
  clear g4 hr3 B3 c3 hl3
  have y0 := Go.Joins.cell_of_block hr4 0
  have G0 := Go.Joins.unfrozen_of_block hr4 0
  have y1 := Go.Joins.cell_of_block hr4 1
  have G1 := Go.Joins.unfrozen_of_block hr4 1
  have y2 := Go.Joins.cell_of_block hr4 2
  have G2 := Go.Joins.unfrozen_of_block hr4 2
  have y3 := Go.Joins.cell_of_block hr4 3
  have G3 := Go.Joins.unfrozen_of_block hr4 3
  have y4 := Go.Joins.cell_of_block hr4 4
  have G4 := Go.Joins.unfrozen_of_block hr4 4
  have y5 := Go.Joins.cell_of_block hr4 5
  have G5 := Go.Joins.unfrozen_of_block hr4 5
  have y6 := Go.Joins.cell_of_block hr4 6
  have G6 := Go.Joins.unfrozen_of_block hr4 6
  have y7 := Go.Joins.cell_of_block hr4 7
  have G7 := Go.Joins.unfrozen_of_block hr4 7
  have y8 := Go.Joins.cell_of_block hr4 8
  have G8 := Go.Joins.unfrozen_of_block hr4 8
  have y9 := Go.Joins.cell_of_block hr4 9
  have G9 := Go.Joins.unfrozen_of_block hr4 9
  have y10 := Go.Joins.cell_of_block hr4 10
  have G10 := Go.Joins.unfrozen_of_block hr4 10
  have y11 := Go.Joins.cell_of_block hr4 11
  have G11 := Go.Joins.unfrozen_of_block hr4 11
  simp at y0 y1 y2 y3 y4 y5 y6 y7 y8 y9 y10 y11
  have HR := Lib.hid hr4
  clear hr4
  have hw1 : IntKind.i64.wrap (x - 1) = x - 1 := IntWalk.i64_in _ (by omega)
  go_wp2
  clear y0 G0 y1 G1 y2 G2 y3 G3 y4 G4 y5 G5 y6 G6 y7 G7 y8 G8 y9 G9 y10 G10 y11 G11
  have h9 := (Go.Joins.block_setCell (Go.Joins.block_setCell (Go.Joins.block_setCell (Go.Joins.block_setCell (Go.Joins.block_setCell (Go.Joins.block_setCell (Go.Joins.block_setCell (Go.Joins.block_setCell (Go.Joins.block_setCell (Go.Joins.block_setCell (Go.Joins.block_setCell (Go.Joins.block_setCell HR.out (i := 0) (.int .i64 lk)) (i := 1) (.int .i64 ln)) (i := 2) (.int .i64 tk)) (i := 3) (.int .i64 tn)) (i := 4) (.int .i64 rk)) (i := 5) (.int .i64 rn)) (i := 6) (.int .i64 bk)) (i := 7) (.int .i64 bn)) (i := 8) (.int .i64 sk)) (i := 9) (.int .i64 sn)) (i := 10) (.int .i64 ek)) (i := 11) (.int .i64 en))
  have b9 := (bl_set (bl_set (bl_set (bl_set (bl_set (bl_set (bl_set (bl_set (bl_set (bl_set (bl_set (bl_set B4 (g := w.heap.size) 0 (Nat.le_refl _) (.int .i64 lk)) (g := w.heap.size) 1 (Nat.le_refl _) (.int .i64 ln)) (g := w.heap.size) 2 (Nat.le_refl _) (.int .i64 tk)) (g := w.heap.size) 3 (Nat.le_refl _) (.int .i64 tn)) (g := w.heap.size) 4 (Nat.le_refl _) (.int .i64 rk)) (g := w.heap.size) 5 (Nat.le_refl _) (.int .i64 rn)) (g := w.heap.size) 6 (Nat.le_refl _) (.int .i64 bk)) (g := w.heap.size) 7 (Nat.le_refl _) (.int .i64 bn)) (g := w.heap.size) 8 (Nat.le_refl _) (.int .i64 sk)) (g := w.heap.size) 9 (Nat.le_refl _) (.int .i64 sn)) (g := w.heap.size) 10 (Nat.le_refl _) (.int .i64 ek)) (g := w.heap.size) 11 (Nat.le_refl _) (.int .i64 en))
  generalize ((((((((((((w4.setCell ⟨w.heap.size, 0, none⟩ (.int .i64 lk)).setCell ⟨w.heap.size, 1, none⟩ (.int .i64 ln)).setCell ⟨w.heap.size, 2, none⟩ (.int .i64 tk)).setCell ⟨w.heap.size, 3, none⟩ (.int .i64 tn)).setCell ⟨w.heap.size, 4, none⟩ (.int .i64 rk)).setCell ⟨w.heap.size, 5, none⟩ (.int .i64 rn)).setCell ⟨w.heap.size, 6, none⟩ (.int .i64 bk)).setCell ⟨w.heap.size, 7, none⟩ (.int .i64 bn)).setCell ⟨w.heap.size, 8, none⟩ (.int .i64 sk)).setCell ⟨w.heap.size, 9, none⟩ (.int .i64 sn)).setCell ⟨w.heap.size, 10, none⟩ (.int .i64 ek)).setCell ⟨w.heap.size, 11, none⟩ (.int .i64 en)) = u9 at *
  have h9' : u9.heap[w.heap.size]? = some (.cells #[.int .i64 lk, .int .i64 ln, .int .i64 tk, .int .i64 tn, .int .i64 rk, .int .i64 rn, .int .i64 bk, .int .i64 bn, .int .i64 sk, .int .i64 sn, .int .i64 ek, .int .i64 en] 27) := by simpa using h9
  have D0 := Go.Joins.cell_of_block h9' 0
  have D1 := Go.Joins.cell_of_block h9' 1
  have D2 := Go.Joins.cell_of_block h9' 2
  have D3 := Go.Joins.cell_of_block h9' 3
  have D4 := Go.Joins.cell_of_block h9' 4
  have D5 := Go.Joins.cell_of_block h9' 5
  have D6 := Go.Joins.cell_of_block h9' 6
  have D7 := Go.Joins.cell_of_block h9' 7
  have D8 := Go.Joins.cell_of_block h9' 8
  have D9 := Go.Joins.cell_of_block h9' 9
  have D10 := Go.Joins.cell_of_block h9' 10
  have D11 := Go.Joins.cell_of_block h9' 11
  simp at D0 D1 D2 D3 D4 D5 D6 D7 D8 D9 D10 D11
  exact bodyPost_ret (v := .tuple #[.agg #[.int .i64 lk, .int .i64 ln, .int .i64 tk, .int .i64 tn, .int .i64 rk, .int .i64 rn, .int .i64 bk, .int .i64 bn, .int .i64 sk, .int .i64 sn, .int .i64 ek, .int .i64 en], .int .i64 (x - 1), .bool t]) (by simp [results, Try.results13, go_sem, D0, D1, D2, D3, D4, D5, D6, D7, D8, D9, D10, D11]) rfl ⟨lk, ln, tk, tn, rk, rn, bk, bn, sk, sn, ek, en, x - 1, t, rfl, ⟨by omega, by omega⟩, b9⟩
set_option maxHeartbeats 1000000 in
theorem draw_marginof (a : Option Addr) (len cap : Nat) (w : World) (hl : len ≤ 1048576) (hc : Code w a len) :
    Calls Try.prog 19 #[.slice a len cap] w (MarginDraw w) := by
  have hap := fun h0 => code_lt hc h0
  have bw := Go.Joins.below_alloc1 w (.cells #[.int .i64 0, .int .i64 0, .int .i64 0, .int .i64 0, .int .i64 0, .int .i64 0, .int .i64 0, .int .i64 0, .int .i64 0, .int .i64 0, .int .i64 0, .int .i64 0] 27)
  have hc0 := hc.below bw
  have hr0 := hp_new w (.cells #[.int .i64 0, .int .i64 0, .int .i64 0, .int .i64 0, .int .i64 0, .int .i64 0, .int .i64 0, .int .i64 0, .int .i64 0, .int .i64 0, .int .i64 0, .int .i64 0] 27)
  have hs0 : w.heap.size < (w.alloc (.cells #[.int .i64 0, .int .i64 0, .int .i64 0, .int .i64 0, .int .i64 0, .int .i64 0, .int .i64 0, .int .i64 0, .int .i64 0, .int .i64 0, .int .i64 0, .int .i64 0] 27)).heap.size := by simp
  go_enter Try.func19, Try.ntmps19
  go_wp2_with (fail)
  generalize w.alloc (.cells #[.int .i64 0, .int .i64 0, .int .i64 0, .int .i64 0, .int .i64 0, .int .i64 0, .int .i64 0, .int .i64 0, .int .i64 0, .int .i64 0, .int .i64 0, .int .i64 0] 27) = W0 at *
  refine (new_cur a len cap _ hl hc0).mono ?_
  rintro e w1 ⟨rfl, c1, b1, s1⟩
  have hr1 := hp_below hr0 b1
  have B1 := bw.trans (b1.mono (Nat.le_of_lt hs0))
  have hl1 : W0.heap.size < w1.heap.size := s1
  have HAP := Lib.hid (show 0 < len → ∀ b off, a = some ⟨b, off, none⟩ → b < w.heap.size from hap)
  generalize W0.heap.size = cb at *
  clear b1 bw hc0 hr0 hap s1
  go_wp2_with (fail)
  refine (anysid cb a len cap w1 hl1 (fun h b off e => by have := HAP.out h b off e; have := B1.size; omega) c1).mono ?_
  rintro e w2 ⟨lk, ln, tk, tn, rk, rn, bk, bn, sk, sn, ek, en, rfl, c2, g2⟩
  have hr2 := blk_kept hr1 g2 (by omega)
  have B2 := B1.grown g2 B1.size (fun k hk => by simp at hk; omega)
  have hl2 : cb < w2.heap.size := by have := g2.size; omega
  clear g2 hr1 B1 c1 hl1
  go_wp2_with (fail)
  refine (below_pos 6 cb a len cap _ (by omega) (by omega) c2).mono ?_
  rintro e w3 ⟨x, rfl, x0, x1, c3, g3, _⟩
  have hr3 := blk_kept hr2 g3 (by omega)
  have B3 := B2.grown g3 B2.size (fun k hk => by simp at hk; omega)
  have hl3 : cb < w3.heap.size := by have := g3.size; omega
  clear g3 hr2 B2 c2 hl2
  have hw1 : IntKind.i64.wrap (x - 1) = x - 1 := IntWalk.i64_in _ (by omega)
  go_wp2_with (fail)
  refine (once_any 2 cb a len cap _ (by omega) (by omega) c3).mono ?_
  rintro e w4 ⟨t, rfl, c4, g4⟩
  have hr4 := blk_kept hr3 g4 (by omega)
  have B4 := B3.grown g4 B3.size (fun k hk => by simp at hk; omega)
  have hl4 : cb < w4.heap.size := by have := g4.size; omega
  clear g4 hr3 B3 c3 hl3
  go_wp2_with (fail)
  refine (pick_lit [-1, 0, 640, 1000, 1048576] 5 rfl (by omega) (by omega) (by decide) cb a len cap w4 hl4 c4).mono ?_
  rintro e w5 ⟨y, rfl, _, _, c5, g5⟩
  have hr5 := blk_kept hr4 g5 (by omega)
  have B5 := B4.grown g5 B4.size (fun k hk => by simp at hk; omega)
  have hl5 : cb < w5.heap.size := by have := g5.size; omega
  clear g5 hr4 B4 c4 hl4
  have y0 := Go.Joins.cell_of_block hr5 0
  have G0 := Go.Joins.unfrozen_of_block hr5 0
  have y1 := Go.Joins.cell_of_block hr5 1
  have G1 := Go.Joins.unfrozen_of_block hr5 1
  have y2 := Go.Joins.cell_of_block hr5 2
  have G2 := Go.Joins.unfrozen_of_block hr5 2
  have y3 := Go.Joins.cell_of_block hr5 3
  have G3 := Go.Joins.unfrozen_of_block hr5 3
  have y4 := Go.Joins.cell_of_block hr5 4
  have G4 := Go.Joins.unfrozen_of_block hr5 4
  have y5 := Go.Joins.cell_of_block hr5 5
  have G5 := Go.Joins.unfrozen_of_block hr5 5
  have y6 := Go.Joins.cell_of_block hr5 6
  have G6 := Go.Joins.unfrozen_of_block hr5 6
  have y7 := Go.Joins.cell_of_block hr5 7
  have G7 := Go.Joins.unfrozen_of_block hr5 7
  have y8 := Go.Joins.cell_of_block hr5 8
  have G8 := Go.Joins.unfrozen_of_block hr5 8
  have y9 := Go.Joins.cell_of_block hr5 9
  have G9 := Go.Joins.unfrozen_of_block hr5 9
  have y10 := Go.Joins.cell_of_block hr5 10
  have G10 := Go.Joins.unfrozen_of_block hr5 10
  have y11 := Go.Joins.cell_of_block hr5 11
  have G11 := Go.Joins.unfrozen_of_block hr5 11
  simp at y0 y1 y2 y3 y4 y5 y6 y7 y8 y9 y10 y11
  have HR := Lib.hid hr5
  clear hr5
  go_wp2
  clear y0 G0 y1 G1 y2 G2 y3 G3 y4 G4 y5 G5 y6 G6 y7 G7 y8 G8 y9 G9 y10 G10 y11 G11
  have h9 := (Go.Joins.block_setCell (Go.Joins.block_setCell (Go.Joins.block_setCell (Go.Joins.block_setCell (Go.Joins.block_setCell (Go.Joins.block_setCell (Go.Joins.block_setCell (Go.Joins.block_setCell (Go.Joins.block_setCell (Go.Joins.block_setCell (Go.Joins.block_setCell (Go.Joins.block_setCell HR.out (i := 0) (.int .i64 lk)) (i := 1) (.int .i64 ln)) (i := 2) (.int .i64 tk)) (i := 3) (.int .i64 tn)) (i := 4) (.int .i64 rk)) (i := 5) (.int .i64 rn)) (i := 6) (.int .i64 bk)) (i := 7) (.int .i64 bn)) (i := 8) (.int .i64 sk)) (i := 9) (.int .i64 sn)) (i := 10) (.int .i64 ek)) (i := 11) (.int .i64 en))
  have b9 := (bl_set (bl_set (bl_set (bl_set (bl_set (bl_set (bl_set (bl_set (bl_set (bl_set (bl_set (bl_set B5 (g := w.heap.size) 0 (Nat.le_refl _) (.int .i64 lk)) (g := w.heap.size) 1 (Nat.le_refl _) (.int .i64 ln)) (g := w.heap.size) 2 (Nat.le_refl _) (.int .i64 tk)) (g := w.heap.size) 3 (Nat.le_refl _) (.int .i64 tn)) (g := w.heap.size) 4 (Nat.le_refl _) (.int .i64 rk)) (g := w.heap.size) 5 (Nat.le_refl _) (.int .i64 rn)) (g := w.heap.size) 6 (Nat.le_refl _) (.int .i64 bk)) (g := w.heap.size) 7 (Nat.le_refl _) (.int .i64 bn)) (g := w.heap.size) 8 (Nat.le_refl _) (.int .i64 sk)) (g := w.heap.size) 9 (Nat.le_refl _) (.int .i64 sn)) (g := w.heap.size) 10 (Nat.le_refl _) (.int .i64 ek)) (g := w.heap.size) 11 (Nat.le_refl _) (.int .i64 en))
  generalize ((((((((((((w5.setCell ⟨w.heap.size, 0, none⟩ (.int .i64 lk)).setCell ⟨w.heap.size, 1, none⟩ (.int .i64 ln)).setCell ⟨w.heap.size, 2, none⟩ (.int .i64 tk)).setCell ⟨w.heap.size, 3, none⟩ (.int .i64 tn)).setCell ⟨w.heap.size, 4, none⟩ (.int .i64 rk)).setCell ⟨w.heap.size, 5, none⟩ (.int .i64 rn)).setCell ⟨w.heap.size, 6, none⟩ (.int .i64 bk)).setCell ⟨w.heap.size, 7, none⟩ (.int .i64 bn)).setCell ⟨w.heap.size, 8, none⟩ (.int .i64 sk)).setCell ⟨w.heap.size, 9, none⟩ (.int .i64 sn)).setCell ⟨w.heap.size, 10, none⟩ (.int .i64 ek)).setCell ⟨w.heap.size, 11, none⟩ (.int .i64 en)) = u9 at *
  have h9' : u9.heap[w.heap.size]? = some (.cells #[.int .i64 lk, .int .i64 ln, .int .i64 tk, .int .i64 tn, .int .i64 rk, .int .i64 rn, .int .i64 bk, .int .i64 bn, .int .i64 sk, .int .i64 sn, .int .i64 ek, .int .i64 en] 27) := by simpa using h9
  have D0 := Go.Joins.cell_of_block h9' 0
  have D1 := Go.Joins.cell_of_block h9' 1
  have D2 := Go.Joins.cell_of_block h9' 2
  have D3 := Go.Joins.cell_of_block h9' 3
  have D4 := Go.Joins.cell_of_block h9' 4
  have D5 := Go.Joins.cell_of_block h9' 5
  have D6 := Go.Joins.cell_of_block h9' 6
  have D7 := Go.Joins.cell_of_block h9' 7
  have D8 := Go.Joins.cell_of_block h9' 8
  have D9 := Go.Joins.cell_of_block h9' 9
  have D10 := Go.Joins.cell_of_block h9' 10
  have D11 := Go.Joins.cell_of_block h9' 11
  simp at D0 D1 D2 D3 D4 D5 D6 D7 D8 D9 D10 D11
  exact bodyPost_ret (v := .tuple #[.agg #[.int .i64 lk, .int .i64 ln, .int .i64 tk, .int .i64 tn, .int .i64 rk, .int .i64 rn, .int .i64 bk, .int .i64 bn, .int .i64 sk, .int .i64 sn, .int .i64 ek, .int .i64 en], .int .i64 (x - 1), .bool t, .int .i64 y]) (by simp [results, Try.results19, go_sem, D0, D1, D2, D3, D4, D5, D6, D7, D8, D9, D10, D11]) rfl ⟨lk, ln, tk, tn, rk, rn, bk, bn, sk, sn, ek, en, x - 1, t, y, rfl, ⟨by omega, by omega⟩, b9⟩
theorem draw_wideof (a : Option Addr) (len cap : Nat) (w : World) (hl : len ≤ 1048576) (hc : Code w a len) :
    Calls Try.prog 20 #[.slice a len cap] w (EdgesDraw w) := by
  have hap := fun h0 => code_lt hc h0
  have bw := Go.Joins.below_alloc1 w (.cells #[.int .i64 0, .int .i64 0, .int .i64 0, .int .i64 0] 36)
  have hc0 := hc.below bw
  have hr0 := hp_new w (.cells #[.int .i64 0, .int .i64 0, .int .i64 0, .int .i64 0] 36)
  have hs0 : w.heap.size < (w.alloc (.cells #[.int .i64 0, .int .i64 0, .int .i64 0, .int .i64 0] 36)).heap.size := by simp
  go_enter Try.func20, Try.ntmps20
  go_wp2_with (fail)
  generalize w.alloc (.cells #[.int .i64 0, .int .i64 0, .int .i64 0, .int .i64 0] 36) = W0 at *
  refine (new_cur a len cap _ hl hc0).mono ?_
  rintro e w1 ⟨rfl, c1, b1, s1⟩
  have hr1 := hp_below hr0 b1
  have B1 := bw.trans (b1.mono (Nat.le_of_lt hs0))
  have hl1 : W0.heap.size < w1.heap.size := s1
  have HAP := Lib.hid (show 0 < len → ∀ b off, a = some ⟨b, off, none⟩ → b < w.heap.size from hap)
  generalize W0.heap.size = cb at *
  clear b1 bw hc0 hr0 hap s1
  go_wp2_with (fail)
  refine (anyedg cb a len cap w1 hl1 (fun h b off e => by have := HAP.out h b off e; have := B1.size; omega) c1).mono ?_
  rintro e w2 ⟨p, q, r, s, rfl, c2, g2⟩
  have hr2 := blk_kept hr1 g2 (by omega)
  have B2 := B1.grown g2 B1.size (fun k hk => by simp at hk; omega)
  have hl2 : cb < w2.heap.size := by have := g2.size; omega
  clear g2 hr1 B1 c1 hl1
  have y0 := Go.Joins.cell_of_block hr2 0
  have G0 := Go.Joins.unfrozen_of_block hr2 0
  have y1 := Go.Joins.cell_of_block hr2 1
  have G1 := Go.Joins.unfrozen_of_block hr2 1
  have y2 := Go.Joins.cell_of_block hr2 2
  have G2 := Go.Joins.unfrozen_of_block hr2 2
  have y3 := Go.Joins.cell_of_block hr2 3
  have G3 := Go.Joins.unfrozen_of_block hr2 3
  simp at y0 y1 y2 y3
  have HR := Lib.hid hr2
  clear hr2
  go_wp2
  clear y0 G0 y1 G1 y2 G2 y3 G3
  have h9 := (Go.Joins.block_setCell (Go.Joins.block_setCell (Go.Joins.block_setCell (Go.Joins.block_setCell HR.out (i := 0) (.int .i64 p)) (i := 1) (.int .i64 q)) (i := 2) (.int .i64 r)) (i := 3) (.int .i64 s))
  have b9 := (bl_set (bl_set (bl_set (bl_set B2 (g := w.heap.size) 0 (Nat.le_refl _) (.int .i64 p)) (g := w.heap.size) 1 (Nat.le_refl _) (.int .i64 q)) (g := w.heap.size) 2 (Nat.le_refl _) (.int .i64 r)) (g := w.heap.size) 3 (Nat.le_refl _) (.int .i64 s))
  generalize ((((w2.setCell ⟨w.heap.size, 0, none⟩ (.int .i64 p)).setCell ⟨w.heap.size, 1, none⟩ (.int .i64 q)).setCell ⟨w.heap.size, 2, none⟩ (.int .i64 r)).setCell ⟨w.heap.size, 3, none⟩ (.int .i64 s)) = u9 at *
  have h9' : u9.heap[w.heap.size]? = some (.cells #[.int .i64 p, .int .i64 q, .int .i64 r, .int .i64 s] 36) := by simpa using h9
  have D0 := Go.Joins.cell_of_block h9' 0
  have D1 := Go.Joins.cell_of_block h9' 1
  have D2 := Go.Joins.cell_of_block h9' 2
  have D3 := Go.Joins.cell_of_block h9' 3
  simp at D0 D1 D2 D3
  exact bodyPost_ret (v := .agg #[.int .i64 p, .int .i64 q, .int .i64 r, .int .i64 s]) (by simp [results, Try.results20, go_sem, D0, D1, D2, D3]) rfl ⟨p, q, r, s, rfl, b9⟩
end Go.Proofs.Ytafemgkkibjopaa

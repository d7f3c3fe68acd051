/-
  The contracts of the program's chapter 5 over a side: logicalOr, SideOf, AutoSide, MarginOf. Conditions: none.
-/
import Derived.Test.YtafemgkkibjopaaSidM
import Derived.Test.YtafemgkkibjopaaReg
import Derived.BigRegion
import Derived.RegionTactic
namespace Go.Proofs.Ytafemgkkibjopaa
open Go.ChangeShapes Go.WideShapes Go.ChangeAt Go.RowKit

theorem ilog (a b x y : Int) (w : World) :
    Calls Try.prog 40 #[.agg #[.int .i64 a, .int .i64 b], .agg #[.int .i64 x, .int .i64 y]] w fun e w' => e = .returned (.agg #[.int .i64 (orK a x), .int .i64 (orN a b y)]) ∧ Below w.heap.size w w' := by
  by_cases h : a = 0
  · subst h
    go_enter Try.func40, Try.ntmps40
    go_wp2
    exact bodyPost_ret (v := .agg #[.int .i64 x, .int .i64 y]) (by simp [results, Try.results40, go_sem]) rfl ⟨by simp [orK, orN], Go.Joins.below_alloc3 ..⟩
  · have e0 : (a == 0) = false := by simp [h]
    go_enter Try.func40, Try.ntmps40
    go_wp2
    exact bodyPost_ret (v := .agg #[.int .i64 a, .int .i64 b]) (by simp [results, Try.results40, go_sem]) rfl ⟨by simp [orK, orN, h], Go.Joins.below_alloc3 ..⟩
theorem raw4 (w : World) (A Z X Y : Obj) : Below w.heap.size w ((((w.alloc A).alloc Z).alloc X).alloc Y) ∧ ((((w.alloc A).alloc Z).alloc X).alloc Y).heap[w.heap.size + 1]? = some Z := by
  refine ⟨(Go.Joins.below_alloc3 w A Z X).alloc (by simp; omega) Y, ?_⟩
  have h := hp_on (hp_on (hp_new (w.alloc A) Z) X) Y
  rwa [World.size_alloc] at h
set_option maxHeartbeats 1000000 in
theorem isideof (lk ln tk tn rk rn bk bn sk sn ek en side : Int) (rtl : Bool) (w : World) :
    Calls Try.prog 14 #[.agg #[.int .i64 lk, .int .i64 ln, .int .i64 tk, .int .i64 tn, .int .i64 rk, .int .i64 rn, .int .i64 bk, .int .i64 bn, .int .i64 sk, .int .i64 sn, .int .i64 ek, .int .i64 en], .int .i64 side, .bool rtl] w fun e w' => e = .returned (.agg #[.int .i64 (sdK lk tk rk bk sk ek side rtl), .int .i64 (sdN ln tn rn bn sk sn ek en side rtl)]) ∧ Below w.heap.size w w' := by
  cases rtl
  · by_cases h0 : side = 0
    · subst h0
      go_enter Try.func14, Try.ntmps14
      go_wp2_with (fail)
      go_region
      all_goals go_wp2_with (fail)
      all_goals
        refine (ilog sk sn lk ln _).mono ?_
        rintro e v1 ⟨rfl, b1⟩
        have hR := (b1.block (w.heap.size + 1) (by simp)).trans (raw4 w _ _ _ _).2
        have bb := (raw4 w _ _ _ _).1.drew.trans (b1.mono (by simp; omega))
        clear b1
        have z0 := Go.Joins.cell_of_block hR 0
        have z1 := Go.Joins.cell_of_block hR 1
        have F0 := Go.Joins.unfrozen_of_block hR 0
        have F1 := Go.Joins.unfrozen_of_block hR 1
        simp at z0 z1
        have HR := Lib.hid hR
        clear hR
        go_wp2
        clear z0 z1 F0 F1
        have h9 := Go.Joins.block_setCell (Go.Joins.block_setCell HR.out (i := 0) (.int .i64 (orK sk lk))) (i := 1) (.int .i64 (orN sk sn ln))
        replace bb := bl_set (bl_set bb (g := w.heap.size + 1) 0 (by omega) (.int .i64 (orK sk lk))) (g := w.heap.size + 1) 1 (by omega) (.int .i64 (orN sk sn ln))
        generalize (v1.setCell ⟨w.heap.size + 1, 0, none⟩ (.int .i64 (orK sk lk))).setCell ⟨w.heap.size + 1, 1, none⟩ (.int .i64 (orN sk sn ln)) = v9 at *
        have D0 := Go.Joins.cell_of_block h9 0
        have D1 := Go.Joins.cell_of_block h9 1
        simp at D0 D1
        exact bodyPost_ret (v := .agg #[.int .i64 (orK sk lk), .int .i64 (orN sk sn ln)]) (by simp [results, Try.results14, go_sem, D0, D1]) rfl ⟨by simp [sdK, sdN], bb⟩
    by_cases h1 : side = 1
    · subst h1
      go_enter Try.func14, Try.ntmps14
      go_wp2_with (fail)
      go_region
      all_goals go_wp2_with (fail)
      all_goals exact bodyPost_ret (v := .agg #[.int .i64 tk, .int .i64 tn]) (by simp [results, Try.results14, go_sem]) rfl ⟨by simp [sdK, sdN], (raw4 w _ _ _ _).1.drew⟩
    by_cases h2 : side = 2
    · subst h2
      go_enter Try.func14, Try.ntmps14
      go_wp2_with (fail)
      go_region
      all_goals go_wp2_with (fail)
      all_goals
        refine (ilog ek en rk rn _).mono ?_
        rintro e v1 ⟨rfl, b1⟩
        have hR := (b1.block (w.heap.size + 1) (by simp)).trans (raw4 w _ _ _ _).2
        have bb := (raw4 w _ _ _ _).1.drew.trans (b1.mono (by simp; omega))
        clear b1
        have z0 := Go.Joins.cell_of_block hR 0
        have z1 := Go.Joins.cell_of_block hR 1
        have F0 := Go.Joins.unfrozen_of_block hR 0
        have F1 := Go.Joins.unfrozen_of_block hR 1
        simp at z0 z1
        have HR := Lib.hid hR
        clear hR
        go_wp2
        clear z0 z1 F0 F1
        have h9 := Go.Joins.block_setCell (Go.Joins.block_setCell HR.out (i := 0) (.int .i64 (orK ek rk))) (i := 1) (.int .i64 (orN ek en rn))
        replace bb := bl_set (bl_set bb (g := w.heap.size + 1) 0 (by omega) (.int .i64 (orK ek rk))) (g := w.heap.size + 1) 1 (by omega) (.int .i64 (orN ek en rn))
        generalize (v1.setCell ⟨w.heap.size + 1, 0, none⟩ (.int .i64 (orK ek rk))).setCell ⟨w.heap.size + 1, 1, none⟩ (.int .i64 (orN ek en rn)) = v9 at *
        have D0 := Go.Joins.cell_of_block h9 0
        have D1 := Go.Joins.cell_of_block h9 1
        simp at D0 D1
        exact bodyPost_ret (v := .agg #[.int .i64 (orK ek rk), .int .i64 (orN ek en rn)]) (by simp [results, Try.results14, go_sem, D0, D1]) rfl ⟨by simp [sdK, sdN], bb⟩
    by_cases h3 : side = 3
    · subst h3
      go_enter Try.func14, Try.ntmps14
      go_wp2_with (fail)
      go_region
      all_goals go_wp2_with (fail)
      all_goals exact bodyPost_ret (v := .agg #[.int .i64 bk, .int .i64 bn]) (by simp [results, Try.results14, go_sem]) rfl ⟨by simp [sdK, sdN], (raw4 w _ _ _ _).1.drew⟩
    · have e0 : (side == 0) = false := by simp [h0]
      have e1 : (side == 1) = false := by simp [h1]
      have e2 : (side == 2) = false := by simp [h2]
      have e3 : (side == 3) = false := by simp [h3]
      go_enter Try.func14, Try.ntmps14
      go_wp2_with (fail)
      go_region
      all_goals go_wp2_with (fail)
      all_goals exact bodyPost_ret (v := .agg #[.int .i64 0, .int .i64 0]) (by simp [results, Try.results14, go_sem]) rfl ⟨by simp [sdK, sdN, h0, h1, h2, h3], (raw4 w _ _ _ _).1.drew⟩
  · by_cases h0 : side = 0
    · subst h0
      go_enter Try.func14, Try.ntmps14
      go_wp2_with (fail)
      go_region
      all_goals go_wp2_with (fail)
      all_goals go_region
      all_goals go_wp2_with (fail)
      all_goals
        refine (ilog ek en lk ln _).mono ?_
        rintro e v1 ⟨rfl, b1⟩
        have hR := (b1.block (w.heap.size + 1) (by simp)).trans (raw4 w _ _ _ _).2
        have bb := (raw4 w _ _ _ _).1.drew.drew.trans (b1.mono (by simp; omega))
        clear b1
        have z0 := Go.Joins.cell_of_block hR 0
        have z1 := Go.Joins.cell_of_block hR 1
        have F0 := Go.Joins.unfrozen_of_block hR 0
        have F1 := Go.Joins.unfrozen_of_block hR 1
        simp at z0 z1
        have HR := Lib.hid hR
        clear hR
        go_wp2
        clear z0 z1 F0 F1
        have h9 := Go.Joins.block_setCell (Go.Joins.block_setCell HR.out (i := 0) (.int .i64 (orK ek lk))) (i := 1) (.int .i64 (orN ek en ln))
        replace bb := bl_set (bl_set bb (g := w.heap.size + 1) 0 (by omega) (.int .i64 (orK ek lk))) (g := w.heap.size + 1) 1 (by omega) (.int .i64 (orN ek en ln))
        generalize (v1.setCell ⟨w.heap.size + 1, 0, none⟩ (.int .i64 (orK ek lk))).setCell ⟨w.heap.size + 1, 1, none⟩ (.int .i64 (orN ek en ln)) = v9 at *
        have D0 := Go.Joins.cell_of_block h9 0
        have D1 := Go.Joins.cell_of_block h9 1
        simp at D0 D1
        exact bodyPost_ret (v := .agg #[.int .i64 (orK ek lk), .int .i64 (orN ek en ln)]) (by simp [results, Try.results14, go_sem, D0, D1]) rfl ⟨by simp [sdK, sdN], bb⟩
    by_cases h1 : side = 1
    · subst h1
      go_enter Try.func14, Try.ntmps14
      go_wp2_with (fail)
      go_region
      all_goals go_wp2_with (fail)
      all_goals go_region
      all_goals go_wp2_with (fail)
      all_goals exact bodyPost_ret (v := .agg #[.int .i64 tk, .int .i64 tn]) (by simp [results, Try.results14, go_sem]) rfl ⟨by simp [sdK, sdN], (raw4 w _ _ _ _).1.drew.drew⟩
    by_cases h2 : side = 2
    · subst h2
      go_enter Try.func14, Try.ntmps14
      go_wp2_with (fail)
      go_region
      all_goals go_wp2_with (fail)
      all_goals go_region
      all_goals go_wp2_with (fail)
      all_goals
        refine (ilog sk sn rk rn _).mono ?_
        rintro e v1 ⟨rfl, b1⟩
        have hR := (b1.block (w.heap.size + 1) (by simp)).trans (raw4 w _ _ _ _).2
        have bb := (raw4 w _ _ _ _).1.drew.drew.trans (b1.mono (by simp; omega))
        clear b1
        have z0 := Go.Joins.cell_of_block hR 0
        have z1 := Go.Joins.cell_of_block hR 1
        have F0 := Go.Joins.unfrozen_of_block hR 0
        have F1 := Go.Joins.unfrozen_of_block hR 1
        simp at z0 z1
        have HR := Lib.hid hR
        clear hR
        go_wp2
        clear z0 z1 F0 F1
        have h9 := Go.Joins.block_setCell (Go.Joins.block_setCell HR.out (i := 0) (.int .i64 (orK sk rk))) (i := 1) (.int .i64 (orN sk sn rn))
        replace bb := bl_set (bl_set bb (g := w.heap.size + 1) 0 (by omega) (.int .i64 (orK sk rk))) (g := w.heap.size + 1) 1 (by omega) (.int .i64 (orN sk sn rn))
        generalize (v1.setCell ⟨w.heap.size + 1, 0, none⟩ (.int .i64 (orK sk rk))).setCell ⟨w.heap.size + 1, 1, none⟩ (.int .i64 (orN sk sn rn)) = v9 at *
        have D0 := Go.Joins.cell_of_block h9 0
        have D1 := Go.Joins.cell_of_block h9 1
        simp at D0 D1
        exact bodyPost_ret (v := .agg #[.int .i64 (orK sk rk), .int .i64 (orN sk sn rn)]) (by simp [results, Try.results14, go_sem, D0, D1]) rfl ⟨by simp [sdK, sdN], bb⟩
    by_cases h3 : side = 3
    · subst h3
      go_enter Try.func14, Try.ntmps14
      go_wp2_with (fail)
      go_region
      all_goals go_wp2_with (fail)
      all_goals go_region
      all_goals go_wp2_with (fail)
      all_goals exact bodyPost_ret (v := .agg #[.int .i64 bk, .int .i64 bn]) (by simp [results, Try.results14, go_sem]) rfl ⟨by simp [sdK, sdN], (raw4 w _ _ _ _).1.drew.drew⟩
    · have e0 : (side == 0) = false := by simp [h0]
      have e1 : (side == 1) = false := by simp [h1]
      have e2 : (side == 2) = false := by simp [h2]
      have e3 : (side == 3) = false := by simp [h3]
      go_enter Try.func14, Try.ntmps14
      go_wp2_with (fail)
      go_region
      all_goals go_wp2_with (fail)
      all_goals go_region
      all_goals go_wp2_with (fail)
      all_goals exact bodyPost_ret (v := .agg #[.int .i64 0, .int .i64 0]) (by simp [results, Try.results14, go_sem]) rfl ⟨by simp [sdK, sdN, h0, h1, h2, h3], (raw4 w _ _ _ _).1.drew.drew⟩
end Go.Proofs.Ytafemgkkibjopaa

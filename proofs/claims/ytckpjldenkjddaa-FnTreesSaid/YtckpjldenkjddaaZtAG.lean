import Derived.Test.YtckpjldenkjddaaZtAF
section
namespace Go.Proofs.Ytckpjldenkjddaa
open Go.ChangeShapes Go.WideShapes Go.ChangeAt Go.RowKit

/-- What stands while a value is drawn: the result's block, what grew, the cursor. -/
def St (w : World) (cb : Nat) (a : Option Addr) (len cap gr : Nat) (wv : World) : Prop :=
  (∃ x y, wv.heap[gr]? = some (.cells #[x, y] 35 (0, 0))) ∧ w.grownBy wv (some cb) ∧ Cur cb a len cap wv ∧ cb < wv.heap.size
theorem St.store {w wv : World} {cb : Nat} {a : Option Addr} {len cap gr : Nat} (h : St w cb a len cap gr wv) {gv : Nat} (hne : gr ≠ gv) (hw : w.heap.size ≤ gv) (hg : cb < gv) (hg' : 0 < len → ∀ b off, a = some ⟨b, off, none⟩ → b < gv) (j : Nat) (u : Value) :
    St w cb a len cap gr (wv.setCell ⟨gv, j, none⟩ u) := by
  obtain ⟨⟨x, y, hb⟩, G, c, hcb⟩ := h
  exact ⟨⟨x, y, (Below.heap_setCell wv ⟨gv, j, none⟩ u gr hne).trans hb⟩, gr_store G hw, c.stored hcb hg hg' u, by rw [size_set]; exact hcb⟩
theorem St.fin {w wv : World} {cb : Nat} {a : Option Addr} {len cap gr : Nat} (h : St w cb a len cap gr wv) (hw : w.heap.size ≤ gr) (hg : cb < gr) (hg' : 0 < len → ∀ b off, a = some ⟨b, off, none⟩ → b < gr) {K N : Int} (hK : IsI K) (hN : IsI N) :
    ((wv.setCell ⟨gr, 0, none⟩ (.int .i64 K)).setCell ⟨gr, 1, none⟩ (.int .i64 N)).cell? ⟨gr, 0, none⟩ = some (.int .i64 K) ∧ ((wv.setCell ⟨gr, 0, none⟩ (.int .i64 K)).setCell ⟨gr, 1, none⟩ (.int .i64 N)).cell? ⟨gr, 1, none⟩ = some (.int .i64 N) ∧
    ValPost cb a len cap w (.returned (.agg #[.int .i64 K, .int .i64 N])) ((wv.setCell ⟨gr, 0, none⟩ (.int .i64 K)).setCell ⟨gr, 1, none⟩ (.int .i64 N)) := by
  obtain ⟨⟨x, y, hb⟩, G, c, hcb⟩ := h
  have hb9 := blk_two (x' := .int .i64 K) (y' := .int .i64 N) hb
  have D0 := Go.Joins.cell_of_block hb9 0
  have D1 := Go.Joins.cell_of_block hb9 1
  simp at D0 D1
  exact ⟨D0, D1, K, N, rfl, hK, hN, (c.stored hcb hg hg' _).stored (by rw [size_set]; exact hcb) hg hg' _, gr_store (gr_store G hw) hw⟩

set_option maxHeartbeats 400000 in
theorem anyval (cb : Nat) (a : Option Addr) (len cap : Nat) (w : World) (hcb : cb < w.heap.size) (hlt : 0 < len → ∀ b off, a = some ⟨b, off, none⟩ → b < w.heap.size) (hc : Cur cb a len cap w) :
    Calls Try.prog 123 #[.pointer (some ⟨cb, 0, none⟩)] w (ValPost cb a len cap w) := by
  have HL := Lib.hid hlt
  go_enter Try.func123, Try.ntmps123
  go_wp2_with (fail)
  have ga := World.grownBy_alloc w (.cells #[.int .i64 0, .int .i64 0] 35) none
  have hc0 : Cur cb a len cap (w.alloc (.cells #[.int .i64 0, .int .i64 0] 35)) := hc.kept hcb ga (fun k hk => by cases hk)
  refine (val_any cb a len cap _ (by simp; omega) (fun h b off e => by have := hlt h b off e; simp; omega) hc0).mono ?_
  rintro e w1 ⟨k, n, rfl, hk, hn, c1, g1⟩
  have hcb1 : cb < w1.heap.size := Nat.lt_of_lt_of_le (by simp; omega) g1.size
  have hrb := Nat.lt_of_lt_of_le (show w.heap.size < (w.alloc (.cells #[.int .i64 0, .int .i64 0] 35)).heap.size by simp) g1.size
  have hb1 := blk_kept (blk_new w _) g1 (by omega)
  have G1 := Lib.hid (gr_trans (gr_new w _ cb) g1)
  have HB1 := Lib.hid hb1
  have C1 := Lib.hid c1
  have H1 := Lib.hid hrb
  clear g1 hb1 ga hc0 c1 hc hrb
  go_wp2_with (fail)
  have ga1 := World.grownBy_alloc w1 (.cells #[.int .i64 k, .int .i64 n] 35) none
  have hc1 : Cur cb a len cap (w1.alloc (.cells #[.int .i64 k, .int .i64 n] 35)) := C1.out.kept hcb1 ga1 (fun k hk => by cases hk)
  refine (below_pos 10 cb a len cap _ (by omega) (by omega) hc1).mono ?_
  rintro e w2 ⟨x, rfl, x0, x1, c2, g2, z2⟩
  clear z2 ga1 hc1 C1
  have hcb2 : cb < w2.heap.size := Nat.lt_of_lt_of_le (by simp; omega) g2.size
  have hr2 := blk_kept (blk_kept HB1.out (gr_new w1 (.cells #[.int .i64 k, .int .i64 n] 35) cb) (by omega)) g2 (by omega)
  have hv2 := blk_kept (blk_new w1 (.cells #[.int .i64 k, .int .i64 n] 35)) g2 (by omega)
  have G2 := Lib.hid (gr_trans G1.out (gr_trans (gr_new w1 (.cells #[.int .i64 k, .int .i64 n] 35) cb) g2))
  clear g2 G1 HB1
  have hne : w.heap.size ≠ w1.heap.size := by have := H1.out; omega
  generalize hve : w1.heap.size = gv at *
  generalize hre : w.heap.size = gr at *
  have hgv : cb < gv := by omega
  have HGV := Lib.hid (show 0 < len → ∀ b off, a = some ⟨b, off, none⟩ → b < gv from fun h b off e => by have := HL.out h b off e; have := H1.out; omega)
  have hne2 : gv ≠ gr := fun h => hne h.symm
  have hgw := Lib.hid (show w.heap.size ≤ gv by have := H1.out; omega)
  by_cases e0 : x = 0
  · subst e0
    go_wp2_with (fail)
    refine (below_pos 6 cb a len cap w2 (by omega) (by omega) c2).mono ?_
    rintro e w3 ⟨y, rfl, y0, y1, c3, g3, z3⟩
    have hcb3 : cb < w3.heap.size := Nat.lt_of_lt_of_le hcb2 g3.size
    have hr3 := blk_kept hr2 g3 (by omega)
    have hv3 := blk_kept hv2 g3 (by omega)
    have ST := Lib.hid (show St w cb a len cap gr w3 from ⟨⟨_, _, hr3⟩, gr_trans G2.out g3, c3, hcb3⟩)
    clear z3 hr2 hv2 g3
    have C0 := Go.Joins.cell_of_block hv3 0
    have C1 := Go.Joins.cell_of_block hv3 1
    have CF0 := Go.Joins.unfrozen_of_block hv3 0
    have CF1 := Go.Joins.unfrozen_of_block hv3 1
    have R0 := Go.Joins.cell_of_block hr3 0
    have R1 := Go.Joins.cell_of_block hr3 1
    have RF0 := Go.Joins.unfrozen_of_block hr3 0
    have RF1 := Go.Joins.unfrozen_of_block hr3 1
    simp at C0 C1 R0 R1
    clear hr3 hv3
    have r1 : IntKind.i64.wrap (y - 1) = y - 1 := IntWalk.i64_in _ (by omega)
    go_wp2
    obtain ⟨D0, D1, hp⟩ := ((ST.out.store hne hgw.out hgv HGV.out 0 (.int .i64 (y - 1)))).fin (K := y - 1) (N := n) (Nat.le_of_eq hre) hcb HL.out ⟨by omega, by omega⟩ hn
    exact bodyPost_ret (v := .agg #[.int .i64 (y - 1), .int .i64 (n)]) (by simp [results, Try.results123, go_sem, D0, D1]) rfl hp
  · by_cases e1 : x = 1
    · subst e1
      clear e0
      go_wp2_with (fail)
      refine (l02_any cb a len cap w2 hcb2 c2).mono ?_
      rintro e w3 ⟨y, rfl, y0, y1, c3, g3⟩
      have hcb3 : cb < w3.heap.size := Nat.lt_of_lt_of_le hcb2 g3.size
      have hr3 := blk_kept hr2 g3 (by omega)
      have hv3 := blk_kept hv2 g3 (by omega)
      have ST := Lib.hid (show St w cb a len cap gr w3 from ⟨⟨_, _, hr3⟩, gr_trans G2.out g3, c3, hcb3⟩)
      clear hr2 hv2 g3
      have C0 := Go.Joins.cell_of_block hv3 0
      have C1 := Go.Joins.cell_of_block hv3 1
      have CF0 := Go.Joins.unfrozen_of_block hv3 0
      have CF1 := Go.Joins.unfrozen_of_block hv3 1
      have R0 := Go.Joins.cell_of_block hr3 0
      have R1 := Go.Joins.cell_of_block hr3 1
      have RF0 := Go.Joins.unfrozen_of_block hr3 0
      have RF1 := Go.Joins.unfrozen_of_block hr3 1
      simp at C0 C1 R0 R1
      clear hr3 hv3
      go_wp2
      obtain ⟨D0, D1, hp⟩ := ((ST.out.store hne hgw.out hgv HGV.out 1 (.int .i64 (y)))).fin (K := k) (N := y) (Nat.le_of_eq hre) hcb HL.out hk ⟨y0, y1⟩
      exact bodyPost_ret (v := .agg #[.int .i64 (k), .int .i64 (y)]) (by simp [results, Try.results123, go_sem, D0, D1]) rfl hp
    · have ST := Lib.hid (show St w cb a len cap gr w2 from ⟨⟨_, _, hr2⟩, G2.out, c2, hcb2⟩)
      by_cases e2 : x = 2
      · subst e2
        have C0 := Go.Joins.cell_of_block hv2 0
        have C1 := Go.Joins.cell_of_block hv2 1
        have CF0 := Go.Joins.unfrozen_of_block hv2 0
        have CF1 := Go.Joins.unfrozen_of_block hv2 1
        have R0 := Go.Joins.cell_of_block hr2 0
        have R1 := Go.Joins.cell_of_block hr2 1
        have RF0 := Go.Joins.unfrozen_of_block hr2 0
        have RF1 := Go.Joins.unfrozen_of_block hr2 1
        simp at C0 C1 R0 R1
        clear hr2 hv2
        go_wp2
        obtain ⟨D0, D1, hp⟩ := (((ST.out.store hne hgw.out hgv HGV.out 0 (.int .i64 (3))).store hne hgw.out hgv HGV.out 1 (.int .i64 (0)))).fin (K := 3) (N := 0) (Nat.le_of_eq hre) hcb HL.out ⟨by omega, by omega⟩ ⟨by omega, by omega⟩
        exact bodyPost_ret (v := .agg #[.int .i64 (3), .int .i64 (0)]) (by simp [results, Try.results123, go_sem, D0, D1]) rfl hp
      · have e3 : (x == 0) = false := by simp; omega
        have e4 : (x == 1) = false := by simp; omega
        have e5 : (x == 2) = false := by simp; omega
        have C0 := Go.Joins.cell_of_block hv2 0
        have C1 := Go.Joins.cell_of_block hv2 1
        have CF0 := Go.Joins.unfrozen_of_block hv2 0
        have CF1 := Go.Joins.unfrozen_of_block hv2 1
        have R0 := Go.Joins.cell_of_block hr2 0
        have R1 := Go.Joins.cell_of_block hr2 1
        have RF0 := Go.Joins.unfrozen_of_block hr2 0
        have RF1 := Go.Joins.unfrozen_of_block hr2 1
        simp at C0 C1 R0 R1
        clear hr2 hv2
        go_wp2
        obtain ⟨D0, D1, hp⟩ := (ST.out).fin (K := k) (N := n) (Nat.le_of_eq hre) hcb HL.out hk hn
        exact bodyPost_ret (v := .agg #[.int .i64 (k), .int .i64 (n)]) (by simp [results, Try.results123, go_sem, D0, D1]) rfl hp
end Go.Proofs.Ytckpjldenkjddaa
end

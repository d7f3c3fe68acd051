/-
  The drawing of edges (spec.l05Edges, l05AnyEdges): four ints; it turns nothing but its cursor. Conditions: those of the cursor.
-/
import Derived.Test.YtpmfijaclncfhaaSdD
namespace Go.Proofs.Ytpmfijaclncfhaa
open Go.ChangeShapes Go.WideShapes Go.ChangeAt Go.RowKit

/-- What a draw of edges leaves. -/
def EdgPost (cb : Nat) (a : Option Addr) (len cap : Nat) (w : World) (e : Ending) (w' : World) : Prop :=
  ∃ p q r s : Int, e = .returned (.agg #[.int .i64 p, .int .i64 q, .int .i64 r, .int .i64 s]) ∧ Cur cb a len cap w' ∧ w.grownBy w' (some cb)
/-- What stands while edges are drawn: the edges so far in block gs, the result's block gr, the cursor. -/
structure ED (w : World) (cb : Nat) (a : Option Addr) (len cap gr gs : Nat) (zs : List Int) (wr : World) : Prop where
  size : zs.length = 4
  here : wr.heap[gs]? = some (.cells (zs.map (Value.int .i64)).toArray 29 (0, 0))
  res : wr.heap[gr]? = some (.cells #[.int .i64 0, .int .i64 0, .int .i64 0, .int .i64 0] 29 (0, 0))
  cur : Cur cb a len cap wr
  gro : w.grownBy wr (some cb)
theorem ED.kept {w wr w' : World} {cb : Nat} {a : Option Addr} {len cap gr gs : Nat} {zs : List Int} (h : ED w cb a len cap gr gs zs wr) (W : SDw w cb a len gr gs) (g : wr.grownBy w' (some cb)) (c : Cur cb a len cap w') : ED w cb a len cap gr gs zs w' :=
  ⟨h.size, blk_kept h.here g (by have := W.ltc; have := W.ges; omega), blk_kept h.res g (by have := W.ltc; have := W.ger; omega), c, gr_trans h.gro g⟩
theorem ED.lt {w wr : World} {cb : Nat} {a : Option Addr} {len cap gr gs : Nat} {zs : List Int} (h : ED w cb a len cap gr gs zs wr) (W : SDw w cb a len gr gs) : cb < wr.heap.size := Nat.lt_of_lt_of_le W.ltc h.gro.size
theorem ED.new {w wr : World} {cb : Nat} {a : Option Addr} {len cap gr gs : Nat} {zs : List Int} (h : ED w cb a len cap gr gs zs wr) (W : SDw w cb a len gr gs) (o : Obj) : ED w cb a len cap gr gs zs (wr.alloc o) :=
  h.kept W (gr_new wr o cb) (h.cur.kept (h.lt W) (World.grownBy_alloc wr o none) (fun k hk => by cases hk))
/-- A store into a block of the draw's own that is neither. -/
theorem ED.other {w wr : World} {cb : Nat} {a : Option Addr} {len cap gr gs gv : Nat} {zs : List Int} (h : ED w cb a len cap gr gs zs wr) (W : SDw w cb a len gr gs) (hv : w.heap.size ≤ gv) (h1 : gs ≠ gv) (h2 : gr ≠ gv) (j : Nat) (u : Value) : ED w cb a len cap gr gs zs (wr.setCell ⟨gv, j, none⟩ u) :=
  ⟨h.size, hp_set h.here h1 j u, hp_set h.res h2 j u, h.cur.stored (h.lt W) (by have := W.ltc; omega) (fun h0 b off e => by have := W.code h0 b off e; omega) u, gr_store h.gro hv⟩
theorem ED.store {w wr : World} {cb : Nat} {a : Option Addr} {len cap gr gs : Nat} {zs : List Int} (h : ED w cb a len cap gr gs zs wr) (W : SDw w cb a len gr gs) (j : Nat) (x : Int) : ED w cb a len cap gr gs (zs.set j x) (wr.setCell ⟨gs, j, none⟩ (.int .i64 x)) := by
  refine ⟨by simp [h.size], ?_, hp_set h.res W.ne j _, h.cur.stored (h.lt W) (by have := W.ltc; have := W.ges; omega) (fun h0 b off e => by have := W.code h0 b off e; have := W.ges; omega) _, gr_store h.gro W.ges⟩
  rw [Go.Joins.block_setCell h.here (.int .i64 x)]
  simp [List.map_set]
theorem ED.cell {w wr : World} {cb : Nat} {a : Option Addr} {len cap gr gs : Nat} {zs : List Int} (h : ED w cb a len cap gr gs zs wr) (j : Nat) (hj : j < 4) : wr.cell? ⟨gs, j, none⟩ = some (.int .i64 (zs.getD j 0)) := by
  rw [Go.Joins.cell_of_block h.here j]
  have : j < zs.length := by rw [h.size]; exact hj
  simp [this]
theorem ED.fz {w wr : World} {cb : Nat} {a : Option Addr} {len cap gr gs : Nat} {zs : List Int} (h : ED w cb a len cap gr gs zs wr) (j : Nat) : wr.frozen? ⟨gs, j, none⟩ = false := Go.Joins.unfrozen_of_block h.here j

set_option maxHeartbeats 1000000 in
theorem edges_any (cb : Nat) (a : Option Addr) (len cap : Nat) (w : World) (hcb : cb < w.heap.size) (hlt : 0 < len → ∀ b off, a = some ⟨b, off, none⟩ → b < w.heap.size) (hc : Cur cb a len cap w) :
    Calls Try.prog 82 #[.pointer (some ⟨cb, 0, none⟩)] w (EdgPost cb a len cap w) := by
  have WW := Lib.hid (show SDw w cb a len w.heap.size (w.heap.size + 1) from ⟨hcb, Nat.le_refl _, Nat.le_succ _, by omega, hlt⟩)
  have h0 : ED w cb a len cap w.heap.size (w.heap.size + 1) [0, 0, 0, 0] ((w.alloc (.cells #[.int .i64 0, .int .i64 0, .int .i64 0, .int .i64 0] 29)).alloc (.cells #[.int .i64 0, .int .i64 0, .int .i64 0, .int .i64 0] 29)) := by
    refine ⟨rfl, ?_, hp_on (hp_new w _) _, ?_, gr_trans (gr_new w (.cells #[.int .i64 0, .int .i64 0, .int .i64 0, .int .i64 0] 29) cb) (gr_new _ (.cells #[.int .i64 0, .int .i64 0, .int .i64 0, .int .i64 0] 29) cb)⟩
    · have := hp_new (w.alloc (.cells #[.int .i64 0, .int .i64 0, .int .i64 0, .int .i64 0] 29)) (.cells #[.int .i64 0, .int .i64 0, .int .i64 0, .int .i64 0] 29)
      rwa [World.size_alloc] at this
    · exact (hc.kept hcb (World.grownBy_alloc w (.cells #[.int .i64 0, .int .i64 0, .int .i64 0, .int .i64 0] 29) none) (fun k hk => by cases hk)).kept (by simp; omega) (World.grownBy_alloc _ (.cells #[.int .i64 0, .int .i64 0, .int .i64 0, .int .i64 0] 29) none) (fun k hk => by cases hk)
  have H0 := Lib.hid h0
  clear h0 hlt hc hcb
  go_enter Try.func82, Try.ntmps82
  go_wp2_with (fail)
  generalize (w.alloc (.cells #[.int .i64 0, .int .i64 0, .int .i64 0, .int .i64 0] 29)).alloc (.cells #[.int .i64 0, .int .i64 0, .int .i64 0, .int .i64 0] 29) = u0 at *
  generalize ([0, 0, 0, 0] : List Int) = zs0 at *
  refine (once_any 2 cb a len cap _ (by omega) (by omega) H0.out.cur).mono ?_
  rintro e w1 ⟨t, rfl, c1, g1⟩
  have S1 := Lib.hid (H0.out.kept WW.out g1 c1)
  clear g1 c1 H0
  cases t
  · go_wp2_with (fail)
    refine (pick_lit [0, 64, 10, 33] 4 rfl (by omega) (by omega) (by decide) cb a len cap w1 (S1.out.lt WW.out) S1.out.cur).mono ?_
    rintro e x0 ⟨y0, rfl, _, _, c0, g0⟩
    have T0 := Lib.hid (S1.out.kept WW.out g0 c0)
    clear g0 c0 S1
    have B := T0.out.cell 0 (by omega)
    have F := T0.out.fz 0
    have S2 := Lib.hid (T0.out.store WW.out 0 y0)
    clear T0
    go_wp2_with (fail)
    clear B F
    have P := pick_lit [0, 64, 10, 33] 4 rfl (by omega) (by omega) (by decide) cb a len cap (x0.setCell ⟨w.heap.size + 1, 0, none⟩ (.int .i64 y0)) (S2.out.lt WW.out) S2.out.cur
    rw [size_set] at P
    generalize x0.setCell ⟨w.heap.size + 1, 0, none⟩ (.int .i64 y0) = v1 at *
    generalize zs0.set 0 y0 = zs1 at *
    refine P.mono ?_
    clear P
    rintro e x1 ⟨y1, rfl, _, _, c1, g1⟩
    have T1 := Lib.hid (S2.out.kept WW.out g1 c1)
    clear g1 c1 S2
    have B := T1.out.cell 1 (by omega)
    have F := T1.out.fz 1
    have S3 := Lib.hid (T1.out.store WW.out 1 y1)
    clear T1
    go_wp2_with (fail)
    clear B F
    have P := pick_lit [0, 64, 10] 3 rfl (by omega) (by omega) (by decide) cb a len cap (x1.setCell ⟨w.heap.size + 1, 1, none⟩ (.int .i64 y1)) (S3.out.lt WW.out) S3.out.cur
    rw [size_set] at P
    generalize x1.setCell ⟨w.heap.size + 1, 1, none⟩ (.int .i64 y1) = v2 at *
    generalize zs1.set 1 y1 = zs2 at *
    refine P.mono ?_
    clear P
    rintro e x2 ⟨y2, rfl, _, _, c2, g2⟩
    have T2 := Lib.hid (S3.out.kept WW.out g2 c2)
    clear g2 c2 S3
    have B := T2.out.cell 2 (by omega)
    have F := T2.out.fz 2
    have S4 := Lib.hid (T2.out.store WW.out 2 y2)
    clear T2
    go_wp2_with (fail)
    clear B F
    have P := pick_lit [0, 64, 10] 3 rfl (by omega) (by omega) (by decide) cb a len cap (x2.setCell ⟨w.heap.size + 1, 2, none⟩ (.int .i64 y2)) (S4.out.lt WW.out) S4.out.cur
    rw [size_set] at P
    generalize x2.setCell ⟨w.heap.size + 1, 2, none⟩ (.int .i64 y2) = v3 at *
    generalize zs2.set 2 y2 = zs3 at *
    refine P.mono ?_
    clear P
    rintro e x3 ⟨y3, rfl, _, _, c3, g3⟩
    have T3 := Lib.hid (S4.out.kept WW.out g3 c3)
    clear g3 c3 S4
    generalize hzs : zs3 = zs at *
    have z0 := T3.out.cell 0 (by omega)
    have z1 := T3.out.cell 1 (by omega)
    have z2 := T3.out.cell 2 (by omega)
    have z3 := T3.out.cell 3 (by omega)
    have F3 := T3.out.fz 3
    have SA := Lib.hid (T3.out.store WW.out 3 y3)
    have hR := T3.out.res
    have y0 := Go.Joins.cell_of_block hR 0
    have G0 := Go.Joins.unfrozen_of_block hR 0
    have y1 := Go.Joins.cell_of_block hR 1
    have G1 := Go.Joins.unfrozen_of_block hR 1
    have y2 := Go.Joins.cell_of_block hR 2
    have G2 := Go.Joins.unfrozen_of_block hR 2
    have y3 := Go.Joins.cell_of_block hR 3
    have G3 := Go.Joins.unfrozen_of_block hR 3
    simp at y0 y1 y2 y3
    clear hR
    generalize zs.getD 0 0 = Z0 at z0
    generalize zs.getD 1 0 = Z1 at z1
    generalize zs.getD 2 0 = Z2 at z2
    generalize zs.getD 3 0 = Z3 at z3
    have hgg := WW.out.ne
    have hgg2 := hgg.symm
    go_wp2
    clear z0 y0 G0 z1 y1 G1 z2 y2 G2 z3 y3 G3
    have h9 := (Go.Joins.block_setCell (Go.Joins.block_setCell (Go.Joins.block_setCell (Go.Joins.block_setCell SA.out.res (i := 0) (.int .i64 Z0)) (i := 1) (.int .i64 Z1)) (i := 2) (.int .i64 Z2)) (i := 3) (.int .i64 y3))
    have g9 := (gr_store (j := 3) (u := .int .i64 y3) (gr_store (j := 2) (u := .int .i64 Z2) (gr_store (j := 1) (u := .int .i64 Z1) (gr_store (j := 0) (u := .int .i64 Z0) SA.out.gro (Nat.le_refl _)) (Nat.le_refl _)) (Nat.le_refl _)) (Nat.le_refl _))
    have c9 := (Cur.stored (Cur.stored (Cur.stored (Cur.stored SA.out.cur (SA.out.lt WW.out) (j := 0) WW.out.ltc WW.out.code (.int .i64 Z0)) (by rw [size_set]; exact SA.out.lt WW.out) (j := 1) WW.out.ltc WW.out.code (.int .i64 Z1)) (by rw [size_set, size_set]; exact SA.out.lt WW.out) (j := 2) WW.out.ltc WW.out.code (.int .i64 Z2)) (by rw [size_set, size_set, size_set]; exact SA.out.lt WW.out) (j := 3) WW.out.ltc WW.out.code (.int .i64 y3))
    generalize (((((x3.setCell ⟨w.heap.size + 1, 3, none⟩ (.int .i64 y3)).setCell ⟨w.heap.size, 0, none⟩ (.int .i64 Z0)).setCell ⟨w.heap.size, 1, none⟩ (.int .i64 Z1)).setCell ⟨w.heap.size, 2, none⟩ (.int .i64 Z2)).setCell ⟨w.heap.size, 3, none⟩ (.int .i64 y3)) = u9 at *
    have h9' : u9.heap[w.heap.size]? = some (.cells #[.int .i64 Z0, .int .i64 Z1, .int .i64 Z2, .int .i64 y3] 29) := by simpa using h9
    have D0 := Go.Joins.cell_of_block h9' 0
    have D1 := Go.Joins.cell_of_block h9' 1
    have D2 := Go.Joins.cell_of_block h9' 2
    have D3 := Go.Joins.cell_of_block h9' 3
    simp at D0 D1 D2 D3
    exact bodyPost_ret (v := .agg #[.int .i64 Z0, .int .i64 Z1, .int .i64 Z2, .int .i64 y3]) (by simp [results, Try.results82, go_sem, D0, D1, D2, D3]) rfl ⟨Z0, Z1, Z2, y3, rfl, c9, g9⟩
  · generalize hzs : zs0 = zs at *
    have z0 := S1.out.cell 0 (by omega)
    have z1 := S1.out.cell 1 (by omega)
    have z2 := S1.out.cell 2 (by omega)
    have z3 := S1.out.cell 3 (by omega)
    have hR := S1.out.res
    have y0 := Go.Joins.cell_of_block hR 0
    have G0 := Go.Joins.unfrozen_of_block hR 0
    have y1 := Go.Joins.cell_of_block hR 1
    have G1 := Go.Joins.unfrozen_of_block hR 1
    have y2 := Go.Joins.cell_of_block hR 2
    have G2 := Go.Joins.unfrozen_of_block hR 2
    have y3 := Go.Joins.cell_of_block hR 3
    have G3 := Go.Joins.unfrozen_of_block hR 3
    simp at y0 y1 y2 y3
    clear hR
    generalize zs.getD 0 0 = Z0 at z0
    generalize zs.getD 1 0 = Z1 at z1
    generalize zs.getD 2 0 = Z2 at z2
    generalize zs.getD 3 0 = Z3 at z3
    have hgg := WW.out.ne
    have hgg2 := hgg.symm
    go_wp2
    clear z0 y0 G0 z1 y1 G1 z2 y2 G2 z3 y3 G3
    have h9 := (Go.Joins.block_setCell (Go.Joins.block_setCell (Go.Joins.block_setCell (Go.Joins.block_setCell S1.out.res (i := 0) (.int .i64 Z0)) (i := 1) (.int .i64 Z1)) (i := 2) (.int .i64 Z2)) (i := 3) (.int .i64 Z3))
    have g9 := (gr_store (j := 3) (u := .int .i64 Z3) (gr_store (j := 2) (u := .int .i64 Z2) (gr_store (j := 1) (u := .int .i64 Z1) (gr_store (j := 0) (u := .int .i64 Z0) S1.out.gro (Nat.le_refl _)) (Nat.le_refl _)) (Nat.le_refl _)) (Nat.le_refl _))
    have c9 := (Cur.stored (Cur.stored (Cur.stored (Cur.stored S1.out.cur (S1.out.lt WW.out) (j := 0) WW.out.ltc WW.out.code (.int .i64 Z0)) (by rw [size_set]; exact S1.out.lt WW.out) (j := 1) WW.out.ltc WW.out.code (.int .i64 Z1)) (by rw [size_set, size_set]; exact S1.out.lt WW.out) (j := 2) WW.out.ltc WW.out.code (.int .i64 Z2)) (by rw [size_set, size_set, size_set]; exact S1.out.lt WW.out) (j := 3) WW.out.ltc WW.out.code (.int .i64 Z3))
    generalize ((((w1.setCell ⟨w.heap.size, 0, none⟩ (.int .i64 Z0)).setCell ⟨w.heap.size, 1, none⟩ (.int .i64 Z1)).setCell ⟨w.heap.size, 2, none⟩ (.int .i64 Z2)).setCell ⟨w.heap.size, 3, none⟩ (.int .i64 Z3)) = u9 at *
    have h9' : u9.heap[w.heap.size]? = some (.cells #[.int .i64 Z0, .int .i64 Z1, .int .i64 Z2, .int .i64 Z3] 29) := by simpa using h9
    have D0 := Go.Joins.cell_of_block h9' 0
    have D1 := Go.Joins.cell_of_block h9' 1
    have D2 := Go.Joins.cell_of_block h9' 2
    have D3 := Go.Joins.cell_of_block h9' 3
    simp at D0 D1 D2 D3
    exact bodyPost_ret (v := .agg #[.int .i64 Z0, .int .i64 Z1, .int .i64 Z2, .int .i64 Z3]) (by simp [results, Try.results82, go_sem, D0, D1, D2, D3]) rfl ⟨Z0, Z1, Z2, Z3, rfl, c9, g9⟩

set_option maxHeartbeats 1000000 in
theorem anyedg (cb : Nat) (a : Option Addr) (len cap : Nat) (w : World) (hcb : cb < w.heap.size) (hlt : 0 < len → ∀ b off, a = some ⟨b, off, none⟩ → b < w.heap.size) (hc : Cur cb a len cap w) :
    Calls Try.prog 70 #[.pointer (some ⟨cb, 0, none⟩)] w (EdgPost cb a len cap w) := by
  have hr0 := hp_new w (.cells #[.int .i64 0, .int .i64 0, .int .i64 0, .int .i64 0] 29)
  have g0 := gr_new w (.cells #[.int .i64 0, .int .i64 0, .int .i64 0, .int .i64 0] 29) cb
  have c0 := hc.kept hcb (World.grownBy_alloc w (.cells #[.int .i64 0, .int .i64 0, .int .i64 0, .int .i64 0] 29) none) (fun k hk => by cases hk)
  have hs0 : w.heap.size < (w.alloc (.cells #[.int .i64 0, .int .i64 0, .int .i64 0, .int .i64 0] 29)).heap.size := by simp
  go_enter Try.func70, Try.ntmps70
  go_wp2_with (fail)
  generalize w.alloc (.cells #[.int .i64 0, .int .i64 0, .int .i64 0, .int .i64 0] 29) = u0 at *
  refine (edges_any cb a len cap u0 (by omega) (fun h b off e => by have := hlt h b off e; omega) c0).mono ?_
  rintro e w1 ⟨p, q, r, s, rfl, c1, g1⟩
  have hr1 := blk_kept hr0 g1 (by omega)
  have WW := Lib.hid (show SDw w cb a len w.heap.size w1.heap.size from ⟨hcb, Nat.le_refl _, by have := g1.size; omega, by have := g1.size; omega, hlt⟩)
  have G1 := gr_trans g0 g1
  have hl1 : cb < w1.heap.size := by have := g1.size; omega
  have S1 := Lib.hid (show ED w cb a len cap w.heap.size w1.heap.size [p, q, r, s] (w1.alloc (.cells #[.int .i64 p, .int .i64 q, .int .i64 r, .int .i64 s] 29)) from
    ⟨rfl, hp_new w1 _, hp_on hr1 _, c1.kept hl1 (World.grownBy_alloc w1 _ none) (fun k hk => by cases hk), gr_trans G1 (gr_new w1 _ cb)⟩)
  clear G1 g1 c1 hr1 hr0 g0 c0 hc hlt hcb
  go_wp2_with (fail)
  generalize w1.alloc (.cells #[.int .i64 p, .int .i64 q, .int .i64 r, .int .i64 s] 29) = u1 at *
  generalize [p, q, r, s] = zs0 at *
  generalize w1.heap.size = gs at *
  refine (once_any 6 cb a len cap _ (by omega) (by omega) S1.out.cur).mono ?_
  rintro e w2 ⟨t, rfl, c2, g2⟩
  have S2 := Lib.hid (S1.out.kept WW.out g2 c2)
  clear S1 g2 c2
  cases t
  · generalize hzs : zs0 = zs at *
    have z0 := S2.out.cell 0 (by omega)
    have z1 := S2.out.cell 1 (by omega)
    have z2 := S2.out.cell 2 (by omega)
    have z3 := S2.out.cell 3 (by omega)
    have hR := S2.out.res
    have y0 := Go.Joins.cell_of_block hR 0
    have G0 := Go.Joins.unfrozen_of_block hR 0
    have y1 := Go.Joins.cell_of_block hR 1
    have G1 := Go.Joins.unfrozen_of_block hR 1
    have y2 := Go.Joins.cell_of_block hR 2
    have G2 := Go.Joins.unfrozen_of_block hR 2
    have y3 := Go.Joins.cell_of_block hR 3
    have G3 := Go.Joins.unfrozen_of_block hR 3
    simp at y0 y1 y2 y3
    clear hR
    generalize zs.getD 0 0 = Z0 at z0
    generalize zs.getD 1 0 = Z1 at z1
    generalize zs.getD 2 0 = Z2 at z2
    generalize zs.getD 3 0 = Z3 at z3
    have hgg := WW.out.ne
    have hgg2 := hgg.symm
    go_wp2
    clear z0 y0 G0 z1 y1 G1 z2 y2 G2 z3 y3 G3
    have h9 := (Go.Joins.block_setCell (Go.Joins.block_setCell (Go.Joins.block_setCell (Go.Joins.block_setCell S2.out.res (i := 0) (.int .i64 Z0)) (i := 1) (.int .i64 Z1)) (i := 2) (.int .i64 Z2)) (i := 3) (.int .i64 Z3))
    have g9 := (gr_store (j := 3) (u := .int .i64 Z3) (gr_store (j := 2) (u := .int .i64 Z2) (gr_store (j := 1) (u := .int .i64 Z1) (gr_store (j := 0) (u := .int .i64 Z0) S2.out.gro (Nat.le_refl _)) (Nat.le_refl _)) (Nat.le_refl _)) (Nat.le_refl _))
    have c9 := (Cur.stored (Cur.stored (Cur.stored (Cur.stored S2.out.cur (S2.out.lt WW.out) (j := 0) WW.out.ltc WW.out.code (.int .i64 Z0)) (by rw [size_set]; exact S2.out.lt WW.out) (j := 1) WW.out.ltc WW.out.code (.int .i64 Z1)) (by rw [size_set, size_set]; exact S2.out.lt WW.out) (j := 2) WW.out.ltc WW.out.code (.int .i64 Z2)) (by rw [size_set, size_set, size_set]; exact S2.out.lt WW.out) (j := 3) WW.out.ltc WW.out.code (.int .i64 Z3))
    generalize ((((w2.setCell ⟨w.heap.size, 0, none⟩ (.int .i64 Z0)).setCell ⟨w.heap.size, 1, none⟩ (.int .i64 Z1)).setCell ⟨w.heap.size, 2, none⟩ (.int .i64 Z2)).setCell ⟨w.heap.size, 3, none⟩ (.int .i64 Z3)) = u9 at *
    have h9' : u9.heap[w.heap.size]? = some (.cells #[.int .i64 Z0, .int .i64 Z1, .int .i64 Z2, .int .i64 Z3] 29) := by simpa using h9
    have D0 := Go.Joins.cell_of_block h9' 0
    have D1 := Go.Joins.cell_of_block h9' 1
    have D2 := Go.Joins.cell_of_block h9' 2
    have D3 := Go.Joins.cell_of_block h9' 3
    simp at D0 D1 D2 D3
    exact bodyPost_ret (v := .agg #[.int .i64 Z0, .int .i64 Z1, .int .i64 Z2, .int .i64 Z3]) (by simp [results, Try.results70, go_sem, D0, D1, D2, D3]) rfl ⟨Z0, Z1, Z2, Z3, rfl, c9, g9⟩
  · go_wp2_with (fail)
    refine (l02_any cb a len cap _ (S2.out.lt WW.out) S2.out.cur).mono ?_
    rintro e w3 ⟨y, rfl, _, _, c3, g3⟩
    have S3 := Lib.hid (S2.out.kept WW.out g3 c3)
    clear S2 g3 c3
    generalize hzs : zs0 = zs at *
    have z0 := S3.out.cell 0 (by omega)
    have z1 := S3.out.cell 1 (by omega)
    have z2 := S3.out.cell 2 (by omega)
    have z3 := S3.out.cell 3 (by omega)
    have F2 := S3.out.fz 2
    have SA := Lib.hid (S3.out.store WW.out 2 y)
    have hR := S3.out.res
    have y0 := Go.Joins.cell_of_block hR 0
    have G0 := Go.Joins.unfrozen_of_block hR 0
    have y1 := Go.Joins.cell_of_block hR 1
    have G1 := Go.Joins.unfrozen_of_block hR 1
    have y2 := Go.Joins.cell_of_block hR 2
    have G2 := Go.Joins.unfrozen_of_block hR 2
    have y3 := Go.Joins.cell_of_block hR 3
    have G3 := Go.Joins.unfrozen_of_block hR 3
    simp at y0 y1 y2 y3
    clear hR
    generalize zs.getD 0 0 = Z0 at z0
    generalize zs.getD 1 0 = Z1 at z1
    generalize zs.getD 2 0 = Z2 at z2
    generalize zs.getD 3 0 = Z3 at z3
    have hgg := WW.out.ne
    have hgg2 := hgg.symm
    go_wp2
    clear z0 y0 G0 z1 y1 G1 z2 y2 G2 z3 y3 G3
    have h9 := (Go.Joins.block_setCell (Go.Joins.block_setCell (Go.Joins.block_setCell (Go.Joins.block_setCell SA.out.res (i := 0) (.int .i64 Z0)) (i := 1) (.int .i64 Z1)) (i := 2) (.int .i64 y)) (i := 3) (.int .i64 Z3))
    have g9 := (gr_store (j := 3) (u := .int .i64 Z3) (gr_store (j := 2) (u := .int .i64 y) (gr_store (j := 1) (u := .int .i64 Z1) (gr_store (j := 0) (u := .int .i64 Z0) SA.out.gro (Nat.le_refl _)) (Nat.le_refl _)) (Nat.le_refl _)) (Nat.le_refl _))
    have c9 := (Cur.stored (Cur.stored (Cur.stored (Cur.stored SA.out.cur (SA.out.lt WW.out) (j := 0) WW.out.ltc WW.out.code (.int .i64 Z0)) (by rw [size_set]; exact SA.out.lt WW.out) (j := 1) WW.out.ltc WW.out.code (.int .i64 Z1)) (by rw [size_set, size_set]; exact SA.out.lt WW.out) (j := 2) WW.out.ltc WW.out.code (.int .i64 y)) (by rw [size_set, size_set, size_set]; exact SA.out.lt WW.out) (j := 3) WW.out.ltc WW.out.code (.int .i64 Z3))
    generalize (((((w3.setCell ⟨gs, 2, none⟩ (.int .i64 y)).setCell ⟨w.heap.size, 0, none⟩ (.int .i64 Z0)).setCell ⟨w.heap.size, 1, none⟩ (.int .i64 Z1)).setCell ⟨w.heap.size, 2, none⟩ (.int .i64 y)).setCell ⟨w.heap.size, 3, none⟩ (.int .i64 Z3)) = u9 at *
    have h9' : u9.heap[w.heap.size]? = some (.cells #[.int .i64 Z0, .int .i64 Z1, .int .i64 y, .int .i64 Z3] 29) := by simpa using h9
    have D0 := Go.Joins.cell_of_block h9' 0
    have D1 := Go.Joins.cell_of_block h9' 1
    have D2 := Go.Joins.cell_of_block h9' 2
    have D3 := Go.Joins.cell_of_block h9' 3
    simp at D0 D1 D2 D3
    exact bodyPost_ret (v := .agg #[.int .i64 Z0, .int .i64 Z1, .int .i64 y, .int .i64 Z3]) (by simp [results, Try.results70, go_sem, D0, D1, D2, D3]) rfl ⟨Z0, Z1, y, Z3, rfl, c9, g9⟩
end Go.Proofs.Ytpmfijaclncfhaa

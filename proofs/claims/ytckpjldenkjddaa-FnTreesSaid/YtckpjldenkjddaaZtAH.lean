import Derived.Test.YtckpjldenkjddaaZtAB
import Derived.Test.YtckpjldenkjddaaZtAD
import Derived.Test.YtckpjldenkjddaaZtAG
section
namespace Go.Proofs.Ytckpjldenkjddaa
open Go.ChangeShapes Go.WideShapes Go.ChangeAt Go.RowKit

/-- One chance of n (spec.l01Once). -/
def OncePost (cb : Nat) (a : Option Addr) (len cap : Nat) (w : World) (e : Ending) (w' : World) : Prop := ∃ t : Bool, e = .returned (.bool t) ∧ Cur cb a len cap w' ∧ w.grownBy w' (some cb)
theorem once_any (n : Int) (cb : Nat) (a : Option Addr) (len cap : Nat) (w : World) (h1 : 1 ≤ n) (h2 : n ≤ 1000000) (hc : Cur cb a len cap w) :
    Calls Try.prog 58 #[.pointer (some ⟨cb, 0, none⟩), .int .i64 n] w (OncePost cb a len cap w) := by
  go_enter Try.func58, Try.ntmps58
  go_wp2_with (fail)
  refine (below_pos n cb a len cap w (by omega) (by omega) hc).mono ?_
  rintro e w1 ⟨x, rfl, x0, x1, c1, g1, s1⟩
  have S1 := Lib.hid s1
  clear s1
  go_wp2
  go_ret
  exact ⟨_, rfl, c1, g1⟩
end Go.Proofs.Ytckpjldenkjddaa
end
section
namespace Go.Proofs.Ytckpjldenkjddaa
open Go.ChangeShapes Go.WideShapes Go.ChangeAt Go.RowKit

/-- What stands while sides are drawn: the sides so far in block gs, the result's block gr, the cursor. -/
structure SD (w : World) (cb : Nat) (a : Option Addr) (len cap gr gs : Nat) (zs : List Int) (wr : World) : Prop where
  size : zs.length = 12
  here : wr.heap[gs]? = some (.cells (zs.map (Value.int .i64)).toArray 37 (0, 0))
  res : wr.heap[gr]? = some (.cells #[.int .i64 0, .int .i64 0, .int .i64 0, .int .i64 0, .int .i64 0, .int .i64 0, .int .i64 0, .int .i64 0, .int .i64 0, .int .i64 0, .int .i64 0, .int .i64 0] 37 (0, 0))
  cur : Cur cb a len cap wr
  gro : w.grownBy wr (some cb)
/-- Where the blocks lie. -/
structure SDw (w : World) (cb : Nat) (a : Option Addr) (len gr gs : Nat) : Prop where
  ltc : cb < w.heap.size
  ger : w.heap.size ≤ gr
  ges : w.heap.size ≤ gs
  ne : gr ≠ gs
  code : 0 < len → ∀ b off, a = some ⟨b, off, none⟩ → b < w.heap.size
theorem SD.kept {w wr w' : World} {cb : Nat} {a : Option Addr} {len cap gr gs : Nat} {zs : List Int} (h : SD w cb a len cap gr gs zs wr) (W : SDw w cb a len gr gs) (g : wr.grownBy w' (some cb)) (c : Cur cb a len cap w') : SD w cb a len cap gr gs zs w' :=
  ⟨h.size, blk_kept h.here g (by have := W.ltc; have := W.ges; omega), blk_kept h.res g (by have := W.ltc; have := W.ger; omega), c, gr_trans h.gro g⟩
theorem SD.lt {w wr : World} {cb : Nat} {a : Option Addr} {len cap gr gs : Nat} {zs : List Int} (h : SD w cb a len cap gr gs zs wr) (W : SDw w cb a len gr gs) : cb < wr.heap.size := Nat.lt_of_lt_of_le W.ltc h.gro.size
theorem SD.new {w wr : World} {cb : Nat} {a : Option Addr} {len cap gr gs : Nat} {zs : List Int} (h : SD w cb a len cap gr gs zs wr) (W : SDw w cb a len gr gs) (o : Obj) : SD w cb a len cap gr gs zs (wr.alloc o) :=
  h.kept W (gr_new wr o cb) (h.cur.kept (h.lt W) (World.grownBy_alloc wr o none) (fun k hk => by cases hk))
/-- A store into a block of the draw's own that is neither. -/
theorem SD.other {w wr : World} {cb : Nat} {a : Option Addr} {len cap gr gs gv : Nat} {zs : List Int} (h : SD w cb a len cap gr gs zs wr) (W : SDw w cb a len gr gs) (hv : w.heap.size ≤ gv) (h1 : gs ≠ gv) (h2 : gr ≠ gv) (j : Nat) (u : Value) : SD w cb a len cap gr gs zs (wr.setCell ⟨gv, j, none⟩ u) :=
  ⟨h.size, hp_set h.here h1 j u, hp_set h.res h2 j u, h.cur.stored (h.lt W) (by have := W.ltc; omega) (fun h0 b off e => by have := W.code h0 b off e; omega) u, gr_store h.gro hv⟩
theorem SD.store {w wr : World} {cb : Nat} {a : Option Addr} {len cap gr gs : Nat} {zs : List Int} (h : SD w cb a len cap gr gs zs wr) (W : SDw w cb a len gr gs) (j : Nat) (x : Int) : SD w cb a len cap gr gs (zs.set j x) (wr.setCell ⟨gs, j, none⟩ (.int .i64 x)) := by
  refine ⟨by simp [h.size], ?_, hp_set h.res W.ne j _, h.cur.stored (h.lt W) (by have := W.ltc; have := W.ges; omega) (fun h0 b off e => by have := W.code h0 b off e; have := W.ges; omega) _, gr_store h.gro W.ges⟩
  rw [Go.Joins.block_setCell h.here (.int .i64 x)]
  simp [List.map_set]
theorem SD.cell {w wr : World} {cb : Nat} {a : Option Addr} {len cap gr gs : Nat} {zs : List Int} (h : SD w cb a len cap gr gs zs wr) (j : Nat) (hj : j < 12) : wr.cell? ⟨gs, j, none⟩ = some (.int .i64 (zs.getD j 0)) := by
  rw [Go.Joins.cell_of_block h.here j]
  have : j < zs.length := by rw [h.size]; exact hj
  simp [this]
theorem SD.fz {w wr : World} {cb : Nat} {a : Option Addr} {len cap gr gs : Nat} {zs : List Int} (h : SD w cb a len cap gr gs zs wr) (j : Nat) : wr.frozen? ⟨gs, j, none⟩ = false := Go.Joins.unfrozen_of_block h.here j
end Go.Proofs.Ytckpjldenkjddaa
end
section
namespace Go.Proofs.Ytckpjldenkjddaa
open Go.ChangeShapes Go.WideShapes Go.ChangeAt Go.RowKit

/-- What stands while edges are drawn: the edges so far in block gs, the result's block gr, the cursor. -/
structure ED (w : World) (cb : Nat) (a : Option Addr) (len cap gr gs : Nat) (zs : List Int) (wr : World) : Prop where
  size : zs.length = 4
  here : wr.heap[gs]? = some (.cells (zs.map (Value.int .i64)).toArray 39 (0, 0))
  res : wr.heap[gr]? = some (.cells #[.int .i64 0, .int .i64 0, .int .i64 0, .int .i64 0] 39 (0, 0))
  cur : Cur cb a len cap wr
  gro : w.grownBy wr (some cb)
theorem ED.kept {w wr w' : World} {cb : Nat} {a : Option Addr} {len cap gr gs : Nat} {zs : List Int} (h : ED w cb a len cap gr gs zs wr) (W : SDw w cb a len gr gs) (g : wr.grownBy w' (some cb)) (c : Cur cb a len cap w') : ED w cb a len cap gr gs zs w' :=
  ⟨h.size, blk_kept h.here g (by have := W.ltc; have := W.ges; omega), blk_kept h.res g (by have := W.ltc; have := W.ger; omega), c, gr_trans h.gro g⟩
theorem ED.lt {w wr : World} {cb : Nat} {a : Option Addr} {len cap gr gs : Nat} {zs : List Int} (h : ED w cb a len cap gr gs zs wr) (W : SDw w cb a len gr gs) : cb < wr.heap.size := Nat.lt_of_lt_of_le W.ltc h.gro.size
theorem ED.new {w wr : World} {cb : Nat} {a : Option Addr} {len cap gr gs : Nat} {zs : List Int} (h : ED w cb a len cap gr gs zs wr) (W : SDw w cb a len gr gs) (o : Obj) : ED w cb a len cap gr gs zs (wr.alloc o) :=
  h.kept W (gr_new wr o cb) (h.cur.kept (h.lt W) (World.grownBy_alloc wr o none) (fun k hk => by cases hk))
/-- A store into a block of the draw's own that is neither. -/
theorem ED.other {w wr : World} {cb : Nat} {a : Option Addr} {len cap gr gs gv : Nat} {zs : List Int} (h : ED w cb a len cap gr gs zs wr) (W : SDw w cb a len gr gs) (hv : w.heap.size ≤ gv) (h1 : gs ≠ gv) (h2 : gr ≠ gv) (j : Nat) (u : Value) : ED w cb a len cap gr gs zs (wr.setCell ⟨gv, j, none⟩ u) :=
  ⟨h.size, hp_set h.here h1 j u, hp_set h.res h2 j u, h.cur.stored (h.lt W) (by have := W.ltc; omega) (fun h0 b off e => by have := W.code h0 b off e; omega) u, gr_store h.gro hv⟩
theorem ED.store {w wr : World} {cb : Nat} {a : Option Addr} {len cap gr gs : Nat} {zs : List Int} (h : ED w cb a len cap gr gs zs wr) (W : SDw w cb a len gr gs) (j : Nat) (x : Int) : ED w cb a len cap gr gs (zs.set j x) (wr.setCell ⟨gs, j, none⟩ (.int .i64 x)) := by
  refine ⟨by simp [h.size], ?_, hp_set h.res W.ne j _, h.cur.stored (h.lt W) (by have := W.ltc; have := W.ges; omega) (fun h0 b off e => by have := W.code h0 b off e; have := W.ges; omega) _, gr_store h.gro W.ges⟩
  rw [Go.Joins.block_setCell h.here (.int .i64 x)]
  simp [List.map_set]
theorem ED.cell {w wr : World} {cb : Nat} {a : Option Addr} {len cap gr gs : Nat} {zs : List Int} (h : ED w cb a len cap gr gs zs wr) (j : Nat) (hj : j < 4) : wr.cell? ⟨gs, j, none⟩ = some (.int .i64 (zs.getD j 0)) := by
  rw [Go.Joins.cell_of_block h.here j]
  have : j < zs.length := by rw [h.size]; exact hj
  simp [this]
theorem ED.fz {w wr : World} {cb : Nat} {a : Option Addr} {len cap gr gs : Nat} {zs : List Int} (h : ED w cb a len cap gr gs zs wr) (j : Nat) : wr.frozen? ⟨gs, j, none⟩ = false := Go.Joins.unfrozen_of_block h.here j

end Go.Proofs.Ytckpjldenkjddaa
end

import Derived.Deep.CutBlock
import Derived.Deep.CutRange
import Derived.Deep.RegionHeld
import Derived.Test.YtckpjldenkjddaaZcAC
import Derived.Test.YtckpjldenkjddaaZcAD
import Derived.Test.YtckpjldenkjddaaZcBB
import Derived.Test.YtckpjldenkjddaaZcBC
import Derived.Test.YtckpjldenkjddaaZcBF
import Derived.Test.YtckpjldenkjddaaZcBG
section
namespace Go.Proofs.Ytckpjldenkjddaa
open Go.ChangeShapes Go.WideShapes Go.ChangeAt Go.RowKit
set_option linter.unusedSimpArgs false

/-- The new style. -/
def newF (i : Nat) : Int := if i = 0 ∨ i = 5 then 2 else if i = 1 ∨ i = 2 ∨ i = 3 then 1 else 0
theorem snew (w : World) :
    Calls Try.prog 82 #[] w fun e w' => e = .returned (.agg (sCells newF)) ∧ Below w.heap.size w w' := by
  go_enter Try.func82, Try.ntmps82
  have hz := Lib.hid (hp_new w (.cells (sCells fun _ => 0) 41))
  have h9 := Lib.hid (setRow_heap _ _ _ (sCells newF) _ _ (hp_new w (.cells (sCells fun _ => 0) 41)))
  have b9 := Lib.hid (below_setRow (Go.Joins.below_alloc1 w (.cells (sCells fun _ => 0) 41)) (g := w.heap.size) (Nat.le_refl _) (sCells newF))
  go_wp2_with (first
    | ((with_reducible apply list_alloc_sty); exact rfl; exact rfl; simp only [World.size_alloc, Act.put, List.setIfInBounds_toArray, List.set_cons_succ, List.set_cons_zero])
    | ((with_reducible apply list_build_sty (f := newF)); exact rfl; exact rfl; (kernel_rfl); simp only [Act.put, List.setIfInBounds_toArray, List.set_cons_succ, List.set_cons_zero])
    | ((with_reducible apply list_store_sty); exact rfl; exact rfl; exact rfl; exact rfl; (with_reducible exact hz.out); simp only [Act.put, List.setIfInBounds_toArray, List.set_cons_succ, List.set_cons_zero]))
  exact bodyPost_ret (results_sty rfl rfl h9.out) rfl ⟨rfl, b9.out⟩
end Go.Proofs.Ytckpjldenkjddaa
end
section
namespace Go.Proofs.Ytckpjldenkjddaa
open Go.ChangeShapes Go.WideShapes Go.ChangeAt Go.RowKit

/-- One chance of n (spec.l01Once). -/
def OncePost (cb : Nat) (a : Option Addr) (len cap : Nat) (w : World) (e : Ending) (w' : World) : Prop := ∃ t : Bool, e = .returned (.bool t) ∧ Cur cb a len cap w' ∧ w.grownBy w' (some cb)
theorem once_any (n : Int) (cb : Nat) (a : Option Addr) (len cap : Nat) (w : World) (h1 : 1 ≤ n) (h2 : n ≤ 1000000) (hc : Cur cb a len cap w) :
    Calls Try.prog 58 #[.pointer (some ⟨cb, 0, none⟩), .int .i64 n] w (OncePost cb a len cap w) := by
  go_enter Try.func58, Try.ntmps58
  go_wp2_with (fail)
  refine (below_pos n cb a len cap w (by omega) (by omega) hc).mono ?_
  rintro e w1 ⟨x, rfl, x0, x1, c1, g1, s1⟩
  have S1 := Lib.hid s1
  clear s1
  go_wp2
  go_ret
  exact ⟨_, rfl, c1, g1⟩
end Go.Proofs.Ytckpjldenkjddaa
end
section
namespace Go.Proofs.Ytckpjldenkjddaa
open Go.ChangeShapes Go.WideShapes Go.ChangeAt Go.RowKit

/-- What stands while sides are drawn: the sides so far in block gs, the result's block gr, the cursor. -/
structure SD (w : World) (cb : Nat) (a : Option Addr) (len cap gr gs : Nat) (zs : List Int) (wr : World) : Prop where
  size : zs.length = 12
  here : wr.heap[gs]? = some (.cells (zs.map (Value.int .i64)).toArray 37 (0, 0))
  res : wr.heap[gr]? = some (.cells #[.int .i64 0, .int .i64 0, .int .i64 0, .int .i64 0, .int .i64 0, .int .i64 0, .int .i64 0, .int .i64 0, .int .i64 0, .int .i64 0, .int .i64 0, .int .i64 0] 37 (0, 0))
  cur : Cur cb a len cap wr
  gro : w.grownBy wr (some cb)
/-- Where the blocks lie. -/
structure SDw (w : World) (cb : Nat) (a : Option Addr) (len gr gs : Nat) : Prop where
  ltc : cb < w.heap.size
  ger : w.heap.size ≤ gr
  ges : w.heap.size ≤ gs
  ne : gr ≠ gs
  code : 0 < len → ∀ b off, a = some ⟨b, off, none⟩ → b < w.heap.size
theorem SD.kept {w wr w' : World} {cb : Nat} {a : Option Addr} {len cap gr gs : Nat} {zs : List Int} (h : SD w cb a len cap gr gs zs wr) (W : SDw w cb a len gr gs) (g : wr.grownBy w' (some cb)) (c : Cur cb a len cap w') : SD w cb a len cap gr gs zs w' :=
  ⟨h.size, blk_kept h.here g (by have := W.ltc; have := W.ges; omega), blk_kept h.res g (by have := W.ltc; have := W.ger; omega), c, gr_trans h.gro g⟩
theorem SD.lt {w wr : World} {cb : Nat} {a : Option Addr} {len cap gr gs : Nat} {zs : List Int} (h : SD w cb a len cap gr gs zs wr) (W : SDw w cb a len gr gs) : cb < wr.heap.size := Nat.lt_of_lt_of_le W.ltc h.gro.size
theorem SD.new {w wr : World} {cb : Nat} {a : Option Addr} {len cap gr gs : Nat} {zs : List Int} (h : SD w cb a len cap gr gs zs wr) (W : SDw w cb a len gr gs) (o : Obj) : SD w cb a len cap gr gs zs (wr.alloc o) :=
  h.kept W (gr_new wr o cb) (h.cur.kept (h.lt W) (World.grownBy_alloc wr o none) (fun k hk => by cases hk))
/-- A store into a block of the draw's own that is neither. -/
theorem SD.other {w wr : World} {cb : Nat} {a : Option Addr} {len cap gr gs gv : Nat} {zs : List Int} (h : SD w cb a len cap gr gs zs wr) (W : SDw w cb a len gr gs) (hv : w.heap.size ≤ gv) (h1 : gs ≠ gv) (h2 : gr ≠ gv) (j : Nat) (u : Value) : SD w cb a len cap gr gs zs (wr.setCell ⟨gv, j, none⟩ u) :=
  ⟨h.size, hp_set h.here h1 j u, hp_set h.res h2 j u, h.cur.stored (h.lt W) (by have := W.ltc; omega) (fun h0 b off e => by have := W.code h0 b off e; omega) u, gr_store h.gro hv⟩
theorem SD.store {w wr : World} {cb : Nat} {a : Option Addr} {len cap gr gs : Nat} {zs : List Int} (h : SD w cb a len cap gr gs zs wr) (W : SDw w cb a len gr gs) (j : Nat) (x : Int) : SD w cb a len cap gr gs (zs.set j x) (wr.setCell ⟨gs, j, none⟩ (.int .i64 x)) := by
  refine ⟨by simp [h.size], ?_, hp_set h.res W.ne j _, h.cur.stored (h.lt W) (by have := W.ltc; have := W.ges; omega) (fun h0 b off e => by have := W.code h0 b off e; have := W.ges; omega) _, gr_store h.gro W.ges⟩
  rw [Go.Joins.block_setCell h.here (.int .i64 x)]
  simp [List.map_set]
theorem SD.cell {w wr : World} {cb : Nat} {a : Option Addr} {len cap gr gs : Nat} {zs : List Int} (h : SD w cb a len cap gr gs zs wr) (j : Nat) (hj : j < 12) : wr.cell? ⟨gs, j, none⟩ = some (.int .i64 (zs.getD j 0)) := by
  rw [Go.Joins.cell_of_block h.here j]
  have : j < zs.length := by rw [h.size]; exact hj
  simp [this]
theorem SD.fz {w wr : World} {cb : Nat} {a : Option Addr} {len cap gr gs : Nat} {zs : List Int} (h : SD w cb a len cap gr gs zs wr) (j : Nat) : wr.frozen? ⟨gs, j, none⟩ = false := Go.Joins.unfrozen_of_block h.here j
end Go.Proofs.Ytckpjldenkjddaa
end
section
namespace Go.Proofs.Ytckpjldenkjddaa
open Go.ChangeShapes Go.WideShapes Go.ChangeAt Go.RowKit

/-- What stands while edges are drawn: the edges so far in block gs, the result's block gr, the cursor. -/
structure ED (w : World) (cb : Nat) (a : Option Addr) (len cap gr gs : Nat) (zs : List Int) (wr : World) : Prop where
  size : zs.length = 4
  here : wr.heap[gs]? = some (.cells (zs.map (Value.int .i64)).toArray 39 (0, 0))
  res : wr.heap[gr]? = some (.cells #[.int .i64 0, .int .i64 0, .int .i64 0, .int .i64 0] 39 (0, 0))
  cur : Cur cb a len cap wr
  gro : w.grownBy wr (some cb)
theorem ED.kept {w wr w' : World} {cb : Nat} {a : Option Addr} {len cap gr gs : Nat} {zs : List Int} (h : ED w cb a len cap gr gs zs wr) (W : SDw w cb a len gr gs) (g : wr.grownBy w' (some cb)) (c : Cur cb a len cap w') : ED w cb a len cap gr gs zs w' :=
  ⟨h.size, blk_kept h.here g (by have := W.ltc; have := W.ges; omega), blk_kept h.res g (by have := W.ltc; have := W.ger; omega), c, gr_trans h.gro g⟩
theorem ED.lt {w wr : World} {cb : Nat} {a : Option Addr} {len cap gr gs : Nat} {zs : List Int} (h : ED w cb a len cap gr gs zs wr) (W : SDw w cb a len gr gs) : cb < wr.heap.size := Nat.lt_of_lt_of_le W.ltc h.gro.size
theorem ED.new {w wr : World} {cb : Nat} {a : Option Addr} {len cap gr gs : Nat} {zs : List Int} (h : ED w cb a len cap gr gs zs wr) (W : SDw w cb a len gr gs) (o : Obj) : ED w cb a len cap gr gs zs (wr.alloc o) :=
  h.kept W (gr_new wr o cb) (h.cur.kept (h.lt W) (World.grownBy_alloc wr o none) (fun k hk => by cases hk))
/-- A store into a block of the draw's own that is neither. -/
theorem ED.other {w wr : World} {cb : Nat} {a : Option Addr} {len cap gr gs gv : Nat} {zs : List Int} (h : ED w cb a len cap gr gs zs wr) (W : SDw w cb a len gr gs) (hv : w.heap.size ≤ gv) (h1 : gs ≠ gv) (h2 : gr ≠ gv) (j : Nat) (u : Value) : ED w cb a len cap gr gs zs (wr.setCell ⟨gv, j, none⟩ u) :=
  ⟨h.size, hp_set h.here h1 j u, hp_set h.res h2 j u, h.cur.stored (h.lt W) (by have := W.ltc; omega) (fun h0 b off e => by have := W.code h0 b off e; omega) u, gr_store h.gro hv⟩
theorem ED.store {w wr : World} {cb : Nat} {a : Option Addr} {len cap gr gs : Nat} {zs : List Int} (h : ED w cb a len cap gr gs zs wr) (W : SDw w cb a len gr gs) (j : Nat) (x : Int) : ED w cb a len cap gr gs (zs.set j x) (wr.setCell ⟨gs, j, none⟩ (.int .i64 x)) := by
  refine ⟨by simp [h.size], ?_, hp_set h.res W.ne j _, h.cur.stored (h.lt W) (by have := W.ltc; have := W.ges; omega) (fun h0 b off e => by have := W.code h0 b off e; have := W.ges; omega) _, gr_store h.gro W.ges⟩
  rw [Go.Joins.block_setCell h.here (.int .i64 x)]
  simp [List.map_set]
theorem ED.cell {w wr : World} {cb : Nat} {a : Option Addr} {len cap gr gs : Nat} {zs : List Int} (h : ED w cb a len cap gr gs zs wr) (j : Nat) (hj : j < 4) : wr.cell? ⟨gs, j, none⟩ = some (.int .i64 (zs.getD j 0)) := by
  rw [Go.Joins.cell_of_block h.here j]
  have : j < zs.length := by rw [h.size]; exact hj
  simp [this]
theorem ED.fz {w wr : World} {cb : Nat} {a : Option Addr} {len cap gr gs : Nat} {zs : List Int} (h : ED w cb a len cap gr gs zs wr) (j : Nat) : wr.frozen? ⟨gs, j, none⟩ = false := Go.Joins.unfrozen_of_block h.here j

end Go.Proofs.Ytckpjldenkjddaa
end
section
namespace Go.Proofs.Ytckpjldenkjddaa
open Go.ChangeShapes Go.WideShapes Go.ChangeAt Go.RowKit
set_option linter.unusedSimpArgs false
set_option linter.unusedVariables false

/-- What stands while a style is drawn: the style so far in block gs, the result's block gr, the cursor. -/
structure YS (w : World) (cb : Nat) (a : Option Addr) (len cap gr gs : Nat) (f : Nat → Int) (wr : World) : Prop where
  here : wr.heap[gs]? = some (.cells (sCells f) 41)
  res : wr.heap[gr]? = some (.cells (sCells fun _ => 0) 41)
  cur : Cur cb a len cap wr
  gro : w.grownBy wr (some cb)
theorem gr_below {w w' : World} (h : Below w.heap.size w w') (row : Option Nat) : w.grownBy w' row := ⟨h.os, h.tape, h.output, h.size, fun k hk _ => h.block k hk⟩
theorem gr_row {w w1 : World} {cb g : Nat} (h : w.grownBy w1 (some cb)) (hg : w.heap.size ≤ g) (cs : Array Value) : w.grownBy (w1.setRow g cs) (some cb) :=
  ⟨h.os, h.tape, h.output, by rw [setRow_size]; exact h.size, fun i hi hne => (setRow_other w1 g i cs (by omega)).trans (h.block i hi hne)⟩
section
variable {w wr w' : World} {cb : Nat} {a : Option Addr} {len cap gr gs : Nat} {f : Nat → Int}
theorem YS.kept (h : YS w cb a len cap gr gs f wr) (W : SDw w cb a len gr gs) (g : wr.grownBy w' (some cb)) (c : Cur cb a len cap w') : YS w cb a len cap gr gs f w' :=
  ⟨blk_kept h.here g (by have := W.ltc; have := W.ges; omega), blk_kept h.res g (by have := W.ltc; have := W.ger; omega), c, gr_trans h.gro g⟩
theorem YS.lt (h : YS w cb a len cap gr gs f wr) (W : SDw w cb a len gr gs) : cb < wr.heap.size := Nat.lt_of_lt_of_le W.ltc h.gro.size
theorem YS.code (h : YS w cb a len cap gr gs f wr) (W : SDw w cb a len gr gs) : 0 < len → ∀ b off, a = some ⟨b, off, none⟩ → b < wr.heap.size := fun h0 b off e => Nat.lt_of_lt_of_le (W.code h0 b off e) h.gro.size
theorem YS.store (h : YS w cb a len cap gr gs f wr) (W : SDw w cb a len gr gs) (k : Nat) (z : Int) (v : Value) (hk : k < 60) (hv : sCell k z = v) : YS w cb a len cap gr gs (upd f k z) (wr.setCell ⟨gs, k, none⟩ v) :=
  ⟨sty_put h.here k z v hk hv, hp_set h.res W.ne k v, h.cur.stored (h.lt W) (by have := W.ltc; have := W.ges; omega) (fun h0 b off e => by have := W.code h0 b off e; have := W.ges; omega) _, gr_store h.gro W.ges⟩
theorem YS.fin (h : YS w cb a len cap gr gs f wr) (W : SDw w cb a len gr gs) : Cur cb a len cap (wr.setRow gr (sCells f)) ∧ w.grownBy (wr.setRow gr (sCells f)) (some cb) :=
  ⟨h.cur.kept (row := some gr) (h.lt W) ⟨rfl, rfl, rfl, by rw [setRow_size]; exact Nat.le_refl _, fun i _ hne => setRow_other wr gr i _ (fun e => hne (by rw [e]))⟩ (fun k hk => by
    simp at hk
    subst hk
    exact ⟨by have := W.ltc; have := W.ger; omega, fun h0 b off e => by have := W.code h0 b off e; have := W.ger; omega⟩), gr_row h.gro W.ger _⟩
end
theorem YS.stores {w : World} {cb : Nat} {a : Option Addr} {len cap gr gs : Nat} (W : SDw w cb a len gr gs) : ∀ (zs : List Int) (o : Nat) (f : Nat → Int) (wr : World), YS w cb a len cap gr gs f wr → 8 ≤ o → o + zs.length ≤ 60 → YS w cb a len cap gr gs (updL f o zs) (wr.setCells gs o (zs.map (Value.int .i64)))
  | [], _, _, _, h, _, _ => h
  | z :: zs, o, f, wr, h, h8, hl => by
    simp only [List.length_cons] at hl
    exact YS.stores W zs (o + 1) (upd f o z) _ (h.store W o z _ (by omega) (sCell_int z (by omega))) (by omega) (by omega)
/-- A row of ints is stored into the style that is being drawn. -/
theorem list_put_ys {ops : Array Oper} {rest : List Oper} {op : Oper} {act : Act} {Q : Exit → Act → World → Prop} {w wr : World} {cb : Nat} {a : Option Addr} {len cap gr gs : Nat} {f : Nat → Int} (zs : List Int) (o : Nat) {ty : TypeId} (hgd : op.guard = none) {x y : Operand} (ho : op.op = .store ty x y) (hx : act.eval x = .pointer (some ⟨gs, o, none⟩)) (hy : act.eval y = .agg (zs.map (Value.int .i64)).toArray)
    (hi : (Try.prog.info? ty).map (·.size) = some zs.length) (hl : 8 ≤ o ∧ o + zs.length ≤ 60) (W : SDw w cb a len gr gs) (hs : YS w cb a len cap gr gs f wr)
    (h : ∀ u, YS w cb a len cap gr gs (updL f o zs) u → wpList Try.prog ops Q rest (act.put op.dst undef) u) : wpList Try.prog ops Q (op :: rest) act wr :=
  list_store_ints zs o hgd ho hx hy hi hl.2 hs.here (h _ (YS.stores W zs o f wr hs hl.1 hl.2))
theorem bz_of (t : Bool) (k : Nat) (hk : k = 6 ∨ k = 7) : sCell k (if t then 1 else 0) = .bool t := by
  unfold sCell
  rw [if_pos hk]
  cases t <;> rfl

end Go.Proofs.Ytckpjldenkjddaa
end
section
namespace Go.Proofs.Ytckpjldenkjddaa
open Go.ChangeShapes Go.WideShapes Go.ChangeAt Go.RowKit
set_option linter.unusedSimpArgs false
set_option linter.unusedVariables false

section
variable {ops : Array Oper} {S : World → Prop} {op : Oper} {a : Act} {g : Nat} {t : TypeId} {f : Nat → Int} {Q : Exit → Act → World → Prop} {K : Act → World → Prop} {w : World}
theorem wp_put_sty {f' : Nat → Int} {x y : Operand} (ho : op.op = .store 41 x y) (hx : a.eval x = .pointer (some ⟨g, 0, none⟩)) (hy : a.eval y = .agg (sCells f)) (hg : w.heap[g]? = some (.cells (sCells f') t)) (h : K (a.put op.dst undef) (w.setRow g (sCells f))) : op.wp Try.prog a w K Q :=
  wp_store_row _ x y ho g _ hx hy t _ hg (sty_size f) (by rw [sCells_size, sCells_size]) (sCells_one f) h
end

end Go.Proofs.Ytckpjldenkjddaa
end

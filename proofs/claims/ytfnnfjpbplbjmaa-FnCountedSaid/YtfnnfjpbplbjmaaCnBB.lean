import Derived.Laws.StructEq
import Derived.ChangeKeysEq
import Derived.Deep.CutBlock
import Derived.Deep.CutRange
import Derived.Test.YtfnnfjpbplbjmaaCnAC
import Derived.Test.YtfnnfjpbplbjmaaCnBA
section
namespace Go.Proofs.Ytfnnfjpbplbjmaa
open Go.ChangeShapes Go.WideShapes Go.ChangeAt Go.RowKit
set_option linter.unusedSimpArgs false

/-- The new style. -/
def newF (i : Nat) : Int := if i = 0 ∨ i = 5 then 2 else if i = 1 ∨ i = 2 ∨ i = 3 then 1 else 0
theorem snew (w : World) :
    Calls Try.prog 82 #[] w fun e w' => e = .returned (.agg (sCells newF)) ∧ Below w.heap.size w w' := by
  go_enter Try.func82, Try.ntmps82
  have hz := Lib.hid (hp_new w (.cells (sCells fun _ => 0) 41))
  have h9 := Lib.hid (setRow_heap _ _ _ (sCells newF) _ _ (hp_new w (.cells (sCells fun _ => 0) 41)))
  have b9 := Lib.hid (below_setRow (Go.Joins.below_alloc1 w (.cells (sCells fun _ => 0) 41)) (g := w.heap.size) (Nat.le_refl _) (sCells newF))
  go_wp2_with (first
    | ((with_reducible apply list_alloc_sty); exact rfl; exact rfl; simp only [World.size_alloc, Act.put, List.setIfInBounds_toArray, List.set_cons_succ, List.set_cons_zero])
    | ((with_reducible apply list_build_sty (f := newF)); exact rfl; exact rfl; (kernel_rfl); simp only [Act.put, List.setIfInBounds_toArray, List.set_cons_succ, List.set_cons_zero])
    | ((with_reducible apply list_store_sty); exact rfl; exact rfl; exact rfl; exact rfl; (with_reducible exact hz.out); simp only [Act.put, List.setIfInBounds_toArray, List.set_cons_succ, List.set_cons_zero]))
  exact bodyPost_ret (results_sty rfl rfl h9.out) rfl ⟨rfl, b9.out⟩
end Go.Proofs.Ytfnnfjpbplbjmaa
end
section
namespace Go.Proofs.Ytfnnfjpbplbjmaa
open Go.ChangeShapes Go.WideShapes Go.ChangeAt Go.RowKit

section
variable {P : Program} {dd : Nat} {xs ys : Array Value}
end
/-- Ints, and nothing else, in the first n places. -/
def IntRow (n : Nat) (xs : Array Value) : Prop := ∀ i, i < n → ∃ z, xs[i]? = some (.int .i64 z)
theorem IntRow.part {n : Nat} {xs : Array Value} (h : IntRow n xs) (o m : Nat) (hm : o + m ≤ n) : IntRow m (xs.extract o (o + m)) := fun i hi => by
  obtain ⟨z, hz⟩ := h (o + i) (by omega)
  refine ⟨z, ?_⟩
  have hlt := (Array.getElem?_eq_some_iff.1 hz).1
  rw [Array.getElem?_extract, if_pos (by omega), hz]
theorem val_size2 : (Try.prog.info? 35).map (·.size) = some 2 := by kernel_rfl
theorem sid_size12 : (Try.prog.info? 37).map (·.size) = some 12 := by kernel_rfl
theorem edg_size4 : (Try.prog.info? 39).map (·.size) = some 4 := by kernel_rfl
end Go.Proofs.Ytfnnfjpbplbjmaa
end
section
namespace Go.Proofs.Ytfnnfjpbplbjmaa
open Go.ChangeShapes Go.WideShapes Go.ChangeAt Go.RowKit
set_option linter.unusedSimpArgs false
set_option linter.unusedVariables false

/-- What stands while a style is drawn: the style so far in block gs, the result's block gr, the cursor. -/
structure YS (w : World) (cb : Nat) (a : Option Addr) (len cap gr gs : Nat) (f : Nat → Int) (wr : World) : Prop where
  here : wr.heap[gs]? = some (.cells (sCells f) 41)
  res : wr.heap[gr]? = some (.cells (sCells fun _ => 0) 41)
  cur : Cur cb a len cap wr
  gro : w.grownBy wr (some cb)
theorem gr_below {w w' : World} (h : Below w.heap.size w w') (row : Option Nat) : w.grownBy w' row := ⟨h.os, h.tape, h.output, h.size, fun k hk _ => h.block k hk⟩
theorem gr_row {w w1 : World} {cb g : Nat} (h : w.grownBy w1 (some cb)) (hg : w.heap.size ≤ g) (cs : Array Value) : w.grownBy (w1.setRow g cs) (some cb) :=
  ⟨h.os, h.tape, h.output, by rw [setRow_size]; exact h.size, fun i hi hne => (setRow_other w1 g i cs (by omega)).trans (h.block i hi hne)⟩
section
variable {w wr w' : World} {cb : Nat} {a : Option Addr} {len cap gr gs : Nat} {f : Nat → Int}
theorem YS.kept (h : YS w cb a len cap gr gs f wr) (W : SDw w cb a len gr gs) (g : wr.grownBy w' (some cb)) (c : Cur cb a len cap w') : YS w cb a len cap gr gs f w' :=
  ⟨blk_kept h.here g (by have := W.ltc; have := W.ges; omega), blk_kept h.res g (by have := W.ltc; have := W.ger; omega), c, gr_trans h.gro g⟩
theorem YS.lt (h : YS w cb a len cap gr gs f wr) (W : SDw w cb a len gr gs) : cb < wr.heap.size := Nat.lt_of_lt_of_le W.ltc h.gro.size
theorem YS.code (h : YS w cb a len cap gr gs f wr) (W : SDw w cb a len gr gs) : 0 < len → ∀ b off, a = some ⟨b, off, none⟩ → b < wr.heap.size := fun h0 b off e => Nat.lt_of_lt_of_le (W.code h0 b off e) h.gro.size
theorem YS.store (h : YS w cb a len cap gr gs f wr) (W : SDw w cb a len gr gs) (k : Nat) (z : Int) (v : Value) (hk : k < 60) (hv : sCell k z = v) : YS w cb a len cap gr gs (upd f k z) (wr.setCell ⟨gs, k, none⟩ v) :=
  ⟨sty_put h.here k z v hk hv, hp_set h.res W.ne k v, h.cur.stored (h.lt W) (by have := W.ltc; have := W.ges; omega) (fun h0 b off e => by have := W.code h0 b off e; have := W.ges; omega) _, gr_store h.gro W.ges⟩
theorem YS.fin (h : YS w cb a len cap gr gs f wr) (W : SDw w cb a len gr gs) : Cur cb a len cap (wr.setRow gr (sCells f)) ∧ w.grownBy (wr.setRow gr (sCells f)) (some cb) :=
  ⟨h.cur.kept (row := some gr) (h.lt W) ⟨rfl, rfl, rfl, by rw [setRow_size]; exact Nat.le_refl _, fun i _ hne => setRow_other wr gr i _ (fun e => hne (by rw [e]))⟩ (fun k hk => by
    simp at hk
    subst hk
    exact ⟨by have := W.ltc; have := W.ger; omega, fun h0 b off e => by have := W.code h0 b off e; have := W.ger; omega⟩), gr_row h.gro W.ger _⟩
end
theorem YS.stores {w : World} {cb : Nat} {a : Option Addr} {len cap gr gs : Nat} (W : SDw w cb a len gr gs) : ∀ (zs : List Int) (o : Nat) (f : Nat → Int) (wr : World), YS w cb a len cap gr gs f wr → 8 ≤ o → o + zs.length ≤ 60 → YS w cb a len cap gr gs (updL f o zs) (wr.setCells gs o (zs.map (Value.int .i64)))
  | [], _, _, _, h, _, _ => h
  | z :: zs, o, f, wr, h, h8, hl => by
    simp only [List.length_cons] at hl
    exact YS.stores W zs (o + 1) (upd f o z) _ (h.store W o z _ (by omega) (sCell_int z (by omega))) (by omega) (by omega)
/-- A row of ints is stored into the style that is being drawn. -/
theorem list_put_ys {ops : Array Oper} {rest : List Oper} {op : Oper} {act : Act} {Q : Exit → Act → World → Prop} {w wr : World} {cb : Nat} {a : Option Addr} {len cap gr gs : Nat} {f : Nat → Int} (zs : List Int) (o : Nat) {ty : TypeId} (hgd : op.guard = none) {x y : Operand} (ho : op.op = .store ty x y) (hx : act.eval x = .pointer (some ⟨gs, o, none⟩)) (hy : act.eval y = .agg (zs.map (Value.int .i64)).toArray)
    (hi : (Try.prog.info? ty).map (·.size) = some zs.length) (hl : 8 ≤ o ∧ o + zs.length ≤ 60) (W : SDw w cb a len gr gs) (hs : YS w cb a len cap gr gs f wr)
    (h : ∀ u, YS w cb a len cap gr gs (updL f o zs) u → wpList Try.prog ops Q rest (act.put op.dst undef) u) : wpList Try.prog ops Q (op :: rest) act wr :=
  list_store_ints zs o hgd ho hx hy hi hl.2 hs.here (h _ (YS.stores W zs o f wr hs hl.1 hl.2))
theorem bz_of (t : Bool) (k : Nat) (hk : k = 6 ∨ k = 7) : sCell k (if t then 1 else 0) = .bool t := by
  unfold sCell
  rw [if_pos hk]
  cases t <;> rfl

end Go.Proofs.Ytfnnfjpbplbjmaa
end
section
namespace Go.Proofs.Ytfnnfjpbplbjmaa
open Go.ChangeShapes Go.WideShapes Go.ChangeAt Go.RowKit
set_option linter.unusedSimpArgs false
set_option linter.unusedVariables false

def plF : Nat → Int := upd newF 0 1
section
variable {ops : Array Oper} {rest : List Oper} {op : Oper} {a : Act} {w w0 : World} {Q : Exit → Act → World → Prop} {g : Nat} {t : TypeId} {f : Nat → Int}
end
theorem plain_any (w : World) :
    Calls Try.prog 20 #[] w fun e w' => e = .returned (.agg (sCells plF)) ∧ Below w.heap.size w w' := by
  have hz := hp_new w (.cells (sCells fun _ => 0) 41)
  have bb := Go.Joins.below_alloc1 w (.cells (sCells fun _ => 0) 41)
  obtain ⟨u, eu⟩ : ∃ u, u = w.alloc (.cells (sCells fun _ => 0) 41) := ⟨_, rfl⟩
  rw [← eu] at hz bb
  have EU := Lib.hid eu
  clear eu
  go_enter Try.func20, Try.ntmps20
  go_wp2_with (first | (rw [← EU.out]) | ((with_reducible apply list_alloc_sty); exact rfl; exact rfl; simp only [World.size_alloc, Act.put, List.setIfInBounds_toArray, List.set_cons_succ, List.set_cons_zero]))
  refine (snew _).mono ?_
  rintro e w1 ⟨rfl, b1⟩
  replace hz := hp_below hz b1
  replace bb := bb.trans (b1.mono bb.size)
  clear b1
  have hlt := hp_lt hz
  (try dsimp only)
  go_wp2_with (first | ((with_reducible apply list_new_sty (f := newF)); exact rfl; exact rfl; exact rfl; exact rfl; exact rfl; exact rfl; exact rfl; intro v2 bv2 hv2; have F0 := sty_free hv2 0; have c0 := sty_int hv2 0 (by decide); have hq := sty_put hv2 0 1 (.int .i64 1) (by decide) (sCell_int 1 (by decide)); have HZ := hp_set (hp_below hz bv2) (show w.heap.size ≠ w1.heap.size by omega) 0 (.int .i64 1); have b9 := bl_set (bb.trans (bv2.mono bb.size)) 0 (show w.heap.size ≤ w1.heap.size by omega) (.int .i64 1); simp only [World.size_alloc, Act.put, List.setIfInBounds_toArray, List.set_cons_succ, List.set_cons_zero]) | ((with_reducible apply list_load_sty); exact rfl; exact rfl; exact rfl; (with_reducible exact hq); simp only [World.size_alloc, Act.put, List.setIfInBounds_toArray, List.set_cons_succ, List.set_cons_zero]) | ((with_reducible apply list_store_sty); exact rfl; exact rfl; exact rfl; exact rfl; (with_reducible exact HZ); simp only [World.size_alloc, Act.put, List.setIfInBounds_toArray, List.set_cons_succ, List.set_cons_zero]))
  exact bodyPost_ret (results_sty rfl rfl (setRow_heap _ _ _ (sCells plF) _ _ HZ)) rfl ⟨rfl, below_setRow b9 (Nat.le_refl _) _⟩
end Go.Proofs.Ytfnnfjpbplbjmaa
end

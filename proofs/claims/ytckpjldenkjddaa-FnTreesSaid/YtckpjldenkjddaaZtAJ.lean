import Derived.Lib.QuietBelow
import Derived.BigQuiet
import Derived.Deep.CutBlock
import Derived.Deep.CutRange
import Derived.Test.YtckpjldenkjddaaZtAD
import Derived.Test.YtckpjldenkjddaaZtAH
import Derived.Test.YtckpjldenkjddaaZtAI
section
namespace Go.Proofs.Ytckpjldenkjddaa
open Go.ChangeShapes Go.WideShapes Go.ChangeAt Go.RowKit
set_option linter.unusedVariables false

/-- The ints zs in the cells from o on. -/
def updL (f : Nat → Int) : Nat → List Int → (Nat → Int)
  | _, [] => f
  | o, z :: zs => updL (upd f o z) (o + 1) zs
theorem updL_at : ∀ (zs : List Int) (f : Nat → Int) (o i : Nat), updL f o zs i = if o ≤ i ∧ i < o + zs.length then zs.getD (i - o) 0 else f i
  | [], f, o, i => by rw [updL, if_neg (by simp only [List.length_nil]; omega)]
  | z :: zs, f, o, i => by
    rw [updL, updL_at zs]
    by_cases h1 : o + 1 ≤ i ∧ i < o + 1 + zs.length
    · have h2 : o ≤ i ∧ i < o + (z :: zs).length := by simp only [List.length_cons]; omega
      rw [if_pos h1, if_pos h2, show i - o = (i - (o + 1)) + 1 by omega, List.getD_cons_succ]
    · rw [if_neg h1]
      by_cases e : i = o
      · subst e; simp [upd]
      · have h2 : ¬ (o ≤ i ∧ i < o + (z :: zs).length) := by simp only [List.length_cons]; omega
        rw [if_neg h2]
        simp [upd, e]
section
variable {t : TypeId} {g : Nat}
theorem below_cells {B : Nat} {a : World} (hg : B ≤ g) : ∀ (vs : List Value) (o : Nat) (w : World), Below B a w → Below B a (w.setCells g o vs)
  | [], _, _, h => h
  | v :: vs, o, w, h => below_cells hg vs (o + 1) _ (bl_set h o hg v)
theorem sty_there {w : World} {f : Nat → Int} (h : w.heap[g]? = some (.cells (sCells f) t)) (o n : Nat) (hn : o + n ≤ 60) : w.there g o n := fun j hj =>
  ⟨by rw [sty_cell h (o + j) (by omega)]; rfl, sty_free h _⟩
theorem ints_one (zs : List Int) : ((zs.map (Value.int .i64)).toArray).all (·.oneCell') = true := by
  simp only [List.all_toArray, List.all_map, List.all_eq_true]
  intro z _
  rfl
end
section
variable {ops : Array Oper} {rest : List Oper} {op : Oper} {a : Act} {w : World} {Q : Exit → Act → World → Prop} {g : Nat} {t : TypeId} {f : Nat → Int}
theorem list_store_ints (zs : List Int) (o : Nat) {ty : TypeId} (hgd : op.guard = none) {x y : Operand} (ho : op.op = .store ty x y) (hx : a.eval x = .pointer (some ⟨g, o, none⟩)) (hy : a.eval y = .agg (zs.map (Value.int .i64)).toArray)
    (hi : (Try.prog.info? ty).map (·.size) = some zs.length) (hl : o + zs.length ≤ 60) (hg : w.heap[g]? = some (.cells (sCells f) t))
    (h : wpList Try.prog ops Q rest (a.put op.dst undef) (w.setCells g o (zs.map (Value.int .i64)))) : wpList Try.prog ops Q (op :: rest) a w :=
  wpList_store_mid hgd ty x y ho g o _ hx hy (sty_there hg o _ (by simpa using hl)) (by simpa using hi) (ints_one zs) h
end
/-- The same behind a guard that says yes. -/
theorem list_load_gsty {ops : Array Oper} {rest : List Oper} {op : Oper} {a : Act} {w : World} {Q : Exit → Act → World → Prop} {g : Nat} {t : TypeId} {f : Nat → Int} (hw : Region.wanted op (yielded ops a.tmps) = true) (x : Operand) (ho : op.op = .load 41 x) (hx : a.eval x = .pointer (some ⟨g, 0, none⟩)) (hg : w.heap[g]? = some (.cells (sCells f) t))
    (h : wpList Try.prog ops Q rest (a.put op.dst (.agg (sCells f))) w) : wpList Try.prog ops Q (op :: rest) a w :=
  wpList_step fun K hK => by
    rw [if_pos hw]
    exact wp_load_row _ x ho g hx t _ _ _ hg sty_under rfl (sty_size f) (hK _ _ h)
theorem run_alloc_sty {a : Act} {w : World} {o : Oper} (ho : o.op = .alloc 41) : (execOp a.eval o).run Try.prog w = .ok (.value (.pointer (some ⟨w.heap.size, 0, none⟩))) (w.alloc (.cells (sCells fun _ => 0) 41)) := by
  cases o
  simp only at ho
  subst ho
  rw [← zero_sty]
  go_simp
section
variable {ops : Array Oper} {rest : List Oper} {op op2 : Oper} {a : Act} {w : World} {Q : Exit → Act → World → Prop} {f : Nat → Int}
theorem list_alloc_sty (hgd : op.guard = none) (ho : op.op = .alloc 41) (h : wpList Try.prog ops Q rest (a.put op.dst (.pointer (some ⟨w.heap.size, 0, none⟩))) (w.alloc (.cells (sCells fun _ => 0) 41))) : wpList Try.prog ops Q (op :: rest) a w := by
  refine wpList_plain hgd fun K hK => ?_
  unfold Oper.wp
  rw [run_alloc_sty ho, Oper.upon_value]
  exact hK _ _ h
/-- 'x := f(..)': a new variable that holds what the call hands back. -/
theorem list_new_sty (hgd : op.guard = none) (ho : op.op = .alloc 41) (hgd2 : op2.guard = none) {x y : Operand} (ho2 : op2.op = .store 41 x y) (hd2 : op2.dst = none)
    (hx : (a.put op.dst (.pointer (some ⟨w.heap.size, 0, none⟩))).eval x = .pointer (some ⟨w.heap.size, 0, none⟩)) (hy : (a.put op.dst (.pointer (some ⟨w.heap.size, 0, none⟩))).eval y = .agg (sCells f))
    (h : ∀ u, Below w.heap.size w u → u.heap[w.heap.size]? = some (.cells (sCells f) 41) → wpList Try.prog ops Q rest (a.put op.dst (.pointer (some ⟨w.heap.size, 0, none⟩))) u) : wpList Try.prog ops Q (op :: op2 :: rest) a w := by
  refine list_alloc_sty hgd ho (list_store_sty hgd2 x y ho2 hx hy (hp_new w _) ?_)
  rw [hd2]
  exact h _ (below_setRow (Go.Joins.below_alloc1 ..) (Nat.le_refl _) _) (setRow_heap _ _ _ _ _ _ (hp_new w _))
theorem list_build_sty {parts : Array (Nat × Operand)} (hgd : op.guard = none) (ho : op.op = .build 41 parts) (hb : Try.prog.built 41 (parts.map fun (i, x) => (i, a.eval x)).toList = some (sCells f))
    (h : wpList Try.prog ops Q rest (a.put op.dst (.agg (sCells f))) w) : wpList Try.prog ops Q (op :: rest) a w :=
  wpList_build hgd _ parts ho (by rw [hb]; rfl) (by rw [hb]; exact h)
end
section
variable {C : World → Prop} {K : Act → Prop} {a : Act} {o : Oper} {g : Nat} {t : TypeId} {f : Nat → Int}
end
end Go.Proofs.Ytckpjldenkjddaa
end
section
namespace Go.Proofs.Ytckpjldenkjddaa
open Go.ChangeShapes Go.WideShapes Go.ChangeAt Go.RowKit
set_option linter.unusedSimpArgs false

/-- The new style. -/
def newF (i : Nat) : Int := if i = 0 ∨ i = 5 then 2 else if i = 1 ∨ i = 2 ∨ i = 3 then 1 else 0
theorem snew (w : World) :
    Calls Try.prog 82 #[] w fun e w' => e = .returned (.agg (sCells newF)) ∧ Below w.heap.size w w' := by
  go_enter Try.func82, Try.ntmps82
  have hz := Lib.hid (hp_new w (.cells (sCells fun _ => 0) 41))
  have h9 := Lib.hid (setRow_heap _ _ _ (sCells newF) _ _ (hp_new w (.cells (sCells fun _ => 0) 41)))
  have b9 := Lib.hid (below_setRow (Go.Joins.below_alloc1 w (.cells (sCells fun _ => 0) 41)) (g := w.heap.size) (Nat.le_refl _) (sCells newF))
  go_wp2_with (first
    | ((with_reducible apply list_alloc_sty); exact rfl; exact rfl; simp only [World.size_alloc, Act.put, List.setIfInBounds_toArray, List.set_cons_succ, List.set_cons_zero])
    | ((with_reducible apply list_build_sty (f := newF)); exact rfl; exact rfl; (kernel_rfl); simp only [Act.put, List.setIfInBounds_toArray, List.set_cons_succ, List.set_cons_zero])
    | ((with_reducible apply list_store_sty); exact rfl; exact rfl; exact rfl; exact rfl; (with_reducible exact hz.out); simp only [Act.put, List.setIfInBounds_toArray, List.set_cons_succ, List.set_cons_zero]))
  exact bodyPost_ret (results_sty rfl rfl h9.out) rfl ⟨rfl, b9.out⟩
end Go.Proofs.Ytckpjldenkjddaa
end
section
namespace Go.Proofs.Ytckpjldenkjddaa
open Go.ChangeShapes Go.WideShapes Go.ChangeAt Go.RowKit
set_option linter.unusedSimpArgs false
set_option linter.unusedVariables false

/-- What stands while a style is drawn: the style so far in block gs, the result's block gr, the cursor. -/
structure YS (w : World) (cb : Nat) (a : Option Addr) (len cap gr gs : Nat) (f : Nat → Int) (wr : World) : Prop where
  here : wr.heap[gs]? = some (.cells (sCells f) 41)
  res : wr.heap[gr]? = some (.cells (sCells fun _ => 0) 41)
  cur : Cur cb a len cap wr
  gro : w.grownBy wr (some cb)
theorem gr_below {w w' : World} (h : Below w.heap.size w w') (row : Option Nat) : w.grownBy w' row := ⟨h.os, h.tape, h.output, h.size, fun k hk _ => h.block k hk⟩
theorem gr_row {w w1 : World} {cb g : Nat} (h : w.grownBy w1 (some cb)) (hg : w.heap.size ≤ g) (cs : Array Value) : w.grownBy (w1.setRow g cs) (some cb) :=
  ⟨h.os, h.tape, h.output, by rw [setRow_size]; exact h.size, fun i hi hne => (setRow_other w1 g i cs (by omega)).trans (h.block i hi hne)⟩
section
variable {w wr w' : World} {cb : Nat} {a : Option Addr} {len cap gr gs : Nat} {f : Nat → Int}
theorem YS.kept (h : YS w cb a len cap gr gs f wr) (W : SDw w cb a len gr gs) (g : wr.grownBy w' (some cb)) (c : Cur cb a len cap w') : YS w cb a len cap gr gs f w' :=
  ⟨blk_kept h.here g (by have := W.ltc; have := W.ges; omega), blk_kept h.res g (by have := W.ltc; have := W.ger; omega), c, gr_trans h.gro g⟩
theorem YS.lt (h : YS w cb a len cap gr gs f wr) (W : SDw w cb a len gr gs) : cb < wr.heap.size := Nat.lt_of_lt_of_le W.ltc h.gro.size
theorem YS.code (h : YS w cb a len cap gr gs f wr) (W : SDw w cb a len gr gs) : 0 < len → ∀ b off, a = some ⟨b, off, none⟩ → b < wr.heap.size := fun h0 b off e => Nat.lt_of_lt_of_le (W.code h0 b off e) h.gro.size
theorem YS.store (h : YS w cb a len cap gr gs f wr) (W : SDw w cb a len gr gs) (k : Nat) (z : Int) (v : Value) (hk : k < 60) (hv : sCell k z = v) : YS w cb a len cap gr gs (upd f k z) (wr.setCell ⟨gs, k, none⟩ v) :=
  ⟨sty_put h.here k z v hk hv, hp_set h.res W.ne k v, h.cur.stored (h.lt W) (by have := W.ltc; have := W.ges; omega) (fun h0 b off e => by have := W.code h0 b off e; have := W.ges; omega) _, gr_store h.gro W.ges⟩
theorem YS.fin (h : YS w cb a len cap gr gs f wr) (W : SDw w cb a len gr gs) : Cur cb a len cap (wr.setRow gr (sCells f)) ∧ w.grownBy (wr.setRow gr (sCells f)) (some cb) :=
  ⟨h.cur.kept (row := some gr) (h.lt W) ⟨rfl, rfl, rfl, by rw [setRow_size]; exact Nat.le_refl _, fun i _ hne => setRow_other wr gr i _ (fun e => hne (by rw [e]))⟩ (fun k hk => by
    simp at hk
    subst hk
    exact ⟨by have := W.ltc; have := W.ger; omega, fun h0 b off e => by have := W.code h0 b off e; have := W.ger; omega⟩), gr_row h.gro W.ger _⟩
end
theorem YS.stores {w : World} {cb : Nat} {a : Option Addr} {len cap gr gs : Nat} (W : SDw w cb a len gr gs) : ∀ (zs : List Int) (o : Nat) (f : Nat → Int) (wr : World), YS w cb a len cap gr gs f wr → 8 ≤ o → o + zs.length ≤ 60 → YS w cb a len cap gr gs (updL f o zs) (wr.setCells gs o (zs.map (Value.int .i64)))
  | [], _, _, _, h, _, _ => h
  | z :: zs, o, f, wr, h, h8, hl => by
    simp only [List.length_cons] at hl
    exact YS.stores W zs (o + 1) (upd f o z) _ (h.store W o z _ (by omega) (sCell_int z (by omega))) (by omega) (by omega)
/-- A row of ints is stored into the style that is being drawn. -/
theorem list_put_ys {ops : Array Oper} {rest : List Oper} {op : Oper} {act : Act} {Q : Exit → Act → World → Prop} {w wr : World} {cb : Nat} {a : Option Addr} {len cap gr gs : Nat} {f : Nat → Int} (zs : List Int) (o : Nat) {ty : TypeId} (hgd : op.guard = none) {x y : Operand} (ho : op.op = .store ty x y) (hx : act.eval x = .pointer (some ⟨gs, o, none⟩)) (hy : act.eval y = .agg (zs.map (Value.int .i64)).toArray)
    (hi : (Try.prog.info? ty).map (·.size) = some zs.length) (hl : 8 ≤ o ∧ o + zs.length ≤ 60) (W : SDw w cb a len gr gs) (hs : YS w cb a len cap gr gs f wr)
    (h : ∀ u, YS w cb a len cap gr gs (updL f o zs) u → wpList Try.prog ops Q rest (act.put op.dst undef) u) : wpList Try.prog ops Q (op :: rest) act wr :=
  list_store_ints zs o hgd ho hx hy hi hl.2 hs.here (h _ (YS.stores W zs o f wr hs hl.1 hl.2))
theorem bz_of (t : Bool) (k : Nat) (hk : k = 6 ∨ k = 7) : sCell k (if t then 1 else 0) = .bool t := by
  unfold sCell
  rw [if_pos hk]
  cases t <;> rfl

end Go.Proofs.Ytckpjldenkjddaa
end

import Derived.Lib.SmallJoins
import Derived.Lib.QuietBelow
import Derived.BigQuiet
import Derived.StillTailTactics
import Derived.Deep.MidRow
import Derived.Test.YtckpjldenkjddaaZtAA
section
namespace Go.Proofs.Ytckpjldenkjddaa
open Go.ChangeShapes Go.WideShapes Go.ChangeAt Go.RowKit

/-- Every type of the list is an int. -/
def allInts (P : Program) (ts : List TypeId) : Bool := ts.all fun t => match P.underlying t with | some (.int .i64) => true | _ => false
theorem int_cell {P : Program} {w : World} {r : Reach} {base : Nat} {t : TypeId} {v : Value} (ht : P.underlying t = some (.int .i64)) (h : Cell.okWide P w r base t v) :
    ∃ n, v = .int .i64 n ∧ -9223372036854775808 ≤ n ∧ n ≤ 9223372036854775807 := by
  unfold Cell.okWide at h
  rw [ht] at h
  simp only at h
  unfold Cell.ok at h
  rw [ht] at h
  cases v with
  | int k n =>
    obtain ⟨rfl, h⟩ := h
    have e0 : IntKind.i64.min = -9223372036854775808 := by kernel_rfl
    have e1 : IntKind.i64.max = 9223372036854775807 := by kernel_rfl
    have h0 := h.1
    have h1 := h.2
    rw [e0] at h0
    rw [e1] at h1
    exact ⟨n, rfl, h0, h1⟩
  | _ => exact h.elim
theorem ints_list {P : Program} {w : World} {r : Reach} {base : Nat} : ∀ (ts : List TypeId) (cs : List Value), allInts P ts = true → cs.length = ts.length → (∀ (i : Nat) (v : Value), cs[i]? = some v → ∃ u, ts[i]? = some u ∧ Cell.okWide P w r base u v) →
    ∃ zs : List Int, cs = zs.map (Value.int .i64) ∧ zs.length = ts.length ∧ ∀ z ∈ zs, -9223372036854775808 ≤ z ∧ z ≤ 9223372036854775807
  | [], cs, _, hl, _ => ⟨[], by cases cs <;> simp_all, rfl, by simp⟩
  | t :: ts, [], _, hl, _ => by simp at hl
  | t :: ts, c :: cs, ha, hl, h => by
    simp only [allInts, List.all_cons, Bool.and_eq_true] at ha
    obtain ⟨zs, rfl, hz, hr⟩ := ints_list ts cs ha.2 (by simpa using hl) (fun i v hv => by simpa using h (i + 1) v (by simpa using hv))
    obtain ⟨u, hu, hc⟩ := h 0 c rfl
    obtain rfl : t = u := by simpa using hu
    have ht : P.underlying t = some (.int .i64) := by
      have := ha.1
      split at this <;> simp_all
    obtain ⟨n, rfl, h0, h1⟩ := int_cell ht hc
    exact ⟨n :: zs, by simp, by simpa using hz, fun z hm => (List.mem_cons.1 hm).elim (fun e => e ▸ ⟨h0, h1⟩) (hr z)⟩
theorem open_ints {P : Program} {w : World} {r : Reach} {base : Nat} {t : TypeId} {fs : Array Field} {ts : List TypeId} {v : Value} (hs : P.underlying t = some (.struct fs)) (hts : P.cellTypes P.depth t = some ts) (hn : P.cellsOf t = ts.length) (ha : allInts P ts = true) (h : Value.okWide P w r base t v) :
    ∃ zs : List Int, v = .agg (zs.map (Value.int .i64)).toArray ∧ zs.length = ts.length ∧ ∀ z ∈ zs, -9223372036854775808 ≤ z ∧ z ≤ 9223372036854775807 := by
  unfold Value.okWide at h
  rw [hs] at h
  obtain ⟨cs, rfl, hsz, ts', hts', _, hc⟩ := h
  obtain rfl : ts = ts' := Option.some.inj (hts.symm.trans hts')
  obtain ⟨zs, e, hz, hr⟩ := ints_list (P := P) (w := w) (r := r) (base := base) ts cs.toList ha (by simpa using hsz.trans hn) (fun i v hv => by
    have hi : i < ts.length := by
      have := (List.getElem?_eq_some_iff.1 hv).1
      simp at this; omega
    have := hc i v (by simpa using hv)
    rwa [Nat.mod_eq_of_lt hi] at this)
  refine ⟨zs, ?_, hz, hr⟩
  rw [← e]
theorem hp_new (w : World) (o : Obj) : (w.alloc o).heap[w.heap.size]? = some o := (MapKept.heap_alloc w o).1
theorem hp_on {w : World} {g : Nat} {o : Obj} (h : w.heap[g]? = some o) (o' : Obj) : (w.alloc o').heap[g]? = some o := by
  have hlt : g < w.heap.size := by
    apply Nat.lt_of_not_le
    intro hge
    rw [Array.getElem?_eq_none hge] at h
    cases h
  exact ((Go.Joins.below_alloc1 w o').block g hlt).trans h
theorem hp_below {w w' : World} {g : Nat} {o : Obj} (h : w.heap[g]? = some o) (b : Below w.heap.size w w') : w'.heap[g]? = some o := by
  have hlt : g < w.heap.size := by
    apply Nat.lt_of_not_le
    intro hge
    rw [Array.getElem?_eq_none hge] at h
    cases h
  exact (b.block g hlt).trans h
theorem hp_lt {w : World} {g : Nat} {o : Obj} (h : w.heap[g]? = some o) : g < w.heap.size := by
  apply Nat.lt_of_not_le
  intro hge
  rw [Array.getElem?_eq_none hge] at h
  cases h
theorem hp_set {w : World} {g g' : Nat} {o : Obj} (h : w.heap[g]? = some o) (hne : g ≠ g') (j : Nat) (u : Value) : (w.setCell ⟨g', j, none⟩ u).heap[g]? = some o := (Below.heap_setCell w ⟨g', j, none⟩ u g hne).trans h
theorem hp_cell {w : World} {g : Nat} {cs : Array Value} {t : TypeId} {fr : Nat × Nat} (h : w.heap[g]? = some (.cells cs t fr)) (d : Nat) (os : Array Obj) (i : Nat) (v : Value) (hv : cs[i]? = some v) : (Sort.grow (redrawn w d) os).cell? ⟨g, i, none⟩ = some v :=
  cell_regrown ((Go.Joins.cell_of_block h i).trans hv) d os
/-- A region whose tail is forced, in the drawn world by a name of its own. -/
theorem region_tail {P : Program} {id : Nat} {Q : Exit → Act → World → Prop} {a : Act} {w : World} {l : List Oper} (n : Nat) (hm : P.follows .mixedOrders = true) (hB : Region.lexTailB .any l.toArray n = true)
    (h : ∀ w', w' = w.drew → wpStill P l.toArray w' (fun a' => wpList P l.toArray Q (l.drop n) a' w') (l.take n) a) : (Code.region id l.toArray true).wp P Q a w :=
  wp_region_still_tail n hm hB (h _ rfl)
theorem bl_set {B : Nat} {a w : World} (h : Below B a w) {g : Nat} (j : Nat) (hg : B ≤ g) (u : Value) : Below B a (w.setCell ⟨g, j, none⟩ u) := h.setCell hg u
end Go.Proofs.Ytckpjldenkjddaa
end
section
namespace Go.Proofs.Ytckpjldenkjddaa
open Go.ChangeShapes Go.WideShapes Go.ChangeAt Go.RowKit

/-- The Bool that an int stands for. -/
def bz (z : Int) : Bool := !decide (z = 0)
/-- Cell number i of a style. -/
def sCell (i : Nat) (z : Int) : Value := if i = 6 ∨ i = 7 then .bool (bz z) else .int .i64 z
/-- The cells of a style. -/
def sCells (f : Nat → Int) : Array Value := ((List.range 60).map fun i => sCell i (f i)).toArray
theorem sCells_size (f : Nat → Int) : (sCells f).size = 60 := by simp [sCells]
theorem sCells_get (f : Nat → Int) {i : Nat} (h : i < 60) : (sCells f)[i]? = some (sCell i (f i)) := by simp [sCells, h]
theorem sCells_ext {cs : Array Value} {f : Nat → Int} (hs : cs.size = 60) (h : ∀ i, i < 60 → cs[i]? = some (sCell i (f i))) : cs = sCells f := by
  apply Array.ext_getElem?
  intro i
  by_cases hi : i < 60
  · rw [h i hi, sCells_get f hi]
  · rw [Array.getElem?_eq_none (by omega), Array.getElem?_eq_none (by rw [sCells_size]; omega)]
theorem sCell_int {i : Nat} (z : Int) (h : i ≠ 6 ∧ i ≠ 7) : sCell i z = .int .i64 z := by simp [sCell, h.1, h.2]
theorem sCell_one (i : Nat) (z : Int) : (sCell i z).oneCell' = true := by unfold sCell; split <;> rfl
theorem sCells_one (f : Nat → Int) : (sCells f).all (·.oneCell') = true := by
  simp only [sCells, List.all_toArray, List.all_map, List.all_eq_true]
  intro i _
  exact sCell_one i _
/-- One cell turned. -/
def upd (f : Nat → Int) (k : Nat) (z : Int) : Nat → Int := fun i => if i = k then z else f i
theorem sCells_set (f : Nat → Int) {k : Nat} (h : k < 60) (z : Int) : (sCells f).setIfInBounds k (sCell k z) = sCells (upd f k z) :=
  sCells_ext (by simp [sCells_size]) fun i hi => by
    rw [Array.getElem?_setIfInBounds]
    by_cases e : k = i
    · subst e; simp [sCells_size, h, upd]
    · rw [if_neg e, sCells_get f hi]; simp [upd, Ne.symm e]
/-- The first k cells of f, zero behind. -/
def cut (f : Nat → Int) (k : Nat) : Nat → Int := fun i => if i < k then f i else 0
/-- Every cell is an int of 64 bits. -/
def InR (f : Nat → Int) : Prop := ∀ i, -9223372036854775808 ≤ f i ∧ f i ≤ 9223372036854775807

section
variable {w : World} {g : Nat} {t : TypeId} {f : Nat → Int}
theorem sty_cell (h : w.heap[g]? = some (.cells (sCells f) t)) (i : Nat) (hi : i < 60) : w.cell? ⟨g, i, none⟩ = some (sCell i (f i)) := (Go.Joins.cell_of_block h i).trans (sCells_get f hi)
theorem sty_int (h : w.heap[g]? = some (.cells (sCells f) t)) (i : Nat) (hi : i < 60 ∧ i ≠ 6 ∧ i ≠ 7) : w.cell? ⟨g, i, none⟩ = some (.int .i64 (f i)) := (sty_cell h i hi.1).trans (congrArg some (sCell_int _ hi.2))
theorem sty_put (h : w.heap[g]? = some (.cells (sCells f) t)) (k : Nat) (z : Int) (v : Value) (hk : k < 60) (hv : sCell k z = v) : (w.setCell ⟨g, k, none⟩ v).heap[g]? = some (.cells (sCells (upd f k z)) t) := by
  subst hv
  rw [← sCells_set f hk z]
  exact Go.Joins.block_setCell h _
theorem sty_free (h : w.heap[g]? = some (.cells (sCells f) t)) (i : Nat) : w.frozen? ⟨g, i, none⟩ = false := Go.Joins.unfrozen_of_block h i
end

theorem sty_size (f : Nat → Int) : (Try.prog.info? 41).map (·.size) = some (sCells f).size := by rw [sCells_size]; kernel_rfl
theorem sty_under : Try.prog.underlying 41 = some (.struct (Try.prog.fieldsOf 41)) := by kernel_rfl
section
variable {ops : Array Oper} {rest : List Oper} {op : Oper} {a : Act} {w : World} {Q : Exit → Act → World → Prop} {g : Nat} {t : TypeId} {f : Nat → Int}
theorem list_load_sty (hgd : op.guard = none) (x : Operand) (ho : op.op = .load 41 x) (hx : a.eval x = .pointer (some ⟨g, 0, none⟩)) (hg : w.heap[g]? = some (.cells (sCells f) t))
    (h : wpList Try.prog ops Q rest (a.put op.dst (.agg (sCells f))) w) : wpList Try.prog ops Q (op :: rest) a w :=
  wpList_load_row hgd _ x ho g hx t _ _ _ hg sty_under rfl (sty_size f) h
theorem list_store_sty {f' : Nat → Int} (hgd : op.guard = none) (x y : Operand) (ho : op.op = .store 41 x y) (hx : a.eval x = .pointer (some ⟨g, 0, none⟩)) (hy : a.eval y = .agg (sCells f)) (hg : w.heap[g]? = some (.cells (sCells f') t))
    (h : wpList Try.prog ops Q rest (a.put op.dst undef) (w.setRow g (sCells f))) : wpList Try.prog ops Q (op :: rest) a w :=
  wpList_store_row hgd _ x y ho g _ hx hy t _ hg (sty_size f) (by rw [sCells_size, sCells_size]) (sCells_one f) h
end
theorem below_setRow {B : Nat} {a w : World} (h : Below B a w) {g : Nat} (hg : B ≤ g) (cs : Array Value) : Below B a (w.setRow g cs) :=
  ⟨h.os, h.tape, h.output, by rw [setRow_size]; exact h.size, fun k hk => by rw [setRow_other w g k cs (by omega)]; exact h.block k hk⟩
/-- The answer that lies in a cell of its own. -/
theorem results_sty {fn : Func} {p : Tmp} (h : fn.results = #[.cell p 41]) {tmps : Array Value} {w : World} {g : Nat} {t : TypeId} {f : Nat → Int} (hp : tmps.getD p undef = .pointer (some ⟨g, 0, none⟩)) (hg : w.heap[g]? = some (.cells (sCells f) t)) :
    (results fn tmps).run Try.prog w = .ok (.agg (sCells f)) w := results_cell_row h tmps w g t _ _ _ hp hg sty_under rfl (sty_size f)
/-- Nothing but zeros. -/
theorem zero_sty : (.int .i64 0 :: .int .i64 0 :: .int .i64 0 :: .int .i64 0 :: .int .i64 0 :: .int .i64 0 :: .bool false :: .bool false :: .int .i64 0 :: .int .i64 0 :: .int .i64 0 :: .int .i64 0 :: .int .i64 0 :: .int .i64 0 :: .int .i64 0 :: .int .i64 0 :: .int .i64 0 :: .int .i64 0 :: .int .i64 0 :: .int .i64 0 :: .int .i64 0 :: .int .i64 0 :: .int .i64 0 :: .int .i64 0 :: .int .i64 0 :: .int .i64 0 :: .int .i64 0 :: .int .i64 0 :: .int .i64 0 :: .int .i64 0 :: .int .i64 0 :: .int .i64 0 :: .int .i64 0 :: .int .i64 0 :: .int .i64 0 :: .int .i64 0 :: .int .i64 0 :: .int .i64 0 :: .int .i64 0 :: .int .i64 0 :: .int .i64 0 :: .int .i64 0 :: .int .i64 0 :: .int .i64 0 :: .int .i64 0 :: .int .i64 0 :: .int .i64 0 :: .int .i64 0 :: .int .i64 0 :: .int .i64 0 :: .int .i64 0 :: .int .i64 0 :: .int .i64 0 :: .int .i64 0 :: .int .i64 0 :: .int .i64 0 :: .int .i64 0 :: .int .i64 0 :: .int .i64 0 :: .int .i64 0 :: [] : List Value).toArray = sCells (fun _ => 0) := by rfl
end Go.Proofs.Ytckpjldenkjddaa
end

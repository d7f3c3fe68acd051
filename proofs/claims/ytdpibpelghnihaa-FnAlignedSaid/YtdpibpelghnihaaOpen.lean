/-
  A struct of ints, by value: an argument of its type is a row of ints within their range, as many as the type has cells. Conditions: the type's cells are ints.
-/
import Derived.Test.YtdpibpelghnihaaKit
import Derived.Lib.SmallJoins
import Derived.Lib.QuietBelow
import Derived.BigQuiet
import Derived.StillTailTactics
namespace Go.Proofs.Ytdpibpelghnihaa
open Go.ChangeShapes Go.WideShapes Go.ChangeAt Go.RowKit

/-- Every type of the list is an int. -/
def allInts (P : Program) (ts : List TypeId) : Bool := ts.all fun t => match P.underlying t with | some (.int .i64) => true | _ => false
theorem int_cell {P : Program} {w : World} {r : Reach} {base : Nat} {t : TypeId} {v : Value} (ht : P.underlying t = some (.int .i64)) (h : Cell.okWide P w r base t v) :
    ∃ n, v = .int .i64 n ∧ -9223372036854775808 ≤ n ∧ n ≤ 9223372036854775807 := by
  unfold Cell.okWide at h
  rw [ht] at h
  simp only at h
  unfold Cell.ok at h
  rw [ht] at h
  cases v with
  | int k n =>
    obtain ⟨rfl, h⟩ := h
    have e0 : IntKind.i64.min = -9223372036854775808 := by kernel_rfl
    have e1 : IntKind.i64.max = 9223372036854775807 := by kernel_rfl
    have h0 := h.1
    have h1 := h.2
    rw [e0] at h0
    rw [e1] at h1
    exact ⟨n, rfl, h0, h1⟩
  | _ => exact h.elim
theorem ints_list {P : Program} {w : World} {r : Reach} {base : Nat} : ∀ (ts : List TypeId) (cs : List Value), allInts P ts = true → cs.length = ts.length → (∀ (i : Nat) (v : Value), cs[i]? = some v → ∃ u, ts[i]? = some u ∧ Cell.okWide P w r base u v) →
    ∃ zs : List Int, cs = zs.map (Value.int .i64) ∧ zs.length = ts.length ∧ ∀ z ∈ zs, -9223372036854775808 ≤ z ∧ z ≤ 9223372036854775807
  | [], cs, _, hl, _ => ⟨[], by cases cs <;> simp_all, rfl, by simp⟩
  | t :: ts, [], _, hl, _ => by simp at hl
  | t :: ts, c :: cs, ha, hl, h => by
    simp only [allInts, List.all_cons, Bool.and_eq_true] at ha
    obtain ⟨zs, rfl, hz, hr⟩ := ints_list ts cs ha.2 (by simpa using hl) (fun i v hv => by simpa using h (i + 1) v (by simpa using hv))
    obtain ⟨u, hu, hc⟩ := h 0 c rfl
    obtain rfl : t = u := by simpa using hu
    have ht : P.underlying t = some (.int .i64) := by
      have := ha.1
      split at this <;> simp_all
    obtain ⟨n, rfl, h0, h1⟩ := int_cell ht hc
    exact ⟨n :: zs, by simp, by simpa using hz, fun z hm => (List.mem_cons.1 hm).elim (fun e => e ▸ ⟨h0, h1⟩) (hr z)⟩
theorem open_ints {P : Program} {w : World} {r : Reach} {base : Nat} {t : TypeId} {fs : Array Field} {ts : List TypeId} {v : Value} (hs : P.underlying t = some (.struct fs)) (hts : P.cellTypes P.depth t = some ts) (hn : P.cellsOf t = ts.length) (ha : allInts P ts = true) (h : Value.okWide P w r base t v) :
    ∃ zs : List Int, v = .agg (zs.map (Value.int .i64)).toArray ∧ zs.length = ts.length ∧ ∀ z ∈ zs, -9223372036854775808 ≤ z ∧ z ≤ 9223372036854775807 := by
  unfold Value.okWide at h
  rw [hs] at h
  obtain ⟨cs, rfl, hsz, ts', hts', _, hc⟩ := h
  obtain rfl : ts = ts' := Option.some.inj (hts.symm.trans hts')
  obtain ⟨zs, e, hz, hr⟩ := ints_list (P := P) (w := w) (r := r) (base := base) ts cs.toList ha (by simpa using hsz.trans hn) (fun i v hv => by
    have hi : i < ts.length := by
      have := (List.getElem?_eq_some_iff.1 hv).1
      simp at this; omega
    have := hc i v (by simpa using hv)
    rwa [Nat.mod_eq_of_lt hi] at this)
  refine ⟨zs, ?_, hz, hr⟩
  rw [← e]
/-! A block of the call's own: it lies on when another is made; its cells, also behind draws and new memory. -/
theorem hp_new (w : World) (o : Obj) : (w.alloc o).heap[w.heap.size]? = some o := (MapKept.heap_alloc w o).1
theorem hp_on {w : World} {g : Nat} {o : Obj} (h : w.heap[g]? = some o) (o' : Obj) : (w.alloc o').heap[g]? = some o := by
  have hlt : g < w.heap.size := by
    apply Nat.lt_of_not_le
    intro hge
    rw [Array.getElem?_eq_none hge] at h
    cases h
  exact ((Go.Joins.below_alloc1 w o').block g hlt).trans h
theorem hp_below {w w' : World} {g : Nat} {o : Obj} (h : w.heap[g]? = some o) (b : Below w.heap.size w w') : w'.heap[g]? = some o := by
  have hlt : g < w.heap.size := by
    apply Nat.lt_of_not_le
    intro hge
    rw [Array.getElem?_eq_none hge] at h
    cases h
  exact (b.block g hlt).trans h
theorem hp_lt {w : World} {g : Nat} {o : Obj} (h : w.heap[g]? = some o) : g < w.heap.size := by
  apply Nat.lt_of_not_le
  intro hge
  rw [Array.getElem?_eq_none hge] at h
  cases h
theorem hp_set {w : World} {g g' : Nat} {o : Obj} (h : w.heap[g]? = some o) (hne : g ≠ g') (j : Nat) (u : Value) : (w.setCell ⟨g', j, none⟩ u).heap[g]? = some o := (Below.heap_setCell w ⟨g', j, none⟩ u g hne).trans h
theorem hp_cell {w : World} {g : Nat} {cs : Array Value} {t : TypeId} {fr : Nat × Nat} (h : w.heap[g]? = some (.cells cs t fr)) (d : Nat) (os : Array Obj) (i : Nat) (v : Value) (hv : cs[i]? = some v) : (Sort.grow (redrawn w d) os).cell? ⟨g, i, none⟩ = some v :=
  cell_regrown ((Go.Joins.cell_of_block h i).trans hv) d os
/-- A region whose tail is forced, in the drawn world by a name of its own. -/
theorem region_tail {P : Program} {id : Nat} {Q : Exit → Act → World → Prop} {a : Act} {w : World} {l : List Oper} (n : Nat) (hm : P.follows .mixedOrders = true) (hB : Region.lexTailB .any l.toArray n = true)
    (h : ∀ w', w' = w.drew → wpStill P l.toArray w' (fun a' => wpList P l.toArray Q (l.drop n) a' w') (l.take n) a) : (Code.region id l.toArray true).wp P Q a w :=
  wp_region_still_tail n hm hB (h _ rfl)
theorem bl_set {B : Nat} {a w : World} (h : Below B a w) {g : Nat} (j : Nat) (hg : B ≤ g) (u : Value) : Below B a (w.setCell ⟨g, j, none⟩ u) := h.setCell hg u
theorem list4 {zs : List Int} (h : zs.length = 4) : ∃ a b c d, zs = [a, b, c, d] := by
  match zs, h with
  | [a, b, c, d], _ => exact ⟨a, b, c, d, rfl⟩
theorem list12 {zs : List Int} (h : zs.length = 12) : ∃ a b c d e f g i j k l m, zs = [a, b, c, d, e, f, g, i, j, k, l, m] := by
  match zs, h with
  | [a, b, c, d, e, f, g, i, j, k, l, m], _ => exact ⟨a, b, c, d, e, f, g, i, j, k, l, m, rfl⟩
theorem open4 {P : Program} {w : World} {r : Reach} {base : Nat} {t u : TypeId} {fs : Array Field} {v : Value} (hs : P.underlying t = some (.struct fs)) (hu : P.underlying u = some (.int .i64)) (hts : P.cellTypes P.depth t = some (List.replicate 4 u)) (hn : P.cellsOf t = 4) (h : Value.okWide P w r base t v) :
    ∃ a b c d : Int, v = .agg #[.int .i64 a, .int .i64 b, .int .i64 c, .int .i64 d] := by
  obtain ⟨zs, rfl, hl, _⟩ := open_ints hs hts (by simpa using hn) (by simp [allInts, hu]) h
  obtain ⟨a, b, c, d, rfl⟩ := list4 (zs := zs) (by simpa using hl)
  exact ⟨a, b, c, d, rfl⟩
theorem open12 {P : Program} {w : World} {r : Reach} {base : Nat} {t u : TypeId} {fs : Array Field} {v : Value} (hs : P.underlying t = some (.struct fs)) (hu : P.underlying u = some (.int .i64)) (hts : P.cellTypes P.depth t = some (List.replicate 12 u)) (hn : P.cellsOf t = 12) (h : Value.okWide P w r base t v) :
    ∃ a b c d e f g i j k l m : Int, v = .agg #[.int .i64 a, .int .i64 b, .int .i64 c, .int .i64 d, .int .i64 e, .int .i64 f, .int .i64 g, .int .i64 i, .int .i64 j, .int .i64 k, .int .i64 l, .int .i64 m] := by
  obtain ⟨zs, rfl, hl, _⟩ := open_ints hs hts (by simpa using hn) (by simp [allInts, hu]) h
  obtain ⟨a, b, c, d, e, f, g, i, j, k, l, m, rfl⟩ := list12 (zs := zs) (by simpa using hl)
  exact ⟨a, b, c, d, e, f, g, i, j, k, l, m, rfl⟩
end Go.Proofs.Ytdpibpelghnihaa

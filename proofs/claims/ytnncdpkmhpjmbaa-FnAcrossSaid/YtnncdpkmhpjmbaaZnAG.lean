import Derived.Lib.SmallJoins
import Derived.Lib.QuietBelow
import Derived.BigQuiet
import Derived.StillTailTactics
import Derived.Test.YtnncdpkmhpjmbaaZnAA
section
namespace Go.Proofs.Ytnncdpkmhpjmbaa
open Go.ChangeShapes Go.WideShapes Go.ChangeAt Go.RowKit

/-- Every type of the list is an int. -/
def allInts (P : Program) (ts : List TypeId) : Bool := ts.all fun t => match P.underlying t with | some (.int .i64) => true | _ => false
theorem int_cell {P : Program} {w : World} {r : Reach} {base : Nat} {t : TypeId} {v : Value} (ht : P.underlying t = some (.int .i64)) (h : Cell.okWide P w r base t v) :
    ∃ n, v = .int .i64 n ∧ -9223372036854775808 ≤ n ∧ n ≤ 9223372036854775807 := by
  unfold Cell.okWide at h
  rw [ht] at h
  simp only at h
  unfold Cell.ok at h
  rw [ht] at h
  cases v with
  | int k n =>
    obtain ⟨rfl, h⟩ := h
    have e0 : IntKind.i64.min = -9223372036854775808 := by kernel_rfl
    have e1 : IntKind.i64.max = 9223372036854775807 := by kernel_rfl
    have h0 := h.1
    have h1 := h.2
    rw [e0] at h0
    rw [e1] at h1
    exact ⟨n, rfl, h0, h1⟩
  | _ => exact h.elim
theorem ints_list {P : Program} {w : World} {r : Reach} {base : Nat} : ∀ (ts : List TypeId) (cs : List Value), allInts P ts = true → cs.length = ts.length → (∀ (i : Nat) (v : Value), cs[i]? = some v → ∃ u, ts[i]? = some u ∧ Cell.okWide P w r base u v) →
    ∃ zs : List Int, cs = zs.map (Value.int .i64) ∧ zs.length = ts.length ∧ ∀ z ∈ zs, -9223372036854775808 ≤ z ∧ z ≤ 9223372036854775807
  | [], cs, _, hl, _ => ⟨[], by cases cs <;> simp_all, rfl, by simp⟩
  | t :: ts, [], _, hl, _ => by simp at hl
  | t :: ts, c :: cs, ha, hl, h => by
    simp only [allInts, List.all_cons, Bool.and_eq_true] at ha
    obtain ⟨zs, rfl, hz, hr⟩ := ints_list ts cs ha.2 (by simpa using hl) (fun i v hv => by simpa using h (i + 1) v (by simpa using hv))
    obtain ⟨u, hu, hc⟩ := h 0 c rfl
    obtain rfl : t = u := by simpa using hu
    have ht : P.underlying t = some (.int .i64) := by
      have := ha.1
      split at this <;> simp_all
    obtain ⟨n, rfl, h0, h1⟩ := int_cell ht hc
    exact ⟨n :: zs, by simp, by simpa using hz, fun z hm => (List.mem_cons.1 hm).elim (fun e => e ▸ ⟨h0, h1⟩) (hr z)⟩
theorem open_ints {P : Program} {w : World} {r : Reach} {base : Nat} {t : TypeId} {fs : Array Field} {ts : List TypeId} {v : Value} (hs : P.underlying t = some (.struct fs)) (hts : P.cellTypes P.depth t = some ts) (hn : P.cellsOf t = ts.length) (ha : allInts P ts = true) (h : Value.okWide P w r base t v) :
    ∃ zs : List Int, v = .agg (zs.map (Value.int .i64)).toArray ∧ zs.length = ts.length ∧ ∀ z ∈ zs, -9223372036854775808 ≤ z ∧ z ≤ 9223372036854775807 := by
  unfold Value.okWide at h
  rw [hs] at h
  obtain ⟨cs, rfl, hsz, ts', hts', _, hc⟩ := h
  obtain rfl : ts = ts' := Option.some.inj (hts.symm.trans hts')
  obtain ⟨zs, e, hz, hr⟩ := ints_list (P := P) (w := w) (r := r) (base := base) ts cs.toList ha (by simpa using hsz.trans hn) (fun i v hv => by
    have hi : i < ts.length := by
      have := (List.getElem?_eq_some_iff.1 hv).1
      simp at this; omega
    have := hc i v (by simpa using hv)
    rwa [Nat.mod_eq_of_lt hi] at this)
  refine ⟨zs, ?_, hz, hr⟩
  rw [← e]
theorem hp_new (w : World) (o : Obj) : (w.alloc o).heap[w.heap.size]? = some o := (MapKept.heap_alloc w o).1
theorem hp_below {w w' : World} {g : Nat} {o : Obj} (h : w.heap[g]? = some o) (b : Below w.heap.size w w') : w'.heap[g]? = some o := by
  have hlt : g < w.heap.size := by
    apply Nat.lt_of_not_le
    intro hge
    rw [Array.getElem?_eq_none hge] at h
    cases h
  exact (b.block g hlt).trans h
theorem hp_set {w : World} {g g' : Nat} {o : Obj} (h : w.heap[g]? = some o) (hne : g ≠ g') (j : Nat) (u : Value) : (w.setCell ⟨g', j, none⟩ u).heap[g]? = some o := (Below.heap_setCell w ⟨g', j, none⟩ u g hne).trans h
/-- A region whose tail is forced, in the drawn world by a name of its own. -/
theorem region_tail {P : Program} {id : Nat} {Q : Exit → Act → World → Prop} {a : Act} {w : World} {l : List Oper} (n : Nat) (hm : P.follows .mixedOrders = true) (hB : Region.lexTailB .any l.toArray n = true)
    (h : ∀ w', w' = w.drew → wpStill P l.toArray w' (fun a' => wpList P l.toArray Q (l.drop n) a' w') (l.take n) a) : (Code.region id l.toArray true).wp P Q a w :=
  wp_region_still_tail n hm hB (h _ rfl)
theorem bl_set {B : Nat} {a w : World} (h : Below B a w) {g : Nat} (j : Nat) (hg : B ≤ g) (u : Value) : Below B a (w.setCell ⟨g, j, none⟩ u) := h.setCell hg u
end Go.Proofs.Ytnncdpkmhpjmbaa
end

import Derived.Lib.SmallJoins
import Derived.Lib.QuietBelow
import Derived.BigQuiet
import Derived.StillTailTactics
import Derived.Deep.Slices
import Derived.Deep.MidRow
import Derived.Laws.OwnMore
import Derived.OwnWalk
import Derived.Test.YtckpjldenkjddaaZcAA
section
namespace Go.Proofs.Ytckpjldenkjddaa
open Go.ChangeShapes Go.WideShapes Go.ChangeAt Go.RowKit

/-- Every type of the list is an int. -/
def allInts (P : Program) (ts : List TypeId) : Bool := ts.all fun t => match P.underlying t with | some (.int .i64) => true | _ => false
theorem int_cell {P : Program} {w : World} {r : Reach} {base : Nat} {t : TypeId} {v : Value} (ht : P.underlying t = some (.int .i64)) (h : Cell.okWide P w r base t v) :
    ∃ n, v = .int .i64 n ∧ -9223372036854775808 ≤ n ∧ n ≤ 9223372036854775807 := by
  unfold Cell.okWide at h
  rw [ht] at h
  simp only at h
  unfold Cell.ok at h
  rw [ht] at h
  cases v with
  | int k n =>
    obtain ⟨rfl, h⟩ := h
    have e0 : IntKind.i64.min = -9223372036854775808 := by kernel_rfl
    have e1 : IntKind.i64.max = 9223372036854775807 := by kernel_rfl
    have h0 := h.1
    have h1 := h.2
    rw [e0] at h0
    rw [e1] at h1
    exact ⟨n, rfl, h0, h1⟩
  | _ => exact h.elim
theorem ints_list {P : Program} {w : World} {r : Reach} {base : Nat} : ∀ (ts : List TypeId) (cs : List Value), allInts P ts = true → cs.length = ts.length → (∀ (i : Nat) (v : Value), cs[i]? = some v → ∃ u, ts[i]? = some u ∧ Cell.okWide P w r base u v) →
    ∃ zs : List Int, cs = zs.map (Value.int .i64) ∧ zs.length = ts.length ∧ ∀ z ∈ zs, -9223372036854775808 ≤ z ∧ z ≤ 9223372036854775807
  | [], cs, _, hl, _ => ⟨[], by cases cs <;> simp_all, rfl, by simp⟩
  | t :: ts, [], _, hl, _ => by simp at hl
  | t :: ts, c :: cs, ha, hl, h => by
    simp only [allInts, List.all_cons, Bool.and_eq_true] at ha
    obtain ⟨zs, rfl, hz, hr⟩ := ints_list ts cs ha.2 (by simpa using hl) (fun i v hv => by simpa using h (i + 1) v (by simpa using hv))
    obtain ⟨u, hu, hc⟩ := h 0 c rfl
    obtain rfl : t = u := by simpa using hu
    have ht : P.underlying t = some (.int .i64) := by
      have := ha.1
      split at this <;> simp_all
    obtain ⟨n, rfl, h0, h1⟩ := int_cell ht hc
    exact ⟨n :: zs, by simp, by simpa using hz, fun z hm => (List.mem_cons.1 hm).elim (fun e => e ▸ ⟨h0, h1⟩) (hr z)⟩
theorem open_ints {P : Program} {w : World} {r : Reach} {base : Nat} {t : TypeId} {fs : Array Field} {ts : List TypeId} {v : Value} (hs : P.underlying t = some (.struct fs)) (hts : P.cellTypes P.depth t = some ts) (hn : P.cellsOf t = ts.length) (ha : allInts P ts = true) (h : Value.okWide P w r base t v) :
    ∃ zs : List Int, v = .agg (zs.map (Value.int .i64)).toArray ∧ zs.length = ts.length ∧ ∀ z ∈ zs, -9223372036854775808 ≤ z ∧ z ≤ 9223372036854775807 := by
  unfold Value.okWide at h
  rw [hs] at h
  obtain ⟨cs, rfl, hsz, ts', hts', _, hc⟩ := h
  obtain rfl : ts = ts' := Option.some.inj (hts.symm.trans hts')
  obtain ⟨zs, e, hz, hr⟩ := ints_list (P := P) (w := w) (r := r) (base := base) ts cs.toList ha (by simpa using hsz.trans hn) (fun i v hv => by
    have hi : i < ts.length := by
      have := (List.getElem?_eq_some_iff.1 hv).1
      simp at this; omega
    have := hc i v (by simpa using hv)
    rwa [Nat.mod_eq_of_lt hi] at this)
  refine ⟨zs, ?_, hz, hr⟩
  rw [← e]
theorem hp_new (w : World) (o : Obj) : (w.alloc o).heap[w.heap.size]? = some o := (MapKept.heap_alloc w o).1
theorem hp_on {w : World} {g : Nat} {o : Obj} (h : w.heap[g]? = some o) (o' : Obj) : (w.alloc o').heap[g]? = some o := by
  have hlt : g < w.heap.size := by
    apply Nat.lt_of_not_le
    intro hge
    rw [Array.getElem?_eq_none hge] at h
    cases h
  exact ((Go.Joins.below_alloc1 w o').block g hlt).trans h
theorem hp_below {w w' : World} {g : Nat} {o : Obj} (h : w.heap[g]? = some o) (b : Below w.heap.size w w') : w'.heap[g]? = some o := by
  have hlt : g < w.heap.size := by
    apply Nat.lt_of_not_le
    intro hge
    rw [Array.getElem?_eq_none hge] at h
    cases h
  exact (b.block g hlt).trans h
theorem hp_lt {w : World} {g : Nat} {o : Obj} (h : w.heap[g]? = some o) : g < w.heap.size := by
  apply Nat.lt_of_not_le
  intro hge
  rw [Array.getElem?_eq_none hge] at h
  cases h
theorem hp_set {w : World} {g g' : Nat} {o : Obj} (h : w.heap[g]? = some o) (hne : g ≠ g') (j : Nat) (u : Value) : (w.setCell ⟨g', j, none⟩ u).heap[g]? = some o := (Below.heap_setCell w ⟨g', j, none⟩ u g hne).trans h
theorem hp_cell {w : World} {g : Nat} {cs : Array Value} {t : TypeId} {fr : Nat × Nat} (h : w.heap[g]? = some (.cells cs t fr)) (d : Nat) (os : Array Obj) (i : Nat) (v : Value) (hv : cs[i]? = some v) : (Sort.grow (redrawn w d) os).cell? ⟨g, i, none⟩ = some v :=
  cell_regrown ((Go.Joins.cell_of_block h i).trans hv) d os
/-- A region whose tail is forced, in the drawn world by a name of its own. -/
theorem region_tail {P : Program} {id : Nat} {Q : Exit → Act → World → Prop} {a : Act} {w : World} {l : List Oper} (n : Nat) (hm : P.follows .mixedOrders = true) (hB : Region.lexTailB .any l.toArray n = true)
    (h : ∀ w', w' = w.drew → wpStill P l.toArray w' (fun a' => wpList P l.toArray Q (l.drop n) a' w') (l.take n) a) : (Code.region id l.toArray true).wp P Q a w :=
  wp_region_still_tail n hm hB (h _ rfl)
theorem bl_set {B : Nat} {a w : World} (h : Below B a w) {g : Nat} (j : Nat) (hg : B ≤ g) (u : Value) : Below B a (w.setCell ⟨g, j, none⟩ u) := h.setCell hg u
end Go.Proofs.Ytckpjldenkjddaa
end
section
namespace Go.Proofs.Ytckpjldenkjddaa
open Go.ChangeShapes Go.WideShapes Go.ChangeAt Go.RowKit
set_option linter.unusedVariables false
set_option maxRecDepth 8000

def I64 (z : Int) : Prop := -9223372036854775808 ≤ z ∧ z ≤ 9223372036854775807
def putA (cs : Array Value) : Nat → List Value → Array Value
  | _, [] => cs
  | o, v :: vs => putA (cs.setIfInBounds o v) (o + 1) vs
theorem putA_at : ∀ (vs : List Value) (cs : Array Value) (o i : Nat), o + vs.length ≤ cs.size → (putA cs o vs)[i]? = if o ≤ i ∧ i < o + vs.length then vs[i - o]? else cs[i]?
  | [], cs, o, i, _ => by rw [putA, if_neg (by simp only [List.length_nil]; omega)]
  | v :: vs, cs, o, i, h => by
    simp only [List.length_cons] at h
    rw [putA, putA_at vs _ _ _ (by simp; omega)]
    by_cases h1 : o + 1 ≤ i ∧ i < o + 1 + vs.length
    · rw [if_pos h1, if_pos (by simp only [List.length_cons]; omega), show i - o = (i - (o + 1)) + 1 by omega, List.getElem?_cons_succ]
    · rw [if_neg h1, Array.getElem?_setIfInBounds]
      by_cases e : o = i
      · subst e
        rw [if_pos rfl, if_pos (by omega), if_pos (by simp only [List.length_cons]; omega)]
        simp
      · rw [if_neg e, if_neg (by simp only [List.length_cons]; omega)]
theorem hp_puts {g : Nat} {t : TypeId} : ∀ (vs : List Value) (o : Nat) (cs : Array Value) (w : World), w.heap[g]? = some (.cells cs t) → (w.setCells g o vs).heap[g]? = some (.cells (putA cs o vs) t)
  | [], _, _, _, h => h
  | v :: vs, o, cs, w, h => hp_puts vs (o + 1) _ _ (Go.Joins.block_setCell h _)
theorem arr_eq {a b : Array Value} (h : a.toList = b.toList) : a = b := Array.toList_inj.1 h
theorem rg_below {w w' : World} {b o : Nat} {cs : List Value} (h : w.rangeAt b o cs) (hb : Below w.heap.size w w') : w'.rangeAt b o cs := fun j v hv => by
  have h1 := h j v hv
  exact (hb.cell (p := ⟨b, o + j, none⟩) (World.block_lt_of_cell? w _ h1)).trans h1
theorem range_block {w : World} {g : Nat} {cs : Array Value} {t : TypeId} {fr : Nat × Nat} (h : w.heap[g]? = some (.cells cs t fr)) : w.rangeAt g 0 cs.toList := fun j v hv => by
  rw [Nat.zero_add]
  exact (Go.Joins.cell_of_block h j).trans (by simpa using hv)
theorem there_block {w : World} {g : Nat} {cs : Array Value} {t : TypeId} (h : w.heap[g]? = some (.cells cs t)) (o n : Nat) (hn : o + n ≤ cs.size) : w.there g o n := fun j hj =>
  ⟨by rw [Go.Joins.cell_of_block h (o + j), Array.getElem?_eq_getElem (by omega)]; rfl, Go.Joins.unfrozen_of_block h _⟩
/-- Values put into a list one after the other. -/
def setL (xs : List Value) : Nat → List Value → List Value
  | _, [] => xs
  | o, v :: vs => setL (xs.set o v) (o + 1) vs
theorem setL_len : ∀ (vs xs : List Value) (o : Nat), (setL xs o vs).length = xs.length
  | [], _, _ => rfl
  | v :: vs, xs, o => by rw [setL, setL_len vs]; simp
theorem setL_at : ∀ (vs xs : List Value) (o i : Nat), o + vs.length ≤ xs.length → (setL xs o vs)[i]? = if o ≤ i ∧ i < o + vs.length then vs[i - o]? else xs[i]?
  | [], xs, o, i, _ => by rw [setL, if_neg (by simp only [List.length_nil]; omega)]
  | v :: vs, xs, o, i, h => by
    simp only [List.length_cons] at h
    rw [setL, setL_at vs _ _ _ (by simp; omega)]
    by_cases h1 : o + 1 ≤ i ∧ i < o + 1 + vs.length
    · rw [if_pos h1, if_pos (by simp only [List.length_cons]; omega), show i - o = (i - (o + 1)) + 1 by omega, List.getElem?_cons_succ]
    · rw [if_neg h1]
      by_cases e : o = i
      · subst e
        rw [List.getElem?_set_self (by omega), if_pos (by simp only [List.length_cons]; omega)]
        simp
      · rw [List.getElem?_set_ne e, if_neg (by simp only [List.length_cons]; omega)]
theorem ownsRow_setCells {g cap n lo size : Nat} {e : TypeId} : ∀ (vs xs : List Value) (o : Nat) (w : World), w.ownsRow lo e size (.slice (some ⟨g, 0, none⟩) n cap) n xs → (w.setCells g o vs).ownsRow lo e size (.slice (some ⟨g, 0, none⟩) n cap) n (setL xs o vs)
  | [], _, _, _, h => h
  | v :: vs, xs, o, w, h => ownsRow_setCells vs (xs.set o v) (o + 1) _ (h.stored o v).1
/-- The blocks from lo on are as they were. -/
def From (lo : Nat) (w w' : World) : Prop := w.heap.size ≤ w'.heap.size ∧ ∀ k, lo ≤ k → k < w.heap.size → w'.heap[k]? = w.heap[k]?
theorem From.of_below {lo : Nat} {w w' : World} (h : Below w.heap.size w w') : From lo w w' := ⟨h.size, fun k _ hk => h.block k hk⟩
theorem ownsRow_from {lo n size : Nat} {e : TypeId} {v : Value} {xs : List Value} {w w' : World} (h : w.ownsRow lo e size v n xs) (hf : From lo w w') : w'.ownsRow lo e size v n xs := by
  refine ⟨h.1, ?_⟩
  rcases h.2 with hn | ⟨g, cap, cur, rfl, hb, hg, rest⟩
  · exact .inl hn
  · exact .inr ⟨g, cap, cur, rfl, hb, (hf.2 g hb (Array.getElem?_eq_some_iff.1 hg).1).trans hg, rest⟩
theorem ownsRow_lower {lo lo' n size : Nat} {e : TypeId} {v : Value} {xs : List Value} {w : World} (h : w.ownsRow lo e size v n xs) (hl : lo' ≤ lo) : w.ownsRow lo' e size v n xs := by
  refine ⟨h.1, ?_⟩
  rcases h.2 with hn | ⟨g, cap, cur, rfl, hb, rest⟩
  · exact .inl hn
  · exact .inr ⟨g, cap, cur, rfl, Nat.le_trans hl hb, rest⟩
theorem From.refl (lo : Nat) (w : World) : From lo w w := ⟨Nat.le_refl _, fun _ _ _ => rfl⟩
theorem From.trans {lo : Nat} {a b c : World} (h : From lo a b) (k : From lo b c) : From lo a c := ⟨Nat.le_trans h.1 k.1, fun q h1 h2 => (k.2 q h1 (Nat.lt_of_lt_of_le h2 h.1)).trans (h.2 q h1 h2)⟩
theorem From.mono {lo lo' : Nat} {a b : World} (h : From lo a b) (hl : lo ≤ lo') : From lo' a b := ⟨h.1, fun q h1 h2 => h.2 q (Nat.le_trans hl h1) h2⟩
theorem from_set {lo g : Nat} {w : World} (hg : g < lo) (j : Nat) (v : Value) : From lo w (w.setCell ⟨g, j, none⟩ v) := ⟨by simp, fun k h1 _ => Below.heap_setCell w ⟨g, j, none⟩ v k (fun e => by simp at e; omega)⟩
theorem from_cells {lo g : Nat} (hg : g < lo) : ∀ (vs : List Value) (o : Nat) (w : World), From lo w (w.setCells g o vs)
  | [], _, w => From.refl lo w
  | v :: vs, o, w => (from_set hg o v).trans (from_cells hg vs (o + 1) _)
theorem putA_all (cs : Array Value) (vs : List Value) (h : vs.length = cs.size) : putA cs 0 vs = vs.toArray := by
  apply Array.ext_getElem?
  intro i
  rw [putA_at _ _ _ _ (by omega)]
  by_cases hi : i < vs.length
  · rw [if_pos (by omega)]; simp
  · rw [if_neg (by omega), Array.getElem?_eq_none (by omega), Array.getElem?_eq_none (by simpa using by omega)]

section
variable {H : Type} {enc : TypeId × Value → H} {W : World} {base : Nat} {sp : Nat → Bool} {held : Bool}
end
end Go.Proofs.Ytckpjldenkjddaa
end

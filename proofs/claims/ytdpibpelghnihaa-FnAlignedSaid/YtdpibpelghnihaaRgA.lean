/-
  Ranges of cells: lists of values put into a block or a row of one's own, one after the other; what lies there over other stores; a type whose cells are ints and Bools, opened. Conditions: those of the lemma.
-/
import Derived.Test.YtdpibpelghnihaaRowI
import Derived.Test.YtdpibpelghnihaaOpen
import Derived.Deep.Slices
import Derived.Deep.MidRow
import Derived.Laws.OwnMore
import Derived.OwnWalk
namespace Go.Proofs.Ytdpibpelghnihaa
open Go.ChangeShapes Go.WideShapes Go.ChangeAt Go.RowKit
set_option linter.unusedVariables false
set_option maxRecDepth 8000

def I64 (z : Int) : Prop := -9223372036854775808 ≤ z ∧ z ≤ 9223372036854775807
def putA (cs : Array Value) : Nat → List Value → Array Value
  | _, [] => cs
  | o, v :: vs => putA (cs.setIfInBounds o v) (o + 1) vs
theorem putA_size : ∀ (vs : List Value) (cs : Array Value) (o : Nat), (putA cs o vs).size = cs.size
  | [], _, _ => rfl
  | v :: vs, cs, o => by rw [putA, putA_size vs]; simp
theorem putA_at : ∀ (vs : List Value) (cs : Array Value) (o i : Nat), o + vs.length ≤ cs.size → (putA cs o vs)[i]? = if o ≤ i ∧ i < o + vs.length then vs[i - o]? else cs[i]?
  | [], cs, o, i, _ => by rw [putA, if_neg (by simp only [List.length_nil]; omega)]
  | v :: vs, cs, o, i, h => by
    simp only [List.length_cons] at h
    rw [putA, putA_at vs _ _ _ (by simp; omega)]
    by_cases h1 : o + 1 ≤ i ∧ i < o + 1 + vs.length
    · rw [if_pos h1, if_pos (by simp only [List.length_cons]; omega), show i - o = (i - (o + 1)) + 1 by omega, List.getElem?_cons_succ]
    · rw [if_neg h1, Array.getElem?_setIfInBounds]
      by_cases e : o = i
      · subst e
        rw [if_pos rfl, if_pos (by omega), if_pos (by simp only [List.length_cons]; omega)]
        simp
      · rw [if_neg e, if_neg (by simp only [List.length_cons]; omega)]
theorem hp_puts {g : Nat} {t : TypeId} : ∀ (vs : List Value) (o : Nat) (cs : Array Value) (w : World), w.heap[g]? = some (.cells cs t) → (w.setCells g o vs).heap[g]? = some (.cells (putA cs o vs) t)
  | [], _, _, _, h => h
  | v :: vs, o, cs, w, h => hp_puts vs (o + 1) _ _ (Go.Joins.block_setCell h _)
theorem arr_eq {a b : Array Value} (h : a.toList = b.toList) : a = b := Array.toList_inj.1 h
theorem rg_below {w w' : World} {b o : Nat} {cs : List Value} (h : w.rangeAt b o cs) (hb : Below w.heap.size w w') : w'.rangeAt b o cs := fun j v hv => by
  have h1 := h j v hv
  exact (hb.cell (p := ⟨b, o + j, none⟩) (World.block_lt_of_cell? w _ h1)).trans h1
theorem range_block {w : World} {g : Nat} {cs : Array Value} {t : TypeId} {fr : Nat × Nat} (h : w.heap[g]? = some (.cells cs t fr)) : w.rangeAt g 0 cs.toList := fun j v hv => by
  rw [Nat.zero_add]
  exact (Go.Joins.cell_of_block h j).trans (by simpa using hv)
theorem there_block {w : World} {g : Nat} {cs : Array Value} {t : TypeId} (h : w.heap[g]? = some (.cells cs t)) (o n : Nat) (hn : o + n ≤ cs.size) : w.there g o n := fun j hj =>
  ⟨by rw [Go.Joins.cell_of_block h (o + j), Array.getElem?_eq_getElem (by omega)]; rfl, Go.Joins.unfrozen_of_block h _⟩
/-- Values put into a list one after the other. -/
def setL (xs : List Value) : Nat → List Value → List Value
  | _, [] => xs
  | o, v :: vs => setL (xs.set o v) (o + 1) vs
theorem setL_len : ∀ (vs xs : List Value) (o : Nat), (setL xs o vs).length = xs.length
  | [], _, _ => rfl
  | v :: vs, xs, o => by rw [setL, setL_len vs]; simp
theorem setL_at : ∀ (vs xs : List Value) (o i : Nat), o + vs.length ≤ xs.length → (setL xs o vs)[i]? = if o ≤ i ∧ i < o + vs.length then vs[i - o]? else xs[i]?
  | [], xs, o, i, _ => by rw [setL, if_neg (by simp only [List.length_nil]; omega)]
  | v :: vs, xs, o, i, h => by
    simp only [List.length_cons] at h
    rw [setL, setL_at vs _ _ _ (by simp; omega)]
    by_cases h1 : o + 1 ≤ i ∧ i < o + 1 + vs.length
    · rw [if_pos h1, if_pos (by simp only [List.length_cons]; omega), show i - o = (i - (o + 1)) + 1 by omega, List.getElem?_cons_succ]
    · rw [if_neg h1]
      by_cases e : o = i
      · subst e
        rw [List.getElem?_set_self (by omega), if_pos (by simp only [List.length_cons]; omega)]
        simp
      · rw [List.getElem?_set_ne e, if_neg (by simp only [List.length_cons]; omega)]
theorem ownsRow_setCells {g cap n lo size : Nat} {e : TypeId} : ∀ (vs xs : List Value) (o : Nat) (w : World), w.ownsRow lo e size (.slice (some ⟨g, 0, none⟩) n cap) n xs → (w.setCells g o vs).ownsRow lo e size (.slice (some ⟨g, 0, none⟩) n cap) n (setL xs o vs)
  | [], _, _, _, h => h
  | v :: vs, xs, o, w, h => ownsRow_setCells vs (xs.set o v) (o + 1) _ (h.stored o v).1
/-- The blocks from lo on are as they were. -/
def From (lo : Nat) (w w' : World) : Prop := w.heap.size ≤ w'.heap.size ∧ ∀ k, lo ≤ k → k < w.heap.size → w'.heap[k]? = w.heap[k]?
theorem From.of_below {lo : Nat} {w w' : World} (h : Below w.heap.size w w') : From lo w w' := ⟨h.size, fun k _ hk => h.block k hk⟩
theorem ownsRow_from {lo n size : Nat} {e : TypeId} {v : Value} {xs : List Value} {w w' : World} (h : w.ownsRow lo e size v n xs) (hf : From lo w w') : w'.ownsRow lo e size v n xs := by
  refine ⟨h.1, ?_⟩
  rcases h.2 with hn | ⟨g, cap, cur, rfl, hb, hg, rest⟩
  · exact .inl hn
  · exact .inr ⟨g, cap, cur, rfl, hb, (hf.2 g hb (Array.getElem?_eq_some_iff.1 hg).1).trans hg, rest⟩
theorem ownsRow_lower {lo lo' n size : Nat} {e : TypeId} {v : Value} {xs : List Value} {w : World} (h : w.ownsRow lo e size v n xs) (hl : lo' ≤ lo) : w.ownsRow lo' e size v n xs := by
  refine ⟨h.1, ?_⟩
  rcases h.2 with hn | ⟨g, cap, cur, rfl, hb, rest⟩
  · exact .inl hn
  · exact .inr ⟨g, cap, cur, rfl, Nat.le_trans hl hb, rest⟩
theorem From.refl (lo : Nat) (w : World) : From lo w w := ⟨Nat.le_refl _, fun _ _ _ => rfl⟩
theorem From.trans {lo : Nat} {a b c : World} (h : From lo a b) (k : From lo b c) : From lo a c := ⟨Nat.le_trans h.1 k.1, fun q h1 h2 => (k.2 q h1 (Nat.lt_of_lt_of_le h2 h.1)).trans (h.2 q h1 h2)⟩
theorem From.mono {lo lo' : Nat} {a b : World} (h : From lo a b) (hl : lo ≤ lo') : From lo' a b := ⟨h.1, fun q h1 h2 => h.2 q (Nat.le_trans hl h1) h2⟩
theorem from_set {lo g : Nat} {w : World} (hg : g < lo) (j : Nat) (v : Value) : From lo w (w.setCell ⟨g, j, none⟩ v) := ⟨by simp, fun k h1 _ => Below.heap_setCell w ⟨g, j, none⟩ v k (fun e => by simp at e; omega)⟩
theorem from_cells {lo g : Nat} (hg : g < lo) : ∀ (vs : List Value) (o : Nat) (w : World), From lo w (w.setCells g o vs)
  | [], _, w => From.refl lo w
  | v :: vs, o, w => (from_set hg o v).trans (from_cells hg vs (o + 1) _)
theorem cells_size (g : Nat) : ∀ (vs : List Value) (o : Nat) (w : World), (w.setCells g o vs).heap.size = w.heap.size
  | [], _, _ => rfl
  | v :: vs, o, w => (cells_size g vs (o + 1) _).trans (by simp)
theorem putA_all (cs : Array Value) (vs : List Value) (h : vs.length = cs.size) : putA cs 0 vs = vs.toArray := by
  apply Array.ext_getElem?
  intro i
  rw [putA_at _ _ _ _ (by omega)]
  by_cases hi : i < vs.length
  · rw [if_pos (by omega)]; simp
  · rw [if_neg (by omega), Array.getElem?_eq_none (by omega), Array.getElem?_eq_none (by simpa using by omega)]

def Leaf (b : Bool) (v : Value) : Prop := if b = true then ∃ z, v = .bool z else ∃ z, v = .int .i64 z ∧ I64 z
section
variable {H : Type} {enc : TypeId × Value → H} {W : World} {base : Nat} {sp : Nat → Bool} {held : Bool}
/-- Each cell of the type is an int or a Bool, as ks says. -/
def GoodT (enc : TypeId × Value → H) (W : World) (base : Nat) (sp : Nat → Bool) (held : Bool) (t : TypeId) (ks : List Bool) : Prop :=
  ∀ (fuel : Nat) (cs : List Value) (x : DataW H × List MemPlace), DataW.trod enc Try.prog W base sp held fuel t cs = some x → ∀ (j : Nat) (k : Bool), ks[j]? = some k → ∃ v, cs[j]? = some v ∧ Leaf k v
theorem good_int : GoodT enc W base sp held 3 [false] := fun fuel cs x h j k hk => by
  obtain ⟨z, rfl, _, hw⟩ := DataW.trod_int Try.underlying3 h
  match j, hk with
  | 0, hk => simp at hk; subst hk; exact ⟨_, rfl, z, rfl, bounds_i64 hw⟩
theorem good_bool : GoodT enc W base sp held 4 [true] := fun fuel cs x h j k hk => by
  obtain ⟨z, rfl, _⟩ := DataW.trod_bool Try.underlying4 h
  match j, hk with
  | 0, hk => simp at hk; subst hk; exact ⟨_, rfl, z, rfl⟩
theorem good_struct {t : TypeId} {fs : Array Field} {ks : List Bool} (ht : Try.prog.underlying t = some (.struct fs)) (kt : TypeId → List Bool) (hk : ∀ u, GoodT enc W base sp held u (kt u))
    (hloc : ((List.range ks.length).all fun j => (List.range fs.size).any fun i => match fs[i]? with
      | some f => decide (f.offset ≤ j) && decide (j - f.offset < Try.prog.cellsOf f.type) && ((kt f.type)[j - f.offset]? == ks[j]?)
      | none => false) = true) : GoodT enc W base sp held t ks := fun fuel cs x h j k hj => by
  obtain ⟨xs, n, _, _, _, hxl, hfd⟩ := DataW.trod_struct ht h
  have hjl : j < ks.length := (List.getElem?_eq_some_iff.1 hj).1
  have h1 := List.all_eq_true.1 hloc j (List.mem_range.2 hjl)
  obtain ⟨i, hi, h2⟩ := List.any_eq_true.1 h1
  cases hf : fs[i]? with
  | none => rw [hf] at h2; simp at h2
  | some f =>
    rw [hf] at h2
    simp only [Bool.and_eq_true, decide_eq_true_eq, beq_iff_eq] at h2
    obtain ⟨⟨h3, h4⟩, h5⟩ := h2
    have g0 := hfd i f hf
    have hsz : i < xs.length := by rw [hxl]; exact (Array.getElem?_eq_some_iff.1 hf).1
    rw [List.getElem?_eq_getElem hsz] at g0
    obtain ⟨v, hv, hl⟩ := hk f.type n _ _ g0 (j - f.offset) k (by rw [h5, hj])
    refine ⟨v, ?_, hl⟩
    rw [List.getElem?_take, if_pos h4, List.getElem?_drop, show f.offset + (j - f.offset) = j by omega] at hv
    exact hv
def kt0 (t : TypeId) : List Bool := if t = 3 then [false] else if t = 4 then [true] else []
theorem good0 (t : TypeId) : GoodT enc W base sp held t (kt0 t) := by
  unfold kt0
  split
  · subst_vars; exact good_int
  · split
    · subst_vars; exact good_bool
    · exact fun fuel cs x h j k hk => by simp at hk
end
end Go.Proofs.Ytdpibpelghnihaa

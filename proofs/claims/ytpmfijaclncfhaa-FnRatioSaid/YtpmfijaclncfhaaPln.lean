/-
  The contracts of laws.plain (the new style as a row) and laws.point (a value in points); ints stored into a style at an offset, the world behind it by its facts. Conditions: none.
-/
import Derived.Test.YtpmfijaclncfhaaSNew
namespace Go.Proofs.Ytpmfijaclncfhaa
open Go.ChangeShapes Go.WideShapes Go.ChangeAt Go.RowKit
set_option linter.unusedSimpArgs false
set_option linter.unusedVariables false

def plF : Nat → Int := upd newF 0 1
section
variable {ops : Array Oper} {rest : List Oper} {op : Oper} {a : Act} {w w0 : World} {Q : Exit → Act → World → Prop} {g : Nat} {t : TypeId} {f : Nat → Int}
theorem list_put_ints (zs : List Int) (o : Nat) {ty : TypeId} (hgd : op.guard = none) {x y : Operand} (ho : op.op = .store ty x y) (hx : a.eval x = .pointer (some ⟨g, o, none⟩)) (hy : a.eval y = .agg (zs.map (Value.int .i64)).toArray)
    (hi : (Try.prog.info? ty).map (·.size) = some zs.length) (hl : 8 ≤ o ∧ o + zs.length ≤ 60) (hg : w.heap[g]? = some (.cells (sCells f) t)) (hb : Below w0.heap.size w0 w) (h0 : w0.heap.size ≤ g)
    (h : ∀ u, Below w0.heap.size w0 u → u.heap[g]? = some (.cells (sCells (updL f o zs)) t) → (∀ g' ob, g' ≠ g → w.heap[g']? = some ob → u.heap[g']? = some ob) → wpList Try.prog ops Q rest (a.put op.dst undef) u) : wpList Try.prog ops Q (op :: rest) a w :=
  list_store_ints zs o hgd ho hx hy hi hl.2 hg (h _ (below_cells h0 _ _ _ hb) (sty_puts zs o f w hg hl.1 hl.2) fun g' ob hne hob => hp_cells hne _ _ _ hob)
end
theorem plain_any (w : World) :
    Calls Try.prog 21 #[] w fun e w' => e = .returned (.agg (sCells plF)) ∧ Below w.heap.size w w' := by
  have hz := hp_new w (.cells (sCells fun _ => 0) 31)
  have bb := Go.Joins.below_alloc1 w (.cells (sCells fun _ => 0) 31)
  obtain ⟨u, eu⟩ : ∃ u, u = w.alloc (.cells (sCells fun _ => 0) 31) := ⟨_, rfl⟩
  rw [← eu] at hz bb
  have EU := Lib.hid eu
  clear eu
  go_enter Try.func21, Try.ntmps21
  go_wp2_with (first | (rw [← EU.out]) | ((with_reducible apply list_alloc_sty); exact rfl; exact rfl; simp only [World.size_alloc, Act.put, List.setIfInBounds_toArray, List.set_cons_succ, List.set_cons_zero]))
  refine (snew _).mono ?_
  rintro e w1 ⟨rfl, b1⟩
  replace hz := hp_below hz b1
  replace bb := bb.trans (b1.mono bb.size)
  clear b1
  have hlt := hp_lt hz
  (try dsimp only)
  go_wp2_with (first | ((with_reducible apply list_new_sty (f := newF)); exact rfl; exact rfl; exact rfl; exact rfl; exact rfl; exact rfl; exact rfl; intro v2 bv2 hv2; have F0 := sty_free hv2 0; have c0 := sty_int hv2 0 (by decide); have hq := sty_put hv2 0 1 (.int .i64 1) (by decide) (sCell_int 1 (by decide)); have HZ := hp_set (hp_below hz bv2) (show w.heap.size ≠ w1.heap.size by omega) 0 (.int .i64 1); have b9 := bl_set (bb.trans (bv2.mono bb.size)) 0 (show w.heap.size ≤ w1.heap.size by omega) (.int .i64 1); simp only [World.size_alloc, Act.put, List.setIfInBounds_toArray, List.set_cons_succ, List.set_cons_zero]) | ((with_reducible apply list_load_sty); exact rfl; exact rfl; exact rfl; (with_reducible exact hq); simp only [World.size_alloc, Act.put, List.setIfInBounds_toArray, List.set_cons_succ, List.set_cons_zero]) | ((with_reducible apply list_store_sty); exact rfl; exact rfl; exact rfl; exact rfl; (with_reducible exact HZ); simp only [World.size_alloc, Act.put, List.setIfInBounds_toArray, List.set_cons_succ, List.set_cons_zero]))
  exact bodyPost_ret (results_sty rfl rfl (setRow_heap _ _ _ (sCells plF) _ _ HZ)) rfl ⟨rfl, below_setRow b9 (Nat.le_refl _) _⟩
theorem point_any (n : Int) (w : World) :
    Calls Try.prog 22 #[.int .i64 n] w fun e w' => e = .returned (.agg #[.int .i64 1, .int .i64 n]) ∧ Below w.heap.size w w' := by
  go_enter Try.func22, Try.ntmps22
  go_wp2
  exact bodyPost_ret (v := .agg #[.int .i64 1, .int .i64 n]) (by simp [results, Try.results22, go_sem]) rfl ⟨rfl, Go.Joins.below_alloc1 ..⟩
end Go.Proofs.Ytpmfijaclncfhaa

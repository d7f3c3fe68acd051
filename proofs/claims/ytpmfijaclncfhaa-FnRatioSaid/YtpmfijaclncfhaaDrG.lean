/-
  What the draws of styles stand on: one operation at a time in a region that draws, a style loaded, stored and answered there. Conditions: none.
-/
import Derived.Test.YtpmfijaclncfhaaYsD
import Derived.Test.YtpmfijaclncfhaaNewC
import Derived.Deep.RegionHeld
namespace Go.Proofs.Ytpmfijaclncfhaa
open Go.ChangeShapes Go.WideShapes Go.ChangeAt Go.RowKit
set_option linter.unusedSimpArgs false
set_option linter.unusedVariables false

def StyleDraw (w : World) (e : Ending) (w' : World) : Prop := ∃ f : Nat → Int, e = .returned (.agg (sCells f)) ∧ Below w.heap.size w w'
def StylesDraw (w : World) (e : Ending) (w' : World) : Prop := ∃ f g : Nat → Int, e = .returned (.tuple #[.agg (sCells f), .agg (sCells g)]) ∧ Below w.heap.size w w'
/-- One operation alone may come next. -/
theorem any_one {P : Program} {md : Region.Mode} {ops : Array Oper} {Q : Exit → Act → World → Prop} {S : World → Prop} {fuel : Nat} {listed : Array Bool} {a : Act} {w : World} (i : Nat) {o : Oper} (ho : ops[i]? = some o) (hr : Region.ready md ops listed = [i]) (hw : Region.wanted o (yielded ops a.tmps) = true)
    (h : o.wp P a w (fun a' w' => S w' ∧ wpAnyH P md ops Q S fuel (listed.setIfInBounds i true) a' w') Q) : wpAnyH P md ops Q S (fuel + 1) listed a w :=
  wpAnyH_all hr (by simp) fun j hj => by
    simp only [List.mem_singleton] at hj
    subst hj
    unfold wpOp
    simp only [ho]
    rw [if_pos hw]
    exact Or.inl h
section
variable {ops : Array Oper} {S : World → Prop} {op : Oper} {a : Act} {g : Nat} {t : TypeId} {f : Nat → Int} {Q : Exit → Act → World → Prop} {K : Act → World → Prop} {w : World}
theorem yields_sty {x : Operand} (hw : Region.wanted op (yielded ops a.tmps) = true) (ho : op.op = .load 31 x) (hx : a.eval x = .pointer (some ⟨g, 0, none⟩)) (hS : ∀ w, S w → w.heap[g]? = some (.cells (sCells f) t)) : YieldsIf Try.prog ops S op (.agg (sCells f)) a :=
  .inl ⟨hw, fun w hw' => by
    unfold execOp
    simp only [ho, hx, Instr.loadAt, Instr.sureAddr, Sem.run_bind, Sem.run_pure, Result.andThen_ok, load_sty (hS w hw')]⟩
theorem wp_put_sty {f' : Nat → Int} {x y : Operand} (ho : op.op = .store 31 x y) (hx : a.eval x = .pointer (some ⟨g, 0, none⟩)) (hy : a.eval y = .agg (sCells f)) (hg : w.heap[g]? = some (.cells (sCells f') t)) (h : K (a.put op.dst undef) (w.setRow g (sCells f))) : op.wp Try.prog a w K Q :=
  wp_store_row _ x y ho g _ hx hy t _ hg (sty_size f) (by rw [sCells_size, sCells_size]) (sCells_one f) h
/-- Two answers, each in a cell of its own. -/
theorem results_sty2 {fn : Func} {p q : Tmp} (h : fn.results = #[.cell p 31, .cell q 31]) {tmps : Array Value} {g' : Nat} {t' : TypeId} {f' : Nat → Int} (hp : tmps.getD p undef = .pointer (some ⟨g, 0, none⟩)) (hq : tmps.getD q undef = .pointer (some ⟨g', 0, none⟩))
    (hg : w.heap[g]? = some (.cells (sCells f) t)) (hg' : w.heap[g']? = some (.cells (sCells f') t')) : (results fn tmps).run Try.prog w = .ok (.tuple #[.agg (sCells f), .agg (sCells f')]) w := by
  have hp' : tmps[p]?.getD undef = .pointer (some ⟨g, 0, none⟩) := by simpa using hp
  have hq' : tmps[q]?.getD undef = .pointer (some ⟨g', 0, none⟩) := by simpa using hq
  simp [results, h, hp', hq', asAddr, load_sty hg, load_sty hg']
end

end Go.Proofs.Ytpmfijaclncfhaa

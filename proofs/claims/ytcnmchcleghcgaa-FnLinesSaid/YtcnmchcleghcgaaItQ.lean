/-
  Loads of a whole item in a region that draws. Conditions: those of the lemma.
-/
import Derived.Test.YtcnmchcleghcgaaItM
import Derived.Test.YtcnmchcleghcgaaOpen
import Derived.BigQuiet
import Derived.Lib.QuietBelow
namespace Go.Proofs.Ytcnmchcleghcgaa
open Go.ChangeShapes Go.WideShapes Go.ChangeAt Go.RowKit
section
variable {o : Oper} {a : Act} {K : Act → Prop} {g : Nat} {x : It} {t : TypeId}
theorem load_it {w : World} (h : w.heap[g]? = some (.cells x.A t)) : (loadVar 32 ⟨g, 0, none⟩).run Try.prog w = .ok (.agg #[.int .i64 x.base, .int .i64 x.least, .int .i64 x.most, .int .i64 x.grow, .int .i64 x.shrink, .int .i64 x.before, .int .i64 x.behind, .bool x.ab, .bool x.ah]) w :=
  run_loadVar_row w g t _ _ _ _ h it_under rfl (it_sizeA x)
theorem quiet_it {w : World} {p : Operand} (ho : o.op = .load 32 p) (hx : a.eval p = .pointer (some ⟨g, 0, none⟩)) (hg : w.heap[g]? = some (.cells x.A t)) (h : K (a.put o.dst (.agg #[.int .i64 x.base, .int .i64 x.least, .int .i64 x.most, .int .i64 x.grow, .int .i64 x.shrink, .int .i64 x.before, .int .i64 x.behind, .bool x.ab, .bool x.ah]))) :
    o.quiet Try.prog a (fun w' => ∃ p : Regrown, w' = Sort.grow (redrawn w p.d) p.os) K :=
  ⟨.agg #[.int .i64 x.base, .int .i64 x.least, .int .i64 x.most, .int .i64 x.grow, .int .i64 x.shrink, .int .i64 x.before, .int .i64 x.behind, .bool x.ab, .bool x.ah], fun w' hw => by
    have hg' : w'.heap[g]? = some (.cells x.A t) := by
      obtain ⟨p, e⟩ := hw
      rw [e]
      exact hp_below hg (below_regrown w p.d p.os)
    unfold Oper.quietAt execOp
    simp only [ho, hx, Instr.loadAt, Instr.sureAddr, Sem.run_bind, Sem.run_pure, Result.andThen_ok, load_it hg']
    exact ⟨rfl, rfl⟩, h⟩
end
theorem list_load_git {ops : Array Oper} {rest : List Oper} {op : Oper} {a : Act} {w : World} {Q : Exit → Act → World → Prop} {g o : Nat} {x : It} (hw : Region.wanted op (yielded ops a.tmps) = true) (p : Operand) (ho : op.op = .load 32 p) (hx : a.eval p = .pointer (some ⟨g, o, none⟩)) (hg : w.rangeAt g o x.L)
    (h : wpList Try.prog ops Q rest (a.put op.dst (.agg #[.int .i64 x.base, .int .i64 x.least, .int .i64 x.most, .int .i64 x.grow, .int .i64 x.shrink, .int .i64 x.before, .int .i64 x.behind, .bool x.ab, .bool x.ah])) w) : wpList Try.prog ops Q (op :: rest) a w :=
  wpList_step fun K hK => by
    rw [if_pos hw]
    exact wp_load_mid _ p ho g o hx _ _ hg it_under rfl (it_size x) (hK _ _ h)
end Go.Proofs.Ytcnmchcleghcgaa

/-
  Loads of a whole item in a region that draws. Conditions: those of the lemma.
-/
import Derived.Test.YtopfiogmbnfjcaaItM
import Derived.Test.YtopfiogmbnfjcaaOpen
import Derived.BigQuiet
import Derived.Lib.QuietBelow
namespace Go.Proofs.Ytopfiogmbnfjcaa
open Go.ChangeShapes Go.WideShapes Go.ChangeAt Go.RowKit
section
variable {o : Oper} {a : Act} {K : Act → Prop} {g : Nat} {x : It} {t : TypeId}
theorem load_it {w : World} (h : w.heap[g]? = some (.cells x.A t)) : (loadVar 34 ⟨g, 0, none⟩).run Try.prog w = .ok (.agg #[.int .i64 x.base, .int .i64 x.least, .int .i64 x.most, .int .i64 x.grow, .int .i64 x.shrink, .int .i64 x.before, .int .i64 x.behind, .bool x.ab, .bool x.ah]) w :=
  run_loadVar_row w g t _ _ _ _ h it_under rfl (it_sizeA x)
theorem quiet_it {w : World} {p : Operand} (ho : o.op = .load 34 p) (hx : a.eval p = .pointer (some ⟨g, 0, none⟩)) (hg : w.heap[g]? = some (.cells x.A t)) (h : K (a.put o.dst (.agg #[.int .i64 x.base, .int .i64 x.least, .int .i64 x.most, .int .i64 x.grow, .int .i64 x.shrink, .int .i64 x.before, .int .i64 x.behind, .bool x.ab, .bool x.ah]))) :
    o.quiet Try.prog a (fun w' => ∃ p : Regrown, w' = Sort.grow (redrawn w p.d) p.os) K :=
  ⟨.agg #[.int .i64 x.base, .int .i64 x.least, .int .i64 x.most, .int .i64 x.grow, .int .i64 x.shrink, .int .i64 x.before, .int .i64 x.behind, .bool x.ab, .bool x.ah], fun w' hw => by
    have hg' : w'.heap[g]? = some (.cells x.A t) := by
      obtain ⟨p, e⟩ := hw
      rw [e]
      exact hp_below hg (below_regrown w p.d p.os)
    unfold Oper.quietAt execOp
    simp only [ho, hx, Instr.loadAt, Instr.sureAddr, Sem.run_bind, Sem.run_pure, Result.andThen_ok, load_it hg']
    exact ⟨rfl, rfl⟩, h⟩
end
end Go.Proofs.Ytopfiogmbnfjcaa

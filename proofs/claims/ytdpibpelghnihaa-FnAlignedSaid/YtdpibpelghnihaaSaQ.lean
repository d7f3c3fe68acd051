/-
  Loads of a whole Side in a region that draws. Conditions: those of the lemma.
-/
import Derived.Test.YtdpibpelghnihaaSaM
import Derived.Test.YtdpibpelghnihaaOpen
import Derived.BigQuiet
import Derived.Lib.QuietBelow
namespace Go.Proofs.Ytdpibpelghnihaa
open Go.ChangeShapes Go.WideShapes Go.ChangeAt Go.RowKit
section
variable {o : Oper} {a : Act} {K : Act → Prop} {g : Nat} {x : Sa} {t : TypeId}
theorem load_sa {w : World} (h : w.heap[g]? = some (.cells x.A t)) : (loadVar 25 ⟨g, 0, none⟩).run Try.prog w = .ok (.agg #[.int .i64 x.size, .int .i64 x.before, .int .i64 x.behind, .bool x.ab, .bool x.ah, .int .i64 x.al, .int .i64 x.base]) w :=
  run_loadVar_row w g t _ _ _ _ h sa_under rfl (sa_sizeA x)
theorem quiet_sa {w : World} {p : Operand} (ho : o.op = .load 25 p) (hx : a.eval p = .pointer (some ⟨g, 0, none⟩)) (hg : w.heap[g]? = some (.cells x.A t)) (h : K (a.put o.dst (.agg #[.int .i64 x.size, .int .i64 x.before, .int .i64 x.behind, .bool x.ab, .bool x.ah, .int .i64 x.al, .int .i64 x.base]))) :
    o.quiet Try.prog a (fun w' => ∃ p : Regrown, w' = Sort.grow (redrawn w p.d) p.os) K :=
  ⟨.agg #[.int .i64 x.size, .int .i64 x.before, .int .i64 x.behind, .bool x.ab, .bool x.ah, .int .i64 x.al, .int .i64 x.base], fun w' hw => by
    have hg' : w'.heap[g]? = some (.cells x.A t) := by
      obtain ⟨p, e⟩ := hw
      rw [e]
      exact hp_below hg (below_regrown w p.d p.os)
    unfold Oper.quietAt execOp
    simp only [ho, hx, Instr.loadAt, Instr.sureAddr, Sem.run_bind, Sem.run_pure, Result.andThen_ok, load_sa hg']
    exact ⟨rfl, rfl⟩, h⟩
end
theorem list_load_gsa {ops : Array Oper} {rest : List Oper} {op : Oper} {a : Act} {w : World} {Q : Exit → Act → World → Prop} {g o : Nat} {x : Sa} (hw : Region.wanted op (yielded ops a.tmps) = true) (p : Operand) (ho : op.op = .load 25 p) (hx : a.eval p = .pointer (some ⟨g, o, none⟩)) (hg : w.rangeAt g o x.L)
    (h : wpList Try.prog ops Q rest (a.put op.dst (.agg #[.int .i64 x.size, .int .i64 x.before, .int .i64 x.behind, .bool x.ab, .bool x.ah, .int .i64 x.al, .int .i64 x.base])) w) : wpList Try.prog ops Q (op :: rest) a w :=
  wpList_step fun K hK => by
    rw [if_pos hw]
    exact wp_load_mid _ p ho g o hx _ _ hg sa_under rfl (sa_size x) (hK _ _ h)
end Go.Proofs.Ytdpibpelghnihaa

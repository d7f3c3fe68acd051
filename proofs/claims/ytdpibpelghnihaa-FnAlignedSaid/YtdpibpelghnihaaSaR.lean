/-
  Loads of a whole Side from a row in a region that draws. Conditions: those of the lemma.
-/
import Derived.Test.YtdpibpelghnihaaSaQ
namespace Go.Proofs.Ytdpibpelghnihaa
open Go.ChangeShapes Go.WideShapes Go.ChangeAt Go.RowKit
set_option linter.unusedVariables false
set_option linter.unusedSimpArgs false
set_option maxRecDepth 20000

theorem quiet_rga {o : Oper} {a : Act} {K : Act → Prop} {g j : Nat} {x : Sa} {w : World} {p : Operand} (ho : o.op = .load 25 p) (hx : a.eval p = .pointer (some ⟨g, j, none⟩)) (hg : w.rangeAt g j x.L) (h : K (a.put o.dst (.agg #[.int .i64 x.size, .int .i64 x.before, .int .i64 x.behind, .bool x.ab, .bool x.ah, .int .i64 x.al, .int .i64 x.base]))) :
    o.quiet Try.prog a (fun w' => ∃ p : Regrown, w' = Sort.grow (redrawn w p.d) p.os) K :=
  ⟨.agg #[.int .i64 x.size, .int .i64 x.before, .int .i64 x.behind, .bool x.ab, .bool x.ah, .int .i64 x.al, .int .i64 x.base], fun w' hw => by
    have hg' : w'.rangeAt g j x.L := by
      obtain ⟨p, e⟩ := hw
      rw [e]
      exact rg_below hg (below_regrown w p.d p.os)
    have hr := run_loadVar_mid (P := Try.prog) w' g j 25 x.L _ hg' sa_under rfl (sa_size x)
    unfold Oper.quietAt execOp
    simp only [ho, hx, Instr.loadAt, Instr.sureAddr, Sem.run_bind, Sem.run_pure, Result.andThen_ok, hr]
    exact ⟨rfl, rfl⟩, h⟩
end Go.Proofs.Ytdpibpelghnihaa

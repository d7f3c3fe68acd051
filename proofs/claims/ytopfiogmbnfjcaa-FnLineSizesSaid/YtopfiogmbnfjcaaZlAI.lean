import Derived.BigQuiet
import Derived.Lib.QuietBelow
import Derived.Test.YtopfiogmbnfjcaaZlAD
import Derived.Test.YtopfiogmbnfjcaaZlAH
section
namespace Go.Proofs.Ytopfiogmbnfjcaa
open Go.ChangeShapes Go.WideShapes Go.ChangeAt Go.RowKit
section
variable {o : Oper} {a : Act} {K : Act → Prop} {g : Nat} {x : It} {t : TypeId}
end
theorem list_load_git {ops : Array Oper} {rest : List Oper} {op : Oper} {a : Act} {w : World} {Q : Exit → Act → World → Prop} {g o : Nat} {x : It} (hw : Region.wanted op (yielded ops a.tmps) = true) (p : Operand) (ho : op.op = .load 34 p) (hx : a.eval p = .pointer (some ⟨g, o, none⟩)) (hg : w.rangeAt g o x.L)
    (h : wpList Try.prog ops Q rest (a.put op.dst (.agg #[.int .i64 x.base, .int .i64 x.least, .int .i64 x.most, .int .i64 x.grow, .int .i64 x.shrink, .int .i64 x.before, .int .i64 x.behind, .bool x.ab, .bool x.ah])) w) : wpList Try.prog ops Q (op :: rest) a w :=
  wpList_step fun K hK => by
    rw [if_pos hw]
    exact wp_load_mid _ p ho g o hx _ _ hg it_under rfl (it_size x) (hK _ _ h)
end Go.Proofs.Ytopfiogmbnfjcaa
end

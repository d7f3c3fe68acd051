import Derived.Laws.Tables
import Derived.Test.YtckpjldenkjddaaZcAU
section
namespace Go.Proofs.Ytckpjldenkjddaa
open Go.ChangeShapes Go.WideShapes Go.ChangeAt Go.RowKit
set_option maxRecDepth 8000

theorem built_nd (f : Nat → Int) : Try.prog.built 61 [(2, .agg (sCells f))] = some (nA 0 (.slice none 0 0) f false (.slice none 0 0)) := by kernel_rfl
theorem list_build_nd {ops : Array Oper} {rest : List Oper} {o : Oper} {a : Act} {w : World} {Q : Exit → Act → World → Prop} {f : Nat → Int} (hg : o.guard = none) (x : Operand) (ho : o.op = .build 61 #[(2, x)]) (hx : a.eval x = .agg (sCells f))
    (h : wpList Try.prog ops Q rest (a.put o.dst (.agg (nA 0 (.slice none 0 0) f false (.slice none 0 0)))) w) : wpList Try.prog ops Q (o :: rest) a w := by
  have e : Try.prog.built 61 ((#[(2, x)] : Array (Nat × Operand)).map fun (i, y) => (i, a.eval y)).toList = some (nA 0 (.slice none 0 0) f false (.slice none 0 0)) := by
    simp only [List.map_toArray, List.map_cons, List.map_nil, hx]
    exact built_nd f
  exact wpList_build hg _ _ ho (by rw [e]; rfl) (by rw [e]; exact h)
end Go.Proofs.Ytckpjldenkjddaa
end

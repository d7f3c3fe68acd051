/-
  A slice literal of one node: the block that it makes. Conditions: none.
-/
import Derived.Test.YtbaahedoifajpaaNdA
namespace Go.Proofs.Ytbaahedoifajpaa
open Go.ChangeShapes Go.WideShapes Go.ChangeAt Go.RowKit
set_option linter.unusedVariables false
set_option linter.unusedSimpArgs false
set_option maxRecDepth 8000

theorem fold_put : ∀ (vs : List Value) (cs : Array Value) (o : Nat), (vs.zipIdx o).foldl (fun cs (cj : Value × Nat) => cs.setIfInBounds cj.2 cj.1) cs = putA cs o vs
  | [], _, _ => rfl
  | v :: vs, cs, o => by
    rw [List.zipIdx_cons, List.foldl_cons, fold_put vs, putA]
theorem run_bs_nd (w : World) (arr : Array Value) (ha : arr.size = 64) : (Instr.buildSlice 24 1 #[(0, .agg arr)]).run Try.prog w = .ok (.slice (some ⟨w.heap.size, 0, none⟩) 1 1) (w.alloc (.cells arr 61)) := by
  obtain ⟨i0, hi, hz0, hz1, hz2⟩ := info_parts info_node
  have hzz : (Value.agg nZ).cells = nZ := rfl
  have hcc : (Value.agg arr).cells = arr := rfl
  unfold Instr.buildSlice
  simp [Sem.run_bind, run_underlying Try.underlying24, sizeOf, typeInfo, hi, hz1, zeroValue, hz0, Instr.fill, hcc, ha, newRow, newObj]
  have hf : ∀ Z : Array Value, Z.size = 64 → Array.foldl (fun cs (x : Value × Nat) => cs.setIfInBounds x.snd x.fst) Z arr.zipIdx 0 64 = arr := fun Z hZ => by
    have h64 : (64 : Nat) = arr.zipIdx.size := by simp [ha]
    rw [h64, ← Array.foldl_toList, Array.toList_zipIdx, fold_put, putA_all _ _ (by simp [hZ, ha])]
  rw [hf _ (by simp)]
  rfl
theorem list_bs_nd {ops : Array Oper} {rest : List Oper} {op : Oper} {a : Act} {w : World} {Q : Exit → Act → World → Prop} {arr : Array Value} (hgd : op.guard = none) (x : Operand) (ho : op.op = .buildSlice 24 1 #[(0, x)]) (hx : a.eval x = .agg arr) (ha : arr.size = 64)
    (h : wpList Try.prog ops Q rest (a.put op.dst (.slice (some ⟨w.heap.size, 0, none⟩) 1 1)) (w.alloc (.cells arr 61))) : wpList Try.prog ops Q (op :: rest) a w := by
  refine wpList_plain hgd fun K hK => ?_
  unfold Oper.wp execOp
  simp only [ho, Sem.run_bind, List.map_toArray, List.map_cons, List.map_nil, hx, run_bs_nd w arr ha, Result.andThen_ok, Sem.run_pure]
  exact hK _ _ h
theorem wp_bs_nd {op : Oper} {a : Act} {w : World} {K : Act → World → Prop} {Q : Exit → Act → World → Prop} {arr : Array Value} (x : Operand) (ho : op.op = .buildSlice 24 1 #[(0, x)]) (hx : a.eval x = .agg arr) (ha : arr.size = 64)
    (h : K (a.put op.dst (.slice (some ⟨w.heap.size, 0, none⟩) 1 1)) (w.alloc (.cells arr 61))) : op.wp Try.prog a w K Q := by
  unfold Oper.wp execOp
  simp only [ho, Sem.run_bind, List.map_toArray, List.map_cons, List.map_nil, hx, run_bs_nd w arr ha, Result.andThen_ok, Sem.run_pure]
  exact h
end Go.Proofs.Ytbaahedoifajpaa

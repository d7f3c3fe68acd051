import Derived.Test.YtnncdpkmhpjmbaaZmAM
import Derived.Test.YtnncdpkmhpjmbaaZmAS
section
namespace Go.Proofs.Ytnncdpkmhpjmbaa
open Go.ChangeShapes Go.WideShapes Go.ChangeAt Go.RowKit
set_option linter.unusedVariables false
set_option linter.unusedSimpArgs false
set_option maxRecDepth 20000

/-- Items that were just written down. -/
theorem lit_its (w : World) (xs : List It) (t : TypeId) (hr : ∀ x ∈ xs, x.inr) : Its (w.alloc (.cells (cellsI xs).toArray t)) (some ⟨w.heap.size, 0, none⟩) xs := by
  refine ⟨hr, Or.inr ⟨w.heap.size, 0, rfl, by simp, fun k x hk j v hv => ?_⟩⟩
  have hj : j < 9 := by have := (List.getElem?_eq_some_iff.1 hv).1; simpa [It.L_len] using this
  have h := range_block (hp_new w (.cells (cellsI xs).toArray t)) (k * 9 + j) v (by
    rw [List.toList_toArray, cellsI_at xs k j hj, hk]
    exact hv)
  rw [show 0 + (k * 9 + j) = 0 + k * 9 + j by omega] at h
  exact h
theorem gr_bel {w w' : World} (h : Below w.heap.size w w') (row : Option Nat) : w.grownBy w' row := ⟨h.os, h.tape, h.output, h.size, fun k hk _ => h.block k hk⟩
theorem Cur.bel {cb : Nat} {a : Option Addr} {len cap : Nat} {w w' : World} (h : Cur cb a len cap w) (hcb : cb < w.heap.size) (hb : Below w.heap.size w w') : Cur cb a len cap w' := h.kept hcb (gr_bel hb none) (fun k hk => by cases hk)
end Go.Proofs.Ytnncdpkmhpjmbaa
end

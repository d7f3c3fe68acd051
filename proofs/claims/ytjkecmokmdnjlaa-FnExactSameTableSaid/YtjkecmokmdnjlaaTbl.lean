/-
  What the exact laws on tables share: two boxes' cells kept over calls, in a region that draws too. Conditions: none.
-/
import Derived.Test.YtjkecmokmdnjlaaRlT
import Derived.Test.YtjkecmokmdnjlaaRlE
import Derived.Deep.RegionHeld3
import Derived.Below
namespace Go.Proofs.Ytjkecmokmdnjlaa
open Go.ChangeShapes Go.WideShapes Go.ChangeAt Go.RowKit

/-- Two cells, and the world they were made in. -/
def Two (v : World) (p q : Addr) (s t : Value) (w : World) : Prop := w.cell? p = some s ∧ w.cell? q = some t ∧ Below v.heap.size v w
theorem keep2 {v w w' : World} {p q : Addr} {s t : Value} (h : w.cell? p = some s ∧ w.cell? q = some t ∧ Below v.heap.size v w) (hb : Below w.heap.size w w') : w'.cell? p = some s ∧ w'.cell? q = some t ∧ Below v.heap.size v w' :=
  ⟨(hb.cell (block_lt_of_cell h.1)).trans h.1, (hb.cell (block_lt_of_cell h.2.1)).trans h.2.1, h.2.2.trans (hb.mono h.2.2.size)⟩
theorem drew2 {v w : World} {p q : Addr} {s t : Value} (h : w.cell? p = some s ∧ w.cell? q = some t ∧ Below v.heap.size v w) : w.drew.cell? p = some s ∧ w.drew.cell? q = some t ∧ Below v.heap.size v w.drew := ⟨h.1, h.2.1, h.2.2.drew⟩
end Go.Proofs.Ytjkecmokmdnjlaa

import Derived.Deep.CutRange
import Derived.Test.YtnncdpkmhpjmbaaZnAF
import Derived.Test.YtnncdpkmhpjmbaaZnAG
import Derived.Test.YtnncdpkmhpjmbaaZnAI
import Derived.Test.YtnncdpkmhpjmbaaZnAL
import Derived.Test.YtnncdpkmhpjmbaaZnAN
section
namespace Go.Proofs.Ytnncdpkmhpjmbaa
open Go.ChangeShapes Go.WideShapes Go.ChangeAt Go.RowKit
set_option linter.unusedVariables false
set_option linter.unusedSimpArgs false
set_option maxRecDepth 20000

/-- An item as it is drawn. -/
structure It.Dr (x : It) : Prop where
  base : -1 ≤ x.base ∧ x.base ≤ 1048577
  least : 0 ≤ x.least ∧ x.least ≤ 700
  most : -2 ≤ x.most ∧ x.most ≤ 1048577
  grow : -1 ≤ x.grow ∧ x.grow ≤ 1001
  shrink : 0 ≤ x.shrink ∧ x.shrink ≤ 1000
  before : -1048576 ≤ x.before ∧ x.before ≤ 1048577
  behind : -10 ≤ x.behind ∧ x.behind ≤ 64
theorem It.Dr.inr {x : It} (h : x.Dr) : x.inr := by
  obtain ⟨h0, h1, h2, h3, h4, h5, h6⟩ := h
  simp only [It.inr, I64]; omega
/-- Where a draw's own blocks lie. -/
structure IDw (w : World) (cb : Nat) (a : Option Addr) (len gr gs : Nat) : Prop where
  ltc : cb < w.heap.size
  ger : w.heap.size ≤ gr
  ges : w.heap.size ≤ gs
  ne : gr ≠ gs
  code : 0 < len → ∀ b off, a = some ⟨b, off, none⟩ → b < w.heap.size
/-- What stands while an item is drawn. -/
structure IS (w : World) (cb : Nat) (a : Option Addr) (len cap gr gs : Nat) (x : It) (wr : World) : Prop where
  here : wr.heap[gs]? = some (.cells x.A 40)
  res : wr.heap[gr]? = some (.cells It0.A 40)
  cur : Cur cb a len cap wr
  gro : w.grownBy wr (some cb)
section
variable {w wr w' : World} {cb : Nat} {a : Option Addr} {len cap gr gs : Nat} {x : It}
theorem IS.kept (h : IS w cb a len cap gr gs x wr) (W : IDw w cb a len gr gs) (g : wr.grownBy w' (some cb)) (c : Cur cb a len cap w') : IS w cb a len cap gr gs x w' :=
  ⟨blk_kept h.here g (by have := W.ltc; have := W.ges; omega), blk_kept h.res g (by have := W.ltc; have := W.ger; omega), c, gr_trans h.gro g⟩
theorem IS.lt (h : IS w cb a len cap gr gs x wr) (W : IDw w cb a len gr gs) : cb < wr.heap.size := Nat.lt_of_lt_of_le W.ltc h.gro.size
theorem IS.put (h : IS w cb a len cap gr gs x wr) (W : IDw w cb a len gr gs) (k : Nat) (v : Value) (x' : It) (e : x.A.setIfInBounds k v = x'.A) : IS w cb a len cap gr gs x' (wr.setCell ⟨gs, k, none⟩ v) :=
  ⟨by rw [Go.Joins.block_setCell h.here v, e], hp_set h.res W.ne k v, h.cur.stored (h.lt W) (by have := W.ltc; have := W.ges; omega) (fun h0 b off e => by have := W.code h0 b off e; have := W.ges; omega) _, gr_store h.gro W.ges⟩
theorem IS.spot (h : IS w cb a len cap gr gs x wr) (k : Nat) (hk : k < 9) : (∃ q, wr.cell? ⟨gs, k, none⟩ = some q) ∧ wr.frozen? ⟨gs, k, none⟩ = false :=
  ⟨⟨_, (Go.Joins.cell_of_block h.here k).trans (Array.getElem?_eq_getElem (by rw [It.A_size]; exact hk))⟩, Go.Joins.unfrozen_of_block h.here k⟩
end
end Go.Proofs.Ytnncdpkmhpjmbaa
end

/-
  A cursor beside rows of ints that a draw makes. Conditions: those of the cursor.
-/
import Derived.Test.YtcnmchcleghcgaaNewC
import Derived.Test.YtcnmchcleghcgaaRowI
namespace Go.Proofs.Ytcnmchcleghcgaa
open Go.ChangeShapes Go.WideShapes Go.ChangeAt Go.RowKit
set_option maxRecDepth 20000

theorem AllI.snoc {xs : List Int} {x : Int} (h : AllI xs) (h0 : -9223372036854775808 ≤ x) (h1 : x ≤ 9223372036854775807) : AllI (xs ++ [x]) := by
  intro y hy
  rcases List.mem_append.1 hy with hy | hy
  · exact h y hy
  · simp at hy; omega
/-- The cursor and its code, apart from a row that was made later. -/
theorem Cur.row {cb : Nat} {a : Option Addr} {len cap : Nat} {w wr w' : World} {v : Value} {xs : List Int} (hcb : cb < w.heap.size) (hc : Cur cb a len cap wr) (hg : w.grownBy wr (some cb)) (hr : RowI w.heap.size v xs wr) (hgr : wr.grownBy w' v.ownBlock) (hap : 0 < len → ∀ b off, a = some ⟨b, off, none⟩ → b < w.heap.size) : Cur cb a len cap w' :=
  hc.kept (Nat.lt_of_lt_of_le hcb hg.size) hgr (fun g hg' => by
    have h1 := (World.ownsRow.lt hr g hg').1
    exact ⟨by omega, fun h0 b off e => by have := hap h0 b off e; omega⟩)
theorem gr_row {cb : Nat} {w wr w' : World} {v : Value} {xs : List Int} (hg : w.grownBy wr (some cb)) (hr : RowI w.heap.size v xs wr) (hgr : wr.grownBy w' v.ownBlock) : w.grownBy w' (some cb) :=
  ⟨hgr.os.trans hg.os, hgr.tape.trans hg.tape, hgr.output.trans hg.output, Nat.le_trans hg.size hgr.size, fun i hi hne =>
    (hgr.block i (Nat.lt_of_lt_of_le hi hg.size) (fun e => by have := (World.ownsRow.lt hr i e.symm).1; omega)).trans (hg.block i hi hne)⟩
theorem RowI.cur {b cb : Nat} {v : Value} {xs : List Int} {w w' : World} (h : RowI b v xs w) (hg : w.grownBy w' (some cb)) (hcb : cb < b) : RowI b v xs w' := h.kept hg (by
  cases h0 : v.ownBlock with
  | none => exact Or.inl rfl
  | some g =>
    refine Or.inr fun e => ?_
    have := (World.ownsRow.lt h g h0).1
    simp at e; omega)
end Go.Proofs.Ytcnmchcleghcgaa

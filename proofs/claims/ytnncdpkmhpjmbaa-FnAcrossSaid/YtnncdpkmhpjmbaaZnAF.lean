import Derived.Test.YtnncdpkmhpjmbaaZnAB
import Derived.Test.YtnncdpkmhpjmbaaZnAE
section
namespace Go.Proofs.Ytnncdpkmhpjmbaa
open Go.ChangeShapes Go.WideShapes Go.ChangeAt Go.RowKit

theorem code_lt {w : World} {a : Option Addr} {len : Nat} (h : Code w a len) (h0 : 0 < len) : ∀ b off, a = some ⟨b, off, none⟩ → b < w.heap.size := by
  intro b off ha
  rcases h with h | ⟨b', off', ha', hb, _⟩
  · omega
  · rw [ha] at ha'; simp at ha'; rw [ha'.1]; exact hb

/-- The new cursor, as every draw wants it. -/
theorem new_cur (a : Option Addr) (len cap : Nat) (w : World) (hl : len ≤ 1048576) (hc : Code w a len) :
    Calls Try.prog 56 #[.slice a len cap] w fun e w' => e = .returned (.pointer (some ⟨w.heap.size, 0, none⟩)) ∧ Cur w.heap.size a len cap w' ∧ Below w.heap.size w w' ∧ w.heap.size < w'.heap.size := by
  have hap := fun h0 => code_lt hc h0
  refine (new_any a len cap w hl hc).mono ?_
  rintro e w1 ⟨h, rfl, hcur, hb, hsz⟩
  exact ⟨rfl, ⟨⟨0, h, Nat.zero_le _, hcur⟩, hc.below hb, hl, fun h0 b off e => by have := hap h0 b off e; omega⟩, hb, by omega⟩
end Go.Proofs.Ytnncdpkmhpjmbaa
end
section
namespace Go.Proofs.Ytnncdpkmhpjmbaa
open Go.ChangeShapes Go.WideShapes Go.ChangeAt Go.RowKit
set_option maxRecDepth 20000

theorem AllI.snoc {xs : List Int} {x : Int} (h : AllI xs) (h0 : -9223372036854775808 ≤ x) (h1 : x ≤ 9223372036854775807) : AllI (xs ++ [x]) := by
  intro y hy
  rcases List.mem_append.1 hy with hy | hy
  · exact h y hy
  · simp at hy; omega
/-- The cursor and its code, apart from a row that was made later. -/
theorem Cur.row {cb : Nat} {a : Option Addr} {len cap : Nat} {w wr w' : World} {v : Value} {xs : List Int} (hcb : cb < w.heap.size) (hc : Cur cb a len cap wr) (hg : w.grownBy wr (some cb)) (hr : RowI w.heap.size v xs wr) (hgr : wr.grownBy w' v.ownBlock) (hap : 0 < len → ∀ b off, a = some ⟨b, off, none⟩ → b < w.heap.size) : Cur cb a len cap w' :=
  hc.kept (Nat.lt_of_lt_of_le hcb hg.size) hgr (fun g hg' => by
    have h1 := (World.ownsRow.lt hr g hg').1
    exact ⟨by omega, fun h0 b off e => by have := hap h0 b off e; omega⟩)
theorem gr_row {cb : Nat} {w wr w' : World} {v : Value} {xs : List Int} (hg : w.grownBy wr (some cb)) (hr : RowI w.heap.size v xs wr) (hgr : wr.grownBy w' v.ownBlock) : w.grownBy w' (some cb) :=
  ⟨hgr.os.trans hg.os, hgr.tape.trans hg.tape, hgr.output.trans hg.output, Nat.le_trans hg.size hgr.size, fun i hi hne =>
    (hgr.block i (Nat.lt_of_lt_of_le hi hg.size) (fun e => by have := (World.ownsRow.lt hr i e.symm).1; omega)).trans (hg.block i hi hne)⟩
theorem RowI.cur {b cb : Nat} {v : Value} {xs : List Int} {w w' : World} (h : RowI b v xs w) (hg : w.grownBy w' (some cb)) (hcb : cb < b) : RowI b v xs w' := h.kept hg (by
  cases h0 : v.ownBlock with
  | none => exact Or.inl rfl
  | some g =>
    refine Or.inr fun e => ?_
    have := (World.ownsRow.lt h g h0).1
    simp at e; omega)
end Go.Proofs.Ytnncdpkmhpjmbaa
end

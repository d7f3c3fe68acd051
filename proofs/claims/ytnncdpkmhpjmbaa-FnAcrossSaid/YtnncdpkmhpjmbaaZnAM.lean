import Derived.Test.YtnncdpkmhpjmbaaZnAB
import Derived.Test.YtnncdpkmhpjmbaaZnAD
section
namespace Go.Proofs.Ytnncdpkmhpjmbaa
open Go.ChangeShapes Go.WideShapes Go.ChangeAt Go.RowKit

/-- What a draw of a number leaves that may have made memory of its own. -/
def DrewPost (lo hi : Int) (cb : Nat) (a : Option Addr) (len cap : Nat) (w : World) (e : Ending) (w' : World) : Prop :=
  ∃ x : Int, e = .returned (.int .i64 x) ∧ lo ≤ x ∧ x ≤ hi ∧ Cur cb a len cap w' ∧ w.grownBy w' (some cb)

theorem gr_none {w w' : World} (h : w.grownBy w' none) (row : Option Nat) : w.grownBy w' row := ⟨h.os, h.tape, h.output, h.size, fun i hi _ => h.block i hi (by simp)⟩
theorem Ints.grown {w w' : World} {b off len : Nat} {zs : List Int} {cb : Nat} (h : Ints w (some ⟨b, off, none⟩) len zs) (hg : w.grownBy w' (some cb)) (hne : b ≠ cb) : Ints w' (some ⟨b, off, none⟩) len zs := by
  refine ⟨h.1, h.2.1, ?_⟩
  rcases h.2.2 with h0 | ⟨b', off', ha, hlt, hc⟩
  · exact Or.inl h0
  · simp at ha
    obtain ⟨rfl, rfl⟩ := ha
    exact Or.inr ⟨b, off, rfl, Nat.lt_of_lt_of_le hlt hg.size, fun i hi => hg.cell (hc i hi) (by simpa using hne)⟩
/-- A list that was just written down. -/
theorem lit_ints (w : World) (zs : List Int) (hr : ∀ z ∈ zs, -9223372036854775808 ≤ z ∧ z ≤ 9223372036854775807) :
    Ints (w.alloc (.cells (zs.map (Value.int .i64)).toArray 3)) (some ⟨w.heap.size, 0, none⟩) zs.length zs := by
  refine ⟨rfl, hr, Or.inr ⟨w.heap.size, 0, rfl, by simp, fun j hj => ?_⟩⟩
  have h := (MapKept.heap_alloc w (.cells (zs.map (Value.int .i64)).toArray 3)).1
  simp only [World.cell?, h]
  simp [hj]

end Go.Proofs.Ytnncdpkmhpjmbaa
end

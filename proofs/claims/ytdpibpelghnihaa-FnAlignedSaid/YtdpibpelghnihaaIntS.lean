/-
  The laws' helpers toIntS (a copy of a slice of ints) and eqIntS (two slices of the same ints). Conditions: at most 1048576 ints for the copy.
-/
import Derived.Test.YtdpibpelghnihaaIntsIn
import Derived.OwnWalk
import Derived.Deep.QuietTactic
import Derived.BigQuiet
namespace Go.Proofs.Ytdpibpelghnihaa
open Go.ChangeShapes Go.WideShapes Go.ChangeAt Go.RowKit

theorem Ints.below {w w' : World} {a : Option Addr} {len : Nat} {zs : List Int} (h : Ints w a len zs) (hb : Below w.heap.size w w') : Ints w' a len zs := by
  refine ⟨h.1, h.2.1, ?_⟩
  rcases h.2.2 with h0 | ⟨b, off, ha, hlt, hc⟩
  · exact Or.inl h0
  · exact Or.inr ⟨b, off, ha, Nat.lt_of_lt_of_le hlt hb.size, fun i hi => (hb.cell (p := ⟨b, off + i, none⟩) hlt).trans (hc i hi)⟩
theorem Ints.look {w : World} {a : Option Addr} {len : Nat} {zs : List Int} (h : Ints w a len zs) {k : Nat} (hk : k < len) : ∃ b off, a = some ⟨b, off, none⟩ ∧ b < w.heap.size ∧ w.cell? ⟨b, off + k, none⟩ = some (.int .i64 (zs.getD k 0)) := by
  rcases h.2.2 with h0 | ⟨b, off, ha, hb, hc⟩
  · omega
  · exact ⟨b, off, ha, hb, hc k hk⟩
/-- A row of ints of one's own. -/
def RowI (base : Nat) (v : Value) (xs : List Int) (w : World) : Prop := w.ownsRow base 3 1 v xs.length (xs.map (Value.int .i64))
theorem RowI.ints {base g n cap : Nat} {xs : List Int} {w : World} (h : RowI base (.slice (some ⟨g, 0, none⟩) n cap) xs w) (hn : xs.length = n) (hr : ∀ z ∈ xs, -9223372036854775808 ≤ z ∧ z ≤ 9223372036854775807) : Ints w (some ⟨g, 0, none⟩) n xs := by
  subst hn
  refine ⟨rfl, hr, Or.inr ⟨g, 0, rfl, (World.ownsRow.lt h g rfl).2, fun j hj => ?_⟩⟩
  rw [Nat.zero_add, World.ownsRow.cellAt h j (by omega)]
  simp [hj]
theorem take_set {zs l : List Int} {k : Nat} (h1 : k < zs.length) (h2 : k < l.length) : (zs.take k ++ l.drop k).set k (zs.getD k 0) = zs.take (k + 1) ++ l.drop (k + 1) := by
  rw [List.set_append_right _ _ (by simp; omega), List.drop_eq_getElem_cons h2, show k - (zs.take k).length = 0 by simp; omega, List.set_cons_zero]
  rw [List.take_succ_eq_append_getElem h1, List.append_assoc, List.singleton_append, show zs.getD k 0 = zs[k] by simp [List.getD, h1]]
theorem info_intS : (Try.prog.info? 3).map (fun i => (i.zero, i.size, i.bytes)) = some (some (.int .i64 0), 1, 8) := by kernel_rfl

def ToPost (len : Nat) (zs : List Int) (w : World) (e : Ending) (w' : World) : Prop :=
  e = .returned (.slice (some ⟨w.heap.size, 0, none⟩) len len) ∧ RowI w.heap.size (.slice (some ⟨w.heap.size, 0, none⟩) len len) zs w' ∧ Below w.heap.size w w'


end Go.Proofs.Ytdpibpelghnihaa

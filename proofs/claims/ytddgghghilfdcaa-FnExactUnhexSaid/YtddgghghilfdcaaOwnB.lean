/-
  A slice of bytes of the call's own, turned into a string: the string of its bytes. Conditions: the slice owns its cells.
-/
import Derived.Test.YtddgghghilfdcaaKit
import Derived.Lib.UnsafeStr
namespace Go.Proofs.Ytddgghghilfdcaa
open Go.RowKit

theorem push_all (l : List UInt8) : ∀ r : ByteArray, (l.map fun b => ((b.toNat : Nat) : Int)).foldl (fun r n => r.push (UInt8.ofNat n.toNat)) r = ⟨(r.data.toList ++ l).toArray⟩ := by
  induction l with
  | nil => intro r; simp
  | cons b l ih =>
    intro r
    rw [List.map_cons, List.foldl_cons, ih]
    simp [ByteArray.push]

theorem own_string (wr : World) (base : Nat) (v : Value) (l : List UInt8) (h : wr.ownsRow base 5 1 v l.length (Lib.byteCells l)) :
    (convert 34 9 v).run Try.prog wr = .ok (.string ⟨l.toArray⟩) wr := by
  have hc := h
  obtain ⟨hlen, hv | ⟨g, cap, cur, rfl, hg, hb, h1, h2, h3, h4⟩⟩ := h
  · obtain ⟨rfl, h0⟩ := hv
    obtain rfl : l = [] := List.length_eq_zero_iff.1 h0
    rw [run_convert_bytes_string _ _ _ 5 _ _ _ Try.underlying34 Try.underlying5 Try.underlying9]
    simp [Conv.bytesToString]; rfl
  · rw [run_convert_bytes_string _ _ _ 5 _ _ _ Try.underlying34 Try.underlying5 Try.underlying9]
    have hld : (loadCells ⟨g, 0, none⟩ l.length).run Try.prog wr = .ok ((l.map fun b => ((b.toNat : Nat) : Int)).map (Value.int .u8)).toArray wr := by
      have := run_loadCells_list (P := Try.prog) wr ⟨g, 0, none⟩ (Lib.byteCells l) (fun j u hj => hc.cells (g := g) rfl j u hj)
      rw [Lib.byteCells_length] at this
      rw [this]; congr 1
      simp [Lib.byteCells]
    rw [run_bytesToString _ _ _ _ _ hld, push_all]
    congr 2
end Go.Proofs.Ytddgghghilfdcaa

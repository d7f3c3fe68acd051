/-
  The result of Unhex as one value: the decoded text and true, or the empty text and false. Conditions: none.
-/
import Derived.Test.YtddgghghilfdcaaKit
import Derived.Test.YtddgghghilfdcaaUnhM
namespace Go.Proofs.Ytddgghghilfdcaa
open Go.ChangeShapes Go.WideShapes Go.ChangeAt Go.RowKit

def unR (s : ByteArray) : Value := .tuple #[.string ⟨(if Nums.unB s then Nums.unL s.data.toList else []).toArray⟩, .bool (Nums.unB s)]
theorem unR_false {s : ByteArray} (h : Nums.unB s = false) : Ending.returned (.tuple #[.string ⟨#[]⟩, .bool false]) = .returned (unR s) := by unfold unR; rw [h]; rfl
theorem unR_true {s : ByteArray} (h : Nums.unB s = true) {l : List UInt8} (hl : l = Nums.unL s.data.toList) : Ending.returned (.tuple #[.string ⟨l.toArray⟩, .bool true]) = .returned (unR s) := by unfold unR; rw [h, hl]; rfl
end Go.Proofs.Ytddgghghilfdcaa

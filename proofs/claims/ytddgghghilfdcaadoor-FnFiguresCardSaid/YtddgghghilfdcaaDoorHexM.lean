/-
  Plain mathematics of hexadecimal texts (no program): the encoding, and the text that a text of lowercase hexadecimal digits encodes. Conditions: those of each lemma.
-/
import Derived.Test.YtddgghghilfdcaaDoorNums
namespace Go.Proofs.YtddgghghilfdcaaDoor.Nums

def hx (n : Nat) : UInt8 := UInt8.ofNat (if n < 10 then 48 + n else 87 + n)
theorem hx_toNat {n : Nat} (h : n < 16) : (hx n).toNat = if n < 10 then 48 + n else 87 + n := by
  unfold hx; rw [UInt8.toNat_ofNat']; split <;> omega
theorem tab_at : ∀ n : Fin 16, ((⟨#[48, 49, 50, 51, 52, 53, 54, 55, 56, 57, 97, 98, 99, 100, 101, 102]⟩ : ByteArray)[n.val]'(by have := n.isLt; show n.val < 16; omega)).toNat = (hx n.val).toNat := by decide
theorem tab_hx (n : Nat) (h : n < (⟨#[48, 49, 50, 51, 52, 53, 54, 55, 56, 57, 97, 98, 99, 100, 101, 102]⟩ : ByteArray).size) : ((⟨#[48, 49, 50, 51, 52, 53, 54, 55, 56, 57, 97, 98, 99, 100, 101, 102]⟩ : ByteArray)[n].toNat : Int) = ((hx n).toNat : Int) := by
  rw [← tab_at ⟨n, h⟩]
def hexL (l : List UInt8) : List UInt8 := l.flatMap fun b => [hx (b.toNat / 16), hx (b.toNat % 16)]
theorem hexL_snoc (l : List UInt8) (b : UInt8) : hexL (l ++ [b]) = hexL l ++ [hx (b.toNat / 16)] ++ [hx (b.toNat % 16)] := by simp [hexL]
theorem hexL_len (l : List UInt8) : (hexL l).length = 2 * l.length := by
  induction l with
  | nil => rfl
  | cons a l ih => unfold hexL at ih ⊢; simp only [List.flatMap_cons, List.length_append, List.length_cons, List.length_nil, ih]; omega
end Go.Proofs.YtddgghghilfdcaaDoor.Nums

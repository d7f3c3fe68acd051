/-
  Plain mathematics (no program): decoding undoes encoding; a numeral is read back. Conditions: those of each lemma.
-/
import Derived.Test.YtddgghghilfdcaaDoorUnhM
namespace Go.Proofs.YtddgghghilfdcaaDoor.Nums
open Go

theorem hv_hx {n : Nat} (h : n < 16) : hxB (hx n) = true ∧ hv (hx n) = n := by
  have h1 := hx_toNat h
  refine ⟨(hxB_iff _).2 ?_, ?_⟩
  · rw [h1]; split <;> omega
  · unfold hv; rw [h1]; split <;> split <;> omega
theorem un_hex (l : List UInt8) : unL (hexL l) = l ∧ (hexL l).all hxB = true := by
  induction l with
  | nil => exact ⟨rfl, rfl⟩
  | cons b l ih =>
    have hb := b.toNat_lt
    have e : hexL (b :: l) = hx (b.toNat / 16) :: hx (b.toNat % 16) :: hexL l := rfl
    have h1 := hv_hx (n := b.toNat / 16) (by omega)
    have h2 := hv_hx (n := b.toNat % 16) (by omega)
    rw [e]
    refine ⟨?_, ?_⟩
    · rw [unL, ih.1]
      congr 1
      unfold byteOf
      rw [h1.2, h2.2, show 16 * (b.toNat / 16) + b.toNat % 16 = b.toNat by omega]
      simp
    · simp [h1.1, h2.1, ih.2]
theorem unB_hex (l : List UInt8) (h : l.length ≤ 20000) : unB ⟨(hexL l).toArray⟩ = true := by
  have h1 := hexL_len l
  have hs : (⟨(hexL l).toArray⟩ : ByteArray).size = 2 * l.length := by rw [← len_eq]; simpa using h1
  refine unB_true (by rw [hs]; omega) (by rw [hs]; omega) ?_
  simpa using (un_hex l).2

theorem dec_dg (u : Nat) : (Lib.decDigits u).all dgB = true := by
  induction u using Nat.strongRecOn with
  | _ u ih =>
    rw [Lib.decDigits]
    have key : ∀ k : Nat, k < 10 → dgB (UInt8.ofNat (48 + k)) = true := fun k hk => (dgB_iff _).2 (by rw [UInt8.toNat_ofNat']; omega)
    by_cases h : u < 10
    · rw [dif_pos h, List.all_cons, key u h]; rfl
    · rw [dif_neg h, List.all_append, ih (u / 10) (by omega), List.all_cons, key (u % 10) (by omega)]; rfl
theorem val_dec (u : Nat) : val (Lib.decDigits u) = u := by
  induction u using Nat.strongRecOn with
  | _ u ih =>
    rw [Lib.decDigits]
    have key : ∀ k : Nat, k < 10 → (UInt8.ofNat (48 + k)).toNat - 48 = k := fun k hk => by rw [UInt8.toNat_ofNat']; omega
    by_cases h : u < 10
    · rw [dif_pos h, show [UInt8.ofNat (48 + u)] = [] ++ [UInt8.ofNat (48 + u)] from rfl, val_snoc, key u h, val_nil]; omega
    · rw [dif_neg h, val_snoc, ih (u / 10) (by omega), key (u % 10) (by omega)]; omega
theorem rd_itoa (u : Nat) (h : u ≤ 1000000000) : rdB (Lib.itoa u) = true ∧ rdN (Lib.itoa u) = (u : Int) := by
  have e : Lib.itoa (u : Int) = Lib.decDigits u := by unfold Lib.itoa; rw [if_neg (by omega)]; simp
  rw [e]
  have h1 : rdB (Lib.decDigits u) = true := rd_true (dec_dg u) (by rw [val_dec]; exact h) (by rw [val_dec])
  exact ⟨h1, by rw [rdN_true h1, val_dec]⟩
end Go.Proofs.YtddgghghilfdcaaDoor.Nums

/-
  The laws' own helpers on marks: laws.markText gives, for every k up to 10^12, the text m and k's numeral; it makes memory at most. Conditions: the bound on k.
-/
import Derived.Test.YtddgghghilfdcaaDec
namespace Go.Proofs.Ytddgghghilfdcaa
open Go.ChangeShapes Go.WideShapes Go.ChangeAt Go.RowKit

/-- The text of mark k (k at least 1). -/
def mtxt (k : Nat) : ByteArray := ⟨(109 :: Lib.decDigits k).toArray⟩
theorem cat_cons (c : UInt8) (l : List UInt8) : (⟨#[c]⟩ : ByteArray) ++ ⟨l.toArray⟩ = ⟨(c :: l).toArray⟩ := by
  rw [show (⟨#[c]⟩ : ByteArray) = ⟨[c].toArray⟩ from rfl, ByteArray.mk_append_mk]; simp

def MtRel (n : Nat) (w : World) (m s : Value) (wr : World) : Prop :=
  ∃ (k : Nat) (l : List UInt8), k ≤ n ∧ Nums.decOr k ++ l = Lib.decDigits n ∧ m = .int .i64 k ∧ s = .string ⟨l.toArray⟩ ∧ Below w.heap.size w wr

set_option maxHeartbeats 400000 in
theorem mt_any (n : Nat) (w : World) (h0 : 1 ≤ n) (h1 : n ≤ 1000000000000) :
    Calls Try.prog 29 #[.int .i64 n] w fun e w' => e = .returned (.string (mtxt n)) ∧ Below w.heap.size w w' := by
  have hz : ¬ (n : Int) ≤ 0 := by omega
  go_enter Try.func29, Try.ntmps29
  go_wp2
  go_loopw [0, 3] (MtRel n w) (fun m _ _ => (intOf m).toNat)
  case atStart => exact ⟨n, [], Nat.le_refl _, by rw [Nums.decOr_pos h0]; simp, rfl, rfl, Below.refl _ _⟩
  case round =>
    obtain ⟨k, l, hk, hl, rfl, rfl, hb⟩ := hrel
    have HL := Lib.hid hl
    clear hl
    have hl100 : l.length ≤ 100 := by
      have h2 := congrArg List.length HL.out
      have h3 := Nums.decDigits_len (n := n) (by omega)
      simp at h2; omega
    by_cases hk0 : k = 0
    · subst hk0
      go_wp2
      go_ret
      exact ⟨ret_str (by have := HL.out; rw [Nums.decOr_zero] at this; simp at this; unfold mtxt; rw [← this]; exact cat_cons 109 l), hb⟩
    · have hk1 : (0 : Int) < (k : Int) := by omega
      have hc := one_byte wr
      go_wp2
      go_roundw
      case rel =>
        refine ⟨k / 10, (48 + UInt8.ofNat (k % 10)) :: l, by omega, ?_, by go_num, by rw [cat_cons], hb.alloc hb.size _⟩
        have h2 := HL.out
        rw [Nums.decOr_step (by omega), UInt8.ofNat_add] at h2
        simpa using h2
      case measure => simp [intOf]; omega
theorem mt_int (x : Int) (n : Nat) (hx : x = (n : Int)) (w : World) (h0 : 1 ≤ n) (h1 : n ≤ 1000000000000) :
    Calls Try.prog 29 #[.int .i64 x] w fun e w' => e = .returned (.string (mtxt n)) ∧ Below w.heap.size w w' := hx ▸ mt_any n w h0 h1
end Go.Proofs.Ytddgghghilfdcaa

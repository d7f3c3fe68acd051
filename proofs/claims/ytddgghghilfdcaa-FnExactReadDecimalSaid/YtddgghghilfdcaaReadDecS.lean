/-
  The contract of spec.ReadDecimal: Nums.rdN and Nums.rdB of the text. Conditions: none beyond a string's own length bound.
-/
import Derived.Test.YtddgghghilfdcaaDec
import Derived.Test.YtddgghghilfdcaaRdR
namespace Go.Proofs.Ytddgghghilfdcaa
open Go.ChangeShapes Go.WideShapes Go.ChangeAt Go.RowKit

set_option maxHeartbeats 400000 in
theorem srd_any (s : ByteArray) (w : World) (hs : s.size ≤ maxLen) :
    Calls Try.prog 12 #[.string s] w fun e w' => e = .returned (.tuple #[.int .i64 (Nums.rdN s.data.toList), .bool (Nums.rdB s.data.toList)]) ∧ Below w.heap.size w w' := by
  unfold maxLen at hs
  by_cases h10 : 10 < s.size
  · go_enter Try.func12, Try.ntmps12
    go_wp2
    go_ret2
    exact ⟨tup_false (Nums.rd_long h10), Below.refl _ _⟩
  · go_enter Try.func12, Try.ntmps12
    go_wp2
    go_loop [4, 5] (RdRel s) (fun _ i => s.size - (intOf i).toNat)
    case atStart => exact ⟨0, Nat.zero_le _, by simp, by simp [Nums.val_nil], rfl⟩
    case round =>
      obtain ⟨k, hk, ha, rfl, rfl⟩ := hrel
      have HA := Lib.hid ha
      clear ha
      have hv := Nums.val_take_lt HA.out (by omega)
      by_cases hlt : k < s.size
      · by_cases h48 : (s[k].toNat : Int) < 48
        · go_wp2
          go_ret2
          exact ⟨tup_false (Nums.rd_odd hlt (Or.inl h48)), Below.refl _ _⟩
        · by_cases h57 : 57 < (s[k].toNat : Int)
          · go_wp2
            go_ret2
            exact ⟨tup_false (Nums.rd_odd hlt (Or.inr h57)), Below.refl _ _⟩
          · go_wp2
            go_round
            case rel => exact rd_next hlt HA.out h48 h57 (by omega)
            case measure => simp [intOf]; omega
      · have HT := Lib.hid (Nums.take_all s (k := k) (by omega))
        by_cases hbig : 1000000000 < (Nums.val (s.data.toList.take k) : Int)
        · go_wp2
          go_ret2
          exact ⟨tup_false (Nums.rd_big (k := k) (by omega)), Below.refl _ _⟩
        · have he := Nums.rd_end (s := s) (by rw [← HT.out]; exact HA.out) (by rw [← HT.out]; omega)
          have hi : Lib.itoa (Nums.val (s.data.toList.take k) : Int) = Lib.decDigits (Nums.val s.data.toList) := by
            rw [HT.out]; unfold Lib.itoa; rw [if_neg (by omega)]; simp
          have HI := Lib.hid hi
          have HE := Lib.hid he
          clear hi he
          go_wp2_with (go_at_call 27; refine (dec_any _ _ (by omega) (by omega)).mono ?_; rintro e w' ⟨rfl, hb⟩)
          · have hq : (!Lib.itoa (Nums.val (s.data.toList.take k) : Int) == s.toList) = true := by assumption
            go_ret2
            refine ⟨tup_false ?_, hb⟩
            rw [HI.out, ByteArray.toList_eq] at hq
            rw [HE.out]; simpa using hq
          · have hq : (!Lib.itoa (Nums.val (s.data.toList.take k) : Int) == s.toList) = false := by assumption
            go_ret2
            refine ⟨tup_true ?_ (by rw [HT.out]), hb⟩
            rw [HI.out, ByteArray.toList_eq] at hq
            rw [HE.out]; simpa using hq
end Go.Proofs.Ytddgghghilfdcaa

/-
  Contracts of spec.ReadDecimal and impl.ReadDecimal: both answer Nums.rdN and Nums.rdB of the text, for every text. Conditions: none beyond a string's own length bound.
-/
import Derived.Test.YtddgghghilfdcaaDec
namespace Go.Proofs.Ytddgghghilfdcaa
open Go.ChangeShapes Go.WideShapes Go.ChangeAt Go.RowKit

def RdRel (s : ByteArray) (n i : Value) : Prop :=
  ∃ k : Nat, k ≤ s.size ∧ (s.data.toList.take k).all Nums.dgB = true ∧ n = .int .i64 (Nums.val (s.data.toList.take k) : Int) ∧ i = .int .i64 k

theorem rd_next {s : ByteArray} {k : Nat} (h : k < s.size) (ha : (s.data.toList.take k).all Nums.dgB = true) (h1 : ¬ (s[k].toNat : Int) < 48) (h2 : ¬ 57 < (s[k].toNat : Int)) {m : Int} (hm : m = (Nums.val (s.data.toList.take k) : Int) * 10 + ((s[k].toNat : Int) - 48)) :
    RdRel s (.int .i64 m) (.int .i64 ((k : Int) + 1)) := by
  obtain ⟨h3, h4⟩ := Nums.dg_next h ha h1 h2
  exact ⟨k + 1, by omega, h3, by rw [h4, hm], by go_num⟩
theorem tup_false {s : ByteArray} (h : Nums.rdB s.data.toList = false) : Ending.returned (.tuple #[.int .i64 0, .bool false]) = .returned (.tuple #[.int .i64 (Nums.rdN s.data.toList), .bool (Nums.rdB s.data.toList)]) := by
  rw [Nums.rdN_false h, h]
theorem tup_true {s : ByteArray} {m : Int} (h : Nums.rdB s.data.toList = true) (hm : m = Nums.val s.data.toList) : Ending.returned (.tuple #[.int .i64 m, .bool true]) = .returned (.tuple #[.int .i64 (Nums.rdN s.data.toList), .bool (Nums.rdB s.data.toList)]) := by
  rw [Nums.rdN_true h, h, hm]

set_option maxHeartbeats 400000 in
theorem srd_any (s : ByteArray) (w : World) (hs : s.size ≤ maxLen) :
    Calls Try.prog 12 #[.string s] w fun e w' => e = .returned (.tuple #[.int .i64 (Nums.rdN s.data.toList), .bool (Nums.rdB s.data.toList)]) ∧ Below w.heap.size w w' := by
  unfold maxLen at hs
  by_cases h10 : 10 < s.size
  · go_enter Try.func12, Try.ntmps12
    go_wp2
    go_ret2
    exact ⟨tup_false (Nums.rd_long h10), Below.refl _ _⟩
  · go_enter Try.func12, Try.ntmps12
    go_wp2
    go_loop [4, 5] (RdRel s) (fun _ i => s.size - (intOf i).toNat)
    case atStart => exact ⟨0, Nat.zero_le _, by simp, by simp [Nums.val_nil], rfl⟩
    case round =>
      obtain ⟨k, hk, ha, rfl, rfl⟩ := hrel
      have HA := Lib.hid ha
      clear ha
      have hv := Nums.val_take_lt HA.out (by omega)
      by_cases hlt : k < s.size
      · by_cases h48 : (s[k].toNat : Int) < 48
        · go_wp2
          go_ret2
          exact ⟨tup_false (Nums.rd_odd hlt (Or.inl h48)), Below.refl _ _⟩
        · by_cases h57 : 57 < (s[k].toNat : Int)
          · go_wp2
            go_ret2
            exact ⟨tup_false (Nums.rd_odd hlt (Or.inr h57)), Below.refl _ _⟩
          · go_wp2
            go_round
            case rel => exact rd_next hlt HA.out h48 h57 (by omega)
            case measure => simp [intOf]; omega
      · have HT := Lib.hid (Nums.take_all s (k := k) (by omega))
        by_cases hbig : 1000000000 < (Nums.val (s.data.toList.take k) : Int)
        · go_wp2
          go_ret2
          exact ⟨tup_false (Nums.rd_big (k := k) (by omega)), Below.refl _ _⟩
        · have he := Nums.rd_end (s := s) (by rw [← HT.out]; exact HA.out) (by rw [← HT.out]; omega)
          have hi : Lib.itoa (Nums.val (s.data.toList.take k) : Int) = Lib.decDigits (Nums.val s.data.toList) := by
            rw [HT.out]; unfold Lib.itoa; rw [if_neg (by omega)]; simp
          have HI := Lib.hid hi
          have HE := Lib.hid he
          clear hi he
          go_wp2_with (go_at_call 27; refine (dec_any _ _ (by omega) (by omega)).mono ?_; rintro e w' ⟨rfl, hb⟩)
          · have hq : (!Lib.itoa (Nums.val (s.data.toList.take k) : Int) == s.toList) = true := by assumption
            go_ret2
            refine ⟨tup_false ?_, hb⟩
            rw [HI.out, ByteArray.toList_eq] at hq
            rw [HE.out]; simpa using hq
          · have hq : (!Lib.itoa (Nums.val (s.data.toList.take k) : Int) == s.toList) = false := by assumption
            go_ret2
            refine ⟨tup_true ?_ (by rw [HT.out]), hb⟩
            rw [HI.out, ByteArray.toList_eq] at hq
            rw [HE.out]; simpa using hq

set_option maxHeartbeats 400000 in
theorem ird_any (s : ByteArray) (w : World) (hs : s.size ≤ maxLen) :
    Calls Try.prog 13 #[.string s] w fun e w' => e = .returned (.tuple #[.int .i64 (Nums.rdN s.data.toList), .bool (Nums.rdB s.data.toList)]) ∧ w = w' := by
  unfold maxLen at hs
  by_cases h0 : s.size = 0
  · have g1 : s.toList = [] := by rw [ByteArray.toList_eq]; exact List.length_eq_zero_iff.1 (by rw [Nums.len_eq]; exact h0)
    have HB := Lib.hid (Nums.rd_empty h0)
    go_enter Try.func13, Try.ntmps13
    go_wp2
    go_ret2
    exact ⟨tup_false HB.out, rfl⟩
  · have g1 : s.toList.isEmpty = false := by
      rw [ByteArray.toList_eq, List.isEmpty_eq_false_iff]; intro h; apply h0; rw [← Nums.len_eq, h]; rfl
    by_cases hz : 1 < s.size ∧ ∃ h : 0 < s.size, s[0].toNat = 48
    · obtain ⟨hz1, hz2, hz3⟩ := hz
      have HB := Lib.hid (Nums.rd_lead hz1 hz3)
      go_enter Try.func13, Try.ntmps13
      go_wp2
      go_ret2
      exact ⟨tup_false HB.out, rfl⟩
    · have HF : ∀ (_ : s.data.toList.all Nums.dgB = true) (_ : Nums.val s.data.toList ≤ 1000000000), Nums.rdB s.data.toList = true := by
        intro ha hv
        refine Nums.rd_fine ha hv (by omega) ?_
        by_cases h1 : s.size ≤ 1
        · exact Or.inl h1
        · exact Or.inr fun h h48 => hz ⟨by omega, h, h48⟩
      have HH := Lib.hid HF
      clear HF
      have hcase : (s.size ≤ 1) ∨ (1 < s.size ∧ ∃ h : 0 < s.size, ((s[0].toNat : Int) == 48) = false) := by
        by_cases h1 : s.size ≤ 1
        · exact Or.inl h1
        · refine Or.inr ⟨by omega, by omega, ?_⟩
          have : s[0].toNat ≠ 48 := fun h => hz ⟨by omega, by omega, h⟩
          simp; omega
      clear hz
      rcases hcase with hz1 | ⟨hz1, hz2, hz3⟩
      all_goals
        go_enter Try.func13, Try.ntmps13
        go_wp2
        go_loop [4, 5] (fun n i => RdRel s n i ∧ intOf n ≤ 1000000000) (fun _ i => s.size - (intOf i).toNat)
        case atStart => exact ⟨⟨0, Nat.zero_le _, by simp, by simp [Nums.val_nil], rfl⟩, by simp [intOf]⟩
        case round =>
          obtain ⟨⟨k, hk, ha, rfl, rfl⟩, hle⟩ := hrel
          have HA := Lib.hid ha
          clear ha
          simp only [intOf] at hle
          by_cases hlt : k < s.size
          · have hc := s[k].toNat_lt
            by_cases h48 : (s[k].toNat : Int) < 48
            · go_wp2
              go_ret2
              exact ⟨tup_false (Nums.rd_odd hlt (Or.inl h48)), rfl⟩
            · by_cases h57 : 57 < (s[k].toNat : Int)
              · go_wp2
                go_ret2
                exact ⟨tup_false (Nums.rd_odd hlt (Or.inr h57)), rfl⟩
              · by_cases hbig : 1000000000 < (Nums.val (s.data.toList.take k) : Int) * 10 + ((s[k].toNat : Int) - 48)
                · have hn := Nums.dg_next hlt HA.out h48 h57
                  have HB := Lib.hid (Nums.rd_big (s := s) (k := k + 1) (by omega))
                  clear hn
                  go_wp2
                  go_ret2
                  exact ⟨tup_false HB.out, rfl⟩
                · go_wp2
                  go_round
                  case rel => exact ⟨rd_next hlt HA.out h48 h57 rfl, by simp only [intOf]; omega⟩
                  case measure => simp [intOf]; omega
          · go_wp2
            go_ret2
            have HT := Nums.take_all s (k := k) (by omega)
            exact ⟨tup_true (HH.out (by rw [← HT]; exact HA.out) (by rw [← HT]; omega)) (by rw [HT]), rfl⟩
end Go.Proofs.Ytddgghghilfdcaa

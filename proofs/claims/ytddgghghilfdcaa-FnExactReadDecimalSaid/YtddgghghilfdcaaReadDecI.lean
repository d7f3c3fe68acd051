/-
  The contract of impl.ReadDecimal: Nums.rdN and Nums.rdB of the text. Conditions: none beyond a string's own length bound.
-/
import Derived.Test.YtddgghghilfdcaaRdR
namespace Go.Proofs.Ytddgghghilfdcaa
open Go.ChangeShapes Go.WideShapes Go.ChangeAt Go.RowKit

set_option maxHeartbeats 400000 in
theorem ird_any (s : ByteArray) (w : World) (hs : s.size ≤ maxLen) :
    Calls Try.prog 13 #[.string s] w fun e w' => e = .returned (.tuple #[.int .i64 (Nums.rdN s.data.toList), .bool (Nums.rdB s.data.toList)]) ∧ w = w' := by
  unfold maxLen at hs
  by_cases h0 : s.size = 0
  · have g1 : s.toList = [] := by rw [ByteArray.toList_eq]; exact List.length_eq_zero_iff.1 (by rw [Nums.len_eq]; exact h0)
    have HB := Lib.hid (Nums.rd_empty h0)
    go_enter Try.func13, Try.ntmps13
    go_wp2
    go_ret2
    exact ⟨tup_false HB.out, rfl⟩
  · have g1 : s.toList.isEmpty = false := by
      rw [ByteArray.toList_eq, List.isEmpty_eq_false_iff]; intro h; apply h0; rw [← Nums.len_eq, h]; rfl
    by_cases hz : 1 < s.size ∧ ∃ h : 0 < s.size, s[0].toNat = 48
    · obtain ⟨hz1, hz2, hz3⟩ := hz
      have HB := Lib.hid (Nums.rd_lead hz1 hz3)
      go_enter Try.func13, Try.ntmps13
      go_wp2
      go_ret2
      exact ⟨tup_false HB.out, rfl⟩
    · have HF : ∀ (_ : s.data.toList.all Nums.dgB = true) (_ : Nums.val s.data.toList ≤ 1000000000), Nums.rdB s.data.toList = true := by
        intro ha hv
        refine Nums.rd_fine ha hv (by omega) ?_
        by_cases h1 : s.size ≤ 1
        · exact Or.inl h1
        · exact Or.inr fun h h48 => hz ⟨by omega, h, h48⟩
      have HH := Lib.hid HF
      clear HF
      have hcase : (s.size ≤ 1) ∨ (1 < s.size ∧ ∃ h : 0 < s.size, ((s[0].toNat : Int) == 48) = false) := by
        by_cases h1 : s.size ≤ 1
        · exact Or.inl h1
        · refine Or.inr ⟨by omega, by omega, ?_⟩
          have : s[0].toNat ≠ 48 := fun h => hz ⟨by omega, by omega, h⟩
          simp; omega
      clear hz
      rcases hcase with hz1 | ⟨hz1, hz2, hz3⟩
      all_goals
        go_enter Try.func13, Try.ntmps13
        go_wp2
        go_loop [4, 5] (fun n i => RdRel s n i ∧ intOf n ≤ 1000000000) (fun _ i => s.size - (intOf i).toNat)
        case atStart => exact ⟨⟨0, Nat.zero_le _, by simp, by simp [Nums.val_nil], rfl⟩, by simp [intOf]⟩
        case round =>
          obtain ⟨⟨k, hk, ha, rfl, rfl⟩, hle⟩ := hrel
          have HA := Lib.hid ha
          clear ha
          simp only [intOf] at hle
          by_cases hlt : k < s.size
          · have hc := s[k].toNat_lt
            by_cases h48 : (s[k].toNat : Int) < 48
            · go_wp2
              go_ret2
              exact ⟨tup_false (Nums.rd_odd hlt (Or.inl h48)), rfl⟩
            · by_cases h57 : 57 < (s[k].toNat : Int)
              · go_wp2
                go_ret2
                exact ⟨tup_false (Nums.rd_odd hlt (Or.inr h57)), rfl⟩
              · by_cases hbig : 1000000000 < (Nums.val (s.data.toList.take k) : Int) * 10 + ((s[k].toNat : Int) - 48)
                · have hn := Nums.dg_next hlt HA.out h48 h57
                  have HB := Lib.hid (Nums.rd_big (s := s) (k := k + 1) (by omega))
                  clear hn
                  go_wp2
                  go_ret2
                  exact ⟨tup_false HB.out, rfl⟩
                · go_wp2
                  go_round
                  case rel => exact ⟨rd_next hlt HA.out h48 h57 rfl, by simp only [intOf]; omega⟩
                  case measure => simp [intOf]; omega
          · go_wp2
            go_ret2
            have HT := Nums.take_all s (k := k) (by omega)
            exact ⟨tup_true (HH.out (by rw [← HT]; exact HA.out) (by rw [← HT]; omega)) (by rw [HT]), rfl⟩
end Go.Proofs.Ytddgghghilfdcaa

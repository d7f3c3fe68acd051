import Derived.Test.YtnncdpkmhpjmbaaZnAD
import Derived.Test.YtnncdpkmhpjmbaaZnAP
section
namespace Go.Proofs.Ytnncdpkmhpjmbaa
open Go.ChangeShapes Go.WideShapes Go.ChangeAt Go.RowKit

def totK (zs : List Int) : Nat → Int
  | 0 => 0
  | k + 1 => totK zs k + lenI (zs.getD k 0)
theorem totK_in (zs : List Int) (k : Nat) : -(1048576 * (k : Int)) ≤ totK zs k ∧ totK zs k ≤ 1048576 * (k : Int) := by
  induction k with
  | zero => simp [totK]
  | succ k ih =>
    have := lenI_in (zs.getD k 0)
    simp only [totK, Int.natCast_add]
    omega

set_option maxHeartbeats 400000 in
theorem itot_any (a : Option Addr) (len cap : Nat) (zs : List Int) (w : World) (hz : Ints w a len zs) (hl : len ≤ 1048576) :
    Calls Try.prog 48 #[.slice a len cap] w fun e w' => e = .returned (.int .i64 (totK zs len)) ∧ w' = w := by
  go_enter Try.func48, Try.ntmps48
  go_wp2
  go_loop [3, 8] (fun t i => ∃ k : Nat, k ≤ len ∧ t = .int .i64 (totK zs k) ∧ i = .int .i64 k) (fun _ i => len - (intOf i).toNat)
  case atStart => exact ⟨0, Nat.zero_le _, rfl, rfl⟩
  case round =>
    obtain ⟨k, hk, rfl, rfl⟩ := hrel
    have ht := totK_in zs k
    by_cases hlt : k < len
    · obtain ⟨b, off, rfl, hb, hc⟩ := hz.look hlt
      have hlo : (0 : Int) ≤ (k : Int) := Int.natCast_nonneg _
      have hhi : (k : Int) < (len : Int) := by omega
      have hn := lenI_in (zs.getD k 0)
      have HZ := Lib.hid hz
      clear hz
      have hs : totK zs (k + 1) = totK zs k + lenI (zs.getD k 0) := rfl
      generalize zs.getD k 0 = z at *
      go_wp2_with (fail)
      refine (iclamp_off z w).mono ?_
      rintro e w1 ⟨rfl, rfl⟩
      go_wp2
      go_round
      case rel => exact ⟨k + 1, by omega, by rw [hs], by go_num⟩
      case measure => simp [intOf]; omega
    · obtain rfl : k = len := by omega
      clear hz
      go_wp2
      go_ret
      exact ⟨rfl, rfl⟩

set_option maxHeartbeats 400000 in
theorem stot_any (a : Option Addr) (len cap : Nat) (zs : List Int) (w : World) (hz : Ints w a len zs) (hl : len ≤ 1048576) :
    Calls Try.prog 49 #[.slice a len cap] w fun e w' => e = .returned (.int .i64 (totK zs len)) ∧ w' = w := by
  go_enter Try.func49, Try.ntmps49
  go_wp2
  go_loop [3, 4] (fun t i => ∃ k : Nat, k ≤ len ∧ t = .int .i64 (totK zs k) ∧ i = .int .i64 k) (fun _ i => len - (intOf i).toNat)
  case atStart => exact ⟨0, Nat.zero_le _, rfl, rfl⟩
  case round =>
    obtain ⟨k, hk, rfl, rfl⟩ := hrel
    have ht := totK_in zs k
    by_cases hlt : k < len
    · obtain ⟨b, off, rfl, hb, hc⟩ := hz.look hlt
      have hlo : (0 : Int) ≤ (k : Int) := Int.natCast_nonneg _
      have hhi : (k : Int) < (len : Int) := by omega
      have hn := lenI_in (zs.getD k 0)
      have HZ := Lib.hid hz
      clear hz
      have hs : totK zs (k + 1) = totK zs k + lenI (zs.getD k 0) := rfl
      generalize zs.getD k 0 = z at *
      go_wp2_with (fail)
      refine (slen z w).mono ?_
      rintro e w1 ⟨rfl, rfl⟩
      go_wp2
      go_round
      case rel => exact ⟨k + 1, by omega, by rw [hs], by go_num⟩
      case measure => simp [intOf]; omega
    · obtain rfl : k = len := by omega
      clear hz
      go_wp2
      go_ret
      exact ⟨rfl, rfl⟩
end Go.Proofs.Ytnncdpkmhpjmbaa
end

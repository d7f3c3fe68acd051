import Derived.Test.YtnncdpkmhpjmbaaZnAE
section
namespace Go.Proofs.Ytnncdpkmhpjmbaa
open Go.ChangeShapes Go.WideShapes Go.ChangeAt Go.RowKit

set_option maxHeartbeats 400000 in
theorem same_any (a a' : Option Addr) (len cap cap' : Nat) (zs : List Int) (w : World) (hz : Ints w a len zs) (hz' : Ints w a' len zs) (hl : len ≤ 4611686018427387904) :
    Calls Try.prog 16 #[.slice a len cap, .slice a' len cap'] w fun e w' => e = .returned (.bool true) ∧ Below w.heap.size w w' := by
  go_enter Try.func16, Try.ntmps16
  go_wp2
  go_loopw [5] (fun i wr => ∃ k m : Nat, k ≤ len ∧ i = .int .i64 k ∧ wr = w.drewN m) (fun i _ => len - (intOf i).toNat)
  case atStart => exact ⟨0, 0, Nat.zero_le _, rfl, rfl⟩
  case round =>
    obtain ⟨k, m, hk, rfl, rfl⟩ := hrel
    by_cases hlt : k < len
    · obtain ⟨b, off, rfl, hbl, c1⟩ := hz.look hlt
      obtain ⟨b', off', rfl, hbl', c2⟩ := hz'.look hlt
      have hlo : (0 : Int) ≤ (k : Int) := Int.natCast_nonneg _
      have hhi : (k : Int) < (len : Int) := by omega
      clear hz hz'
      generalize zs.getD k 0 = x at c1 c2
      go_wp2
      go_quiet (fail)
      go_wp2
      go_roundw
      case rel => exact ⟨k + 1, m + nq, by omega, by go_num, rfl⟩
      case measure => simp [intOf]; omega
    · clear hz hz'
      go_wp2
      go_ret
      exact ⟨rfl, below_drawn w m⟩
/-- On two rows. -/
theorem sameR_any (b b' : Nat) (v v' : Value) (xs : List Int) (w : World) (hr : AllI xs) (hn : xs.length ≤ 1048576) (h : RowI b v xs w) (h' : RowI b' v' xs w) :
    Calls Try.prog 16 #[v, v'] w fun e w' => e = .returned (.bool true) ∧ Below w.heap.size w w' := by
  obtain ⟨a, cap, rfl, hz⟩ := h.slice hr
  obtain ⟨a', cap', rfl, hz'⟩ := h'.slice hr
  exact same_any a a' xs.length cap cap' xs w hz hz' (by omega)
end Go.Proofs.Ytnncdpkmhpjmbaa
end

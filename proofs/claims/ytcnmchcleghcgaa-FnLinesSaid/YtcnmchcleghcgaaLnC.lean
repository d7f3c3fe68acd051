/-
  How many items a line takes (impl.countOnLine). Conditions: at most 1048576 items, one at least.
-/
import Derived.Test.YtcnmchcleghcgaaLnM
namespace Go.Proofs.Ytcnmchcleghcgaa
open Go.ChangeShapes Go.WideShapes Go.ChangeAt Go.RowKit
set_option linter.unusedVariables false
set_option linter.unusedSimpArgs false
set_option maxRecDepth 8000

theorem Its.take {w : World} {a : Option Addr} {xs : List It} (h : Its w a xs) (n : Nat) : Its w a (xs.take n) := by
  refine ⟨fun x hx => h.1 x (List.mem_of_mem_take hx), ?_⟩
  rcases h.2 with h0 | ⟨b, off, ha, hb, hc⟩
  · exact Or.inl (by rw [h0]; simp)
  · refine Or.inr ⟨b, off, ha, hb, fun k x hk => hc k x ?_⟩
    rw [List.getElem?_take] at hk
    split at hk
    · exact hk
    · cases hk
theorem Its.drop {w : World} {b off : Nat} {xs : List It} (h : Its w (some ⟨b, off, none⟩) xs) (s : Nat) : Its w (some ⟨b, off + s * 9, none⟩) (xs.drop s) := by
  refine ⟨fun x hx => h.1 x (List.mem_of_mem_drop hx), ?_⟩
  rcases h.2 with h0 | ⟨b', off', ha, hb, hc⟩
  · exact Or.inl (by rw [h0]; simp)
  · obtain ⟨rfl, rfl⟩ : b = b' ∧ off = off' := by simpa using ha
    refine Or.inr ⟨b, _, rfl, hb, fun k x hk => ?_⟩
    rw [List.getElem?_drop] at hk
    have := hc (s + k) x hk
    rw [show off + (s + k) * 9 = off + s * 9 + k * 9 by omega] at this
    exact this
/-- What the first items take up. -/
def tkO (xs : List It) (gap : Int) (u : Nat) : Int := ouV (xs.take u) (hypL (xs.take u)) gap
theorem tk_seg (xs : List It) (gap : Int) (s u : Nat) : tkO (xs.drop s) gap u = segO xs gap s (s + u) := by
  unfold tkO segO segT
  rw [show s + u - s = u by omega]
def CntPost (xs : List It) (gap room : Int) (w : World) (e : Ending) (w' : World) : Prop :=
  ∃ c : Nat, e = .returned (.int .i64 c) ∧ 1 ≤ c ∧ c ≤ xs.length ∧ (∀ u, 1 < u → u ≤ c → tkO xs gap u ≤ room) ∧ (c = xs.length ∨ ¬ tkO xs gap (c + 1) ≤ room) ∧ Below w.heap.size w w'
set_option maxHeartbeats 2000000 in
theorem icount (b off cap : Nat) (xs : List It) (gap room : Int) (w : World) (hz : Its w (some ⟨b, off, none⟩) xs) (h0 : 0 < xs.length) (hl : xs.length ≤ 1048576) (hcap : xs.length ≤ cap) :
    Calls Try.prog 71 #[.slice (some ⟨b, off, none⟩) xs.length cap, .int .i64 gap, .int .i64 room] w (CntPost xs gap room w) := by
  have HZ := Lib.hid hz
  clear hz
  go_enter Try.func71, Try.ntmps71
  go_wp2
  go_loopw [7] (fun q wr => ∃ c : Nat, q = .int .i64 c ∧ 1 ≤ c ∧ c ≤ xs.length ∧ (∀ u, 1 < u → u ≤ c → tkO xs gap u ≤ room) ∧ Below w.heap.size w wr) (fun q _ => xs.length - (intOf q).toNat)
  case atStart => exact ⟨1, rfl, Nat.le_refl _, h0, fun u h1 h2 => by omega, Below.refl _ _⟩
  case round =>
    obtain ⟨c, rfl, hc1, hc, hfit, hb⟩ := hrel
    have HFIT := Lib.hid hfit
    have HB := Lib.hid hb
    clear hfit
    by_cases hlt : c < xs.length
    · have hhi : (c : Int) < (xs.length : Int) := by omega
      have hcc : (c : Int) + 1 ≤ (cap : Int) := by omega
      have hlen : (xs.take (c + 1)).length = c + 1 := by rw [List.length_take]; omega
      have kk := ihypouter_any (some ⟨b, off, none⟩) cap (xs.take (c + 1)) gap wr ((HZ.out.below hb).take (c + 1)) (by rw [hlen]; omega)
      rw [hlen] at kk
      obtain ⟨o, eo⟩ : ∃ q, q = tkO xs gap (c + 1) := ⟨_, rfl⟩
      have kk' : Calls Try.prog 78 #[.slice (some ⟨b, off, none⟩) (c + 1) cap, .int .i64 gap] wr fun e w' => e = .returned (.int .i64 o) ∧ Below wr.heap.size wr w' := by rw [eo]; exact kk
      have EO := Lib.hid eo
      have KK := Lib.hid kk'
      clear kk kk' eo hlen hb
      go_wp2_with (fail)
      refine KK.out.mono ?_
      rintro e w1 ⟨rfl, b1⟩
      have B1 := Lib.hid (HB.out.trans (b1.mono HB.out.size))
      clear KK b1
      by_cases ho : o ≤ room
      · have HF2 := Lib.hid (show ∀ u, 1 < u → u ≤ c + 1 → tkO xs gap u ≤ room from fun u h1 h2 => by
          by_cases hu : u ≤ c
          · exact HFIT.out u h1 hu
          · obtain rfl : u = c + 1 := by omega
            rw [← EO.out]; exact ho)
        go_wp2
        go_roundw
        case rel => exact ⟨c + 1, by go_num, by omega, by omega, HF2.out, B1.out⟩
        case measure => simp [intOf]; omega
      · go_wp2
        go_ret
        exact ⟨c, rfl, hc1, hc, HFIT.out, Or.inr (by rw [← EO.out]; omega), B1.out⟩
    · obtain rfl : c = xs.length := by omega
      clear hb
      go_wp2
      go_ret
      exact ⟨xs.length, rfl, hc1, hc, HFIT.out, Or.inl rfl, HB.out⟩
end Go.Proofs.Ytcnmchcleghcgaa

import Derived.Test.YtopfiogmbnfjcaaZlAB
section
namespace Go.Proofs.Ytopfiogmbnfjcaa
open Go.ChangeShapes Go.WideShapes Go.ChangeAt Go.RowKit

theorem code_lt {w : World} {a : Option Addr} {len : Nat} (h : Code w a len) (h0 : 0 < len) : ∀ b off, a = some ⟨b, off, none⟩ → b < w.heap.size := by
  intro b off ha
  rcases h with h | ⟨b', off', ha', hb, _⟩
  · omega
  · rw [ha] at ha'; simp at ha'; rw [ha'.1]; exact hb

/-- The new cursor, as every draw wants it. -/
theorem new_cur (a : Option Addr) (len cap : Nat) (w : World) (hl : len ≤ 1048576) (hc : Code w a len) :
    Calls Try.prog 71 #[.slice a len cap] w fun e w' => e = .returned (.pointer (some ⟨w.heap.size, 0, none⟩)) ∧ Cur w.heap.size a len cap w' ∧ Below w.heap.size w w' ∧ w.heap.size < w'.heap.size := by
  have hap := fun h0 => code_lt hc h0
  refine (new_any a len cap w hl hc).mono ?_
  rintro e w1 ⟨h, rfl, hcur, hb, hsz⟩
  exact ⟨rfl, ⟨⟨0, h, Nat.zero_le _, hcur⟩, hc.below hb, hl, fun h0 b off e => by have := hap h0 b off e; omega⟩, hb, by omega⟩
end Go.Proofs.Ytopfiogmbnfjcaa
end

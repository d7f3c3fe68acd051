/-
  Rows of ints that a draw makes, and the new cursor (spec.l01New) as every draw wants it. Conditions: those of each theorem.
-/
import Derived.Test.YtdpibpelghnihaaDraw
namespace Go.Proofs.Ytdpibpelghnihaa
open Go.ChangeShapes Go.WideShapes Go.ChangeAt Go.RowKit

theorem one_int (wr : World) (x : Value) (e : TypeId) : ∀ j u, [x][j]? = some u → (wr.alloc (.cells #[x] e)).cell? ((⟨wr.heap.size, 0, none⟩ : Addr).add j) = some u := by
  intro j u hj
  cases j with
  | zero => simp at hj; subst hj; simp [Addr.add]
  | succ j => simp at hj
theorem ownI_le {b b' : Nat} {v : Value} {xs : List Int} {w : World} (h : OwnI b v xs w) (hb : b' ≤ b) : OwnI b' v xs w := by
  refine ⟨h.1, ?_⟩
  rcases h.2 with h1 | ⟨g, cap, cur, hv, hg, hr⟩
  · exact Or.inl h1
  · exact Or.inr ⟨g, cap, cur, hv, by omega, hr⟩
theorem code_lt {w : World} {a : Option Addr} {len : Nat} (h : Code w a len) (h0 : 0 < len) : ∀ b off, a = some ⟨b, off, none⟩ → b < w.heap.size := by
  intro b off ha
  rcases h with h | ⟨b', off', ha', hb, _⟩
  · omega
  · rw [ha] at ha'; simp at ha'; rw [ha'.1]; exact hb

/-- The new cursor, as every draw wants it. -/
theorem new_cur (a : Option Addr) (len cap : Nat) (w : World) (hl : len ≤ 1048576) (hc : Code w a len) :
    Calls Try.prog 29 #[.slice a len cap] w fun e w' => e = .returned (.pointer (some ⟨w.heap.size, 0, none⟩)) ∧ Cur w.heap.size a len cap w' ∧ Below w.heap.size w w' ∧ w.heap.size < w'.heap.size := by
  have hap := fun h0 => code_lt hc h0
  refine (new_any a len cap w hl hc).mono ?_
  rintro e w1 ⟨h, rfl, hcur, hb, hsz⟩
  exact ⟨rfl, ⟨⟨0, h, Nat.zero_le _, hcur⟩, hc.below hb, hl, fun h0 b off e => by have := hap h0 b off e; omega⟩, hb, by omega⟩
end Go.Proofs.Ytdpibpelghnihaa

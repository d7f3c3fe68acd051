import Derived.Test.YtnncdpkmhpjmbaaZmAD
section
namespace Go.Proofs.Ytnncdpkmhpjmbaa
open Go.ChangeShapes Go.WideShapes Go.ChangeAt Go.RowKit

/-- Every number is an int. -/
def AllI (xs : List Int) : Prop := ∀ z ∈ xs, -9223372036854775808 ≤ z ∧ z ≤ 9223372036854775807
/-- A call that hands back a row of its own and leaves all old memory alone. -/
def OutPost (xs : List Int) (w : World) (e : Ending) (w' : World) : Prop := ∃ v, e = .returned v ∧ RowI w.heap.size v xs w' ∧ Below w.heap.size w w'

theorem RowI.kept {b : Nat} {v : Value} {xs : List Int} {w w' : World} {row : Option Nat} (h : RowI b v xs w) (hg : w.grownBy w' row) (hne : v.ownBlock = none ∨ v.ownBlock ≠ row) : RowI b v xs w' := World.ownsRow.kept h hg hne
theorem RowI.below {b : Nat} {v : Value} {xs : List Int} {w w' : World} (h : RowI b v xs w) (hb : Below w.heap.size w w') : RowI b v xs w' :=
  World.ownsRow.kept h ⟨hb.os, hb.tape, hb.output, hb.size, fun k hk _ => hb.block k hk⟩ (by cases v.ownBlock <;> simp : v.ownBlock = none ∨ v.ownBlock ≠ none)
theorem RowI.slice {b : Nat} {v : Value} {xs : List Int} {w : World} (h : RowI b v xs w) (hr : AllI xs) : ∃ a cap, v = .slice a xs.length cap ∧ Ints w a xs.length xs := by
  rcases h.2 with ⟨h1, h2⟩ | ⟨g, cap, cur, h1, _⟩
  · refine ⟨none, 0, by rw [h1, h2], rfl, hr, Or.inl h2⟩
  · subst h1
    exact ⟨_, cap, rfl, h.ints rfl hr⟩
theorem apart_U {v u : Value} {a b c d : Nat} (h : ∀ k, v.ownBlock = some k → a ≤ k ∧ k < b) (h' : ∀ k, u.ownBlock = some k → c ≤ k ∧ k < d) (hbc : b ≤ c) : v.ownBlock = none ∨ v.ownBlock ≠ u.ownBlock := by
  cases hv : v.ownBlock with
  | none => exact Or.inl rfl
  | some g =>
    refine Or.inr fun hu => ?_
    have h1 := (h g hv).2
    have h2 := (h' g hu.symm).1
    omega
theorem apart_sym {v u : Value} (h : v.ownBlock = none ∨ v.ownBlock ≠ u.ownBlock) : u.ownBlock = none ∨ u.ownBlock ≠ v.ownBlock := by
  cases hu : u.ownBlock with
  | none => exact Or.inl rfl
  | some g =>
    refine Or.inr fun he => ?_
    rcases h with h | h
    · rw [h] at he; cases he
    · exact h (by rw [hu, ← he])
end Go.Proofs.Ytnncdpkmhpjmbaa
end
section
namespace Go.Proofs.Ytnncdpkmhpjmbaa
open Go.ChangeShapes Go.WideShapes Go.ChangeAt Go.RowKit

set_option maxHeartbeats 400000 in
theorem same_any (a a' : Option Addr) (len cap cap' : Nat) (zs : List Int) (w : World) (hz : Ints w a len zs) (hz' : Ints w a' len zs) (hl : len ≤ 4611686018427387904) :
    Calls Try.prog 16 #[.slice a len cap, .slice a' len cap'] w fun e w' => e = .returned (.bool true) ∧ Below w.heap.size w w' := by
  go_enter Try.func16, Try.ntmps16
  go_wp2
  go_loopw [5] (fun i wr => ∃ k m : Nat, k ≤ len ∧ i = .int .i64 k ∧ wr = w.drewN m) (fun i _ => len - (intOf i).toNat)
  case atStart => exact ⟨0, 0, Nat.zero_le _, rfl, rfl⟩
  case round =>
    obtain ⟨k, m, hk, rfl, rfl⟩ := hrel
    by_cases hlt : k < len
    · obtain ⟨b, off, rfl, hbl, c1⟩ := hz.look hlt
      obtain ⟨b', off', rfl, hbl', c2⟩ := hz'.look hlt
      have hlo : (0 : Int) ≤ (k : Int) := Int.natCast_nonneg _
      have hhi : (k : Int) < (len : Int) := by omega
      clear hz hz'
      generalize zs.getD k 0 = x at c1 c2
      go_wp2
      go_quiet (fail)
      go_wp2
      go_roundw
      case rel => exact ⟨k + 1, m + nq, by omega, by go_num, rfl⟩
      case measure => simp [intOf]; omega
    · clear hz hz'
      go_wp2
      go_ret
      exact ⟨rfl, below_drawn w m⟩
/-- On two rows. -/
theorem sameR_any (b b' : Nat) (v v' : Value) (xs : List Int) (w : World) (hr : AllI xs) (hn : xs.length ≤ 1048576) (h : RowI b v xs w) (h' : RowI b' v' xs w) :
    Calls Try.prog 16 #[v, v'] w fun e w' => e = .returned (.bool true) ∧ Below w.heap.size w w' := by
  obtain ⟨a, cap, rfl, hz⟩ := h.slice hr
  obtain ⟨a', cap', rfl, hz'⟩ := h'.slice hr
  exact same_any a a' xs.length cap cap' xs w hz hz' (by omega)
end Go.Proofs.Ytnncdpkmhpjmbaa
end

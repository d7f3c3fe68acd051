import Derived.Test.YtopfiogmbnfjcaaZlAE
section
namespace Go.Proofs.Ytopfiogmbnfjcaa
open Go.ChangeShapes Go.WideShapes Go.ChangeAt Go.RowKit

/-- Every number is an int. -/
def AllI (xs : List Int) : Prop := ∀ z ∈ xs, -9223372036854775808 ≤ z ∧ z ≤ 9223372036854775807
/-- A call that hands back a row of its own and leaves all old memory alone. -/
def OutPost (xs : List Int) (w : World) (e : Ending) (w' : World) : Prop := ∃ v, e = .returned v ∧ RowI w.heap.size v xs w' ∧ Below w.heap.size w w'

theorem RowI.kept {b : Nat} {v : Value} {xs : List Int} {w w' : World} {row : Option Nat} (h : RowI b v xs w) (hg : w.grownBy w' row) (hne : v.ownBlock = none ∨ v.ownBlock ≠ row) : RowI b v xs w' := World.ownsRow.kept h hg hne
theorem RowI.below {b : Nat} {v : Value} {xs : List Int} {w w' : World} (h : RowI b v xs w) (hb : Below w.heap.size w w') : RowI b v xs w' :=
  World.ownsRow.kept h ⟨hb.os, hb.tape, hb.output, hb.size, fun k hk _ => hb.block k hk⟩ (by cases v.ownBlock <;> simp : v.ownBlock = none ∨ v.ownBlock ≠ none)
theorem RowI.slice {b : Nat} {v : Value} {xs : List Int} {w : World} (h : RowI b v xs w) (hr : AllI xs) : ∃ a cap, v = .slice a xs.length cap ∧ Ints w a xs.length xs := by
  rcases h.2 with ⟨h1, h2⟩ | ⟨g, cap, cur, h1, _⟩
  · refine ⟨none, 0, by rw [h1, h2], rfl, hr, Or.inl h2⟩
  · subst h1
    exact ⟨_, cap, rfl, h.ints rfl hr⟩
theorem apart_sym {v u : Value} (h : v.ownBlock = none ∨ v.ownBlock ≠ u.ownBlock) : u.ownBlock = none ∨ u.ownBlock ≠ v.ownBlock := by
  cases hu : u.ownBlock with
  | none => exact Or.inl rfl
  | some g =>
    refine Or.inr fun he => ?_
    rcases h with h | h
    · rw [h] at he; cases he
    · exact h (by rw [hu, ← he])
/-- The marks k, k + 1, .. -/
def mksI (k n : Nat) : List Int := (List.range n).map fun j => ((k + j : Nat) : Int)
end Go.Proofs.Ytopfiogmbnfjcaa
end
section
namespace Go.Proofs.Ytopfiogmbnfjcaa
open Go.ChangeShapes Go.WideShapes Go.ChangeAt Go.RowKit
set_option maxRecDepth 8000

theorem RowI.put {base g n cap k : Nat} {xs : List Int} {w : World} (h : RowI base (.slice (some ⟨g, 0, none⟩) n cap) xs w) (hn : xs.length = n) (hk : k < n) (x : Int) :
    (∃ q, w.cell? ⟨g, k, none⟩ = some q) ∧ w.frozen? ⟨g, k, none⟩ = false ∧ RowI base (.slice (some ⟨g, 0, none⟩) n cap) (xs.set k x) (w.setCell ⟨g, k, none⟩ (.int .i64 x)) := by
  have h' : w.ownsRow base 3 1 (.slice (some ⟨g, 0, none⟩) n cap) n (xs.map (Value.int .i64)) := by
    have h0 := h; unfold RowI at h0; rwa [hn] at h0
  refine ⟨?_, h'.frozenAt k, ?_⟩
  · rw [h'.cellAt k (by omega)]
    exact ⟨_, List.getElem?_eq_getElem (by rw [List.length_map]; omega)⟩
  · have := (h'.stored k (.int .i64 x)).1
    rw [← List.map_set] at this
    unfold RowI
    rw [List.length_set, hn]
    exact this
theorem RowI.cell {base g n cap k : Nat} {xs : List Int} {w : World} (h : RowI base (.slice (some ⟨g, 0, none⟩) n cap) xs w) (hn : xs.length = n) (hk : k < n) : w.cell? ⟨g, k, none⟩ = some (.int .i64 (xs.getD k 0)) := by
  have h' : w.ownsRow base 3 1 (.slice (some ⟨g, 0, none⟩) n cap) n (xs.map (Value.int .i64)) := by
    have h0 := h; unfold RowI at h0; rwa [hn] at h0
  rw [h'.cellAt k (by omega)]
  simp [List.getD, show k < xs.length by omega]
theorem info_intP : (Try.prog.info? 3).map (fun i => (i.zero, i.size, i.bytes)) = some (some (.int .i64 0), 1, 8) := by kernel_rfl
theorem one_intP (wr : World) (x : Value) (e : TypeId) : ∀ j u, [x][j]? = some u → (wr.alloc (.cells #[x] e)).cell? ((⟨wr.heap.size, 0, none⟩ : Addr).add j) = some u := by
  intro j u hj
  cases j with
  | zero => simp at hj; subst hj; simp [Addr.add]
  | succ j => simp at hj
theorem lowI {b b' : Nat} {v : Value} {xs : List Int} {w : World} (h : RowI b v xs w) (hb : b' ≤ b) : RowI b' v xs w := by
  refine ⟨h.1, ?_⟩
  rcases h.2 with h0 | ⟨g, cap, cur, h1, h2, h3⟩
  · exact Or.inl h0
  · exact Or.inr ⟨g, cap, cur, h1, Nat.le_trans hb h2, h3⟩
theorem wr_l (a b : Int) : wrap64 (wrap64 a + b) = wrap64 (a + b) := by unfold wrap64; omega
theorem wr_r (a b : Int) : wrap64 (a + wrap64 b) = wrap64 (a + b) := by unfold wrap64; omega
theorem wr_l2 (a b c : Int) : wrap64 (wrap64 a + b + c) = wrap64 (a + b + c) := by unfold wrap64; omega
theorem wr_zero : wrap64 0 = 0 := by unfold wrap64; omega
theorem wr_in (a : Int) : -9223372036854775808 ≤ wrap64 a ∧ wrap64 a ≤ 9223372036854775807 := by unfold wrap64; omega
theorem take_snoc {zs : List Int} {k : Nat} (h : k < zs.length) : zs.take (k + 1) = zs.take k ++ [zs.getD k 0] := by
  rw [List.take_succ_eq_append_getElem h]; simp [List.getD, h]
end Go.Proofs.Ytopfiogmbnfjcaa
end
section
namespace Go.Proofs.Ytopfiogmbnfjcaa
open Go.ChangeShapes Go.WideShapes Go.ChangeAt Go.RowKit

set_option maxHeartbeats 400000 in
theorem same_any (a a' : Option Addr) (len cap cap' : Nat) (zs : List Int) (w : World) (hz : Ints w a len zs) (hz' : Ints w a' len zs) (hl : len ≤ 4611686018427387904) :
    Calls Try.prog 19 #[.slice a len cap, .slice a' len cap'] w fun e w' => e = .returned (.bool true) ∧ Below w.heap.size w w' := by
  go_enter Try.func19, Try.ntmps19
  go_wp2
  go_loopw [5] (fun i wr => ∃ k m : Nat, k ≤ len ∧ i = .int .i64 k ∧ wr = w.drewN m) (fun i _ => len - (intOf i).toNat)
  case atStart => exact ⟨0, 0, Nat.zero_le _, rfl, rfl⟩
  case round =>
    obtain ⟨k, m, hk, rfl, rfl⟩ := hrel
    by_cases hlt : k < len
    · obtain ⟨b, off, rfl, hbl, c1⟩ := hz.look hlt
      obtain ⟨b', off', rfl, hbl', c2⟩ := hz'.look hlt
      have hlo : (0 : Int) ≤ (k : Int) := Int.natCast_nonneg _
      have hhi : (k : Int) < (len : Int) := by omega
      clear hz hz'
      generalize zs.getD k 0 = x at c1 c2
      go_wp2
      go_quiet (fail)
      go_wp2
      go_roundw
      case rel => exact ⟨k + 1, m + nq, by omega, by go_num, rfl⟩
      case measure => simp [intOf]; omega
    · clear hz hz'
      go_wp2
      go_ret
      exact ⟨rfl, below_drawn w m⟩
/-- On two rows. -/
theorem sameR_any (b b' : Nat) (v v' : Value) (xs : List Int) (w : World) (hr : AllI xs) (hn : xs.length ≤ 1048576) (h : RowI b v xs w) (h' : RowI b' v' xs w) :
    Calls Try.prog 19 #[v, v'] w fun e w' => e = .returned (.bool true) ∧ Below w.heap.size w w' := by
  obtain ⟨a, cap, rfl, hz⟩ := h.slice hr
  obtain ⟨a', cap', rfl, hz'⟩ := h'.slice hr
  exact same_any a a' xs.length cap cap' xs w hz hz' (by omega)
end Go.Proofs.Ytopfiogmbnfjcaa
end

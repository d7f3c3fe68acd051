/-
  Rows of ints that a call made: what keeps them, and the laws' helpers eqIntS, markIntS, heldIntS on them. Conditions: at most 1048576 ints.
-/
import Derived.Test.YtnncdpkmhpjmbaaIntS
namespace Go.Proofs.Ytnncdpkmhpjmbaa
open Go.ChangeShapes Go.WideShapes Go.ChangeAt Go.RowKit

/-- Every number is an int. -/
def AllI (xs : List Int) : Prop := ∀ z ∈ xs, -9223372036854775808 ≤ z ∧ z ≤ 9223372036854775807
/-- A call that hands back a row of its own and leaves all old memory alone. -/
def OutPost (xs : List Int) (w : World) (e : Ending) (w' : World) : Prop := ∃ v, e = .returned v ∧ RowI w.heap.size v xs w' ∧ Below w.heap.size w w'

theorem RowI.kept {b : Nat} {v : Value} {xs : List Int} {w w' : World} {row : Option Nat} (h : RowI b v xs w) (hg : w.grownBy w' row) (hne : v.ownBlock = none ∨ v.ownBlock ≠ row) : RowI b v xs w' := World.ownsRow.kept h hg hne
theorem RowI.below {b : Nat} {v : Value} {xs : List Int} {w w' : World} (h : RowI b v xs w) (hb : Below w.heap.size w w') : RowI b v xs w' :=
  World.ownsRow.kept h ⟨hb.os, hb.tape, hb.output, hb.size, fun k hk _ => hb.block k hk⟩ (by cases v.ownBlock <;> simp : v.ownBlock = none ∨ v.ownBlock ≠ none)
theorem RowI.slice {b : Nat} {v : Value} {xs : List Int} {w : World} (h : RowI b v xs w) (hr : AllI xs) : ∃ a cap, v = .slice a xs.length cap ∧ Ints w a xs.length xs := by
  rcases h.2 with ⟨h1, h2⟩ | ⟨g, cap, cur, h1, _⟩
  · refine ⟨none, 0, by rw [h1, h2], rfl, hr, Or.inl h2⟩
  · subst h1
    exact ⟨_, cap, rfl, h.ints rfl hr⟩
/-- A row that was made later lies elsewhere. -/
theorem apart_of {b : Nat} {v u : Value} {xs ys : List Int} {w0 w1 : World} {B : Nat} (h : RowI b v xs w0) (h' : RowI B u ys w1) (hB : w0.heap.size ≤ B) : v.ownBlock = none ∨ v.ownBlock ≠ u.ownBlock := by
  cases hv : v.ownBlock with
  | none => exact Or.inl rfl
  | some g =>
    refine Or.inr fun hu => ?_
    have h1 := (World.ownsRow.lt h g hv).2
    have h2 := (World.ownsRow.lt h' g hu.symm).1
    omega
theorem apart_U {v u : Value} {a b c d : Nat} (h : ∀ k, v.ownBlock = some k → a ≤ k ∧ k < b) (h' : ∀ k, u.ownBlock = some k → c ≤ k ∧ k < d) (hbc : b ≤ c) : v.ownBlock = none ∨ v.ownBlock ≠ u.ownBlock := by
  cases hv : v.ownBlock with
  | none => exact Or.inl rfl
  | some g =>
    refine Or.inr fun hu => ?_
    have h1 := (h g hv).2
    have h2 := (h' g hu.symm).1
    omega
theorem apart_sym {v u : Value} (h : v.ownBlock = none ∨ v.ownBlock ≠ u.ownBlock) : u.ownBlock = none ∨ u.ownBlock ≠ v.ownBlock := by
  cases hu : u.ownBlock with
  | none => exact Or.inl rfl
  | some g =>
    refine Or.inr fun he => ?_
    rcases h with h | h
    · rw [h] at he; cases he
    · exact h (by rw [hu, ← he])
/-- What turns one row alone leaves what was there before the row. -/
theorem below_row {b : Nat} {v : Value} {xs : List Int} {W w w' : World} (hb : Below b W w) (h : RowI b v xs w) (hs : b ≤ w.heap.size) (hg : w.grownBy w' v.ownBlock) : Below b W w' := hb.grown hg hs (fun k hk => (World.ownsRow.lt h k hk).1)

/-- eqIntS on two rows that hold the same ints: true. -/
theorem eqR_any (b b' : Nat) (v v' : Value) (xs : List Int) (w : World) (hr : AllI xs) (hn : xs.length ≤ 1048576) (h : RowI b v xs w) (h' : RowI b' v' xs w) :
    Calls Try.prog 24 #[v, v'] w fun e w' => e = .returned (.bool true) ∧ Below w.heap.size w w' := by
  obtain ⟨a, cap, rfl, hz⟩ := h.slice hr
  obtain ⟨a', cap', rfl, hz'⟩ := h'.slice hr
  exact eqI_any a a' xs.length cap cap' xs w hz hz' (by omega)

/-- The marks k, k + 1, .. -/
def mksI (k n : Nat) : List Int := (List.range n).map fun j => ((k + j : Nat) : Int)
theorem mksI_set {k m : Nat} {xs : List Int} (h : m < xs.length) : (mksI k m ++ xs.drop m).set m ((k : Int) + m) = mksI k (m + 1) ++ xs.drop (m + 1) := by
  rw [List.set_append_right _ _ (by simp [mksI]), List.drop_eq_getElem_cons h]
  rw [show m - (mksI k m).length = 0 by simp [mksI], List.set_cons_zero]
  simp [mksI, List.range_succ]
theorem mksI_at (k : Nat) {m n : Nat} (h : m < n) : (mksI k n).getD m 0 = (k : Int) + m := by
  simp [mksI, h]
theorem mksI_len (k n : Nat) : (mksI k n).length = n := by simp [mksI]

set_option maxHeartbeats 400000 in
theorem markI_some (g cap n base k : Nat) (xs : List Int) (w : World) (hn : n ≤ 2097152) (hk2 : k ≤ 4294967296) (hl : xs.length = n)
    (h : RowI base (.slice (some ⟨g, 0, none⟩) n cap) xs w) :
    Calls Try.prog 25 #[.slice (some ⟨g, 0, none⟩) n cap, .int .i64 k] w fun e w' => e = .returned (.int .i64 ((k : Int) + n)) ∧ RowI base (.slice (some ⟨g, 0, none⟩) n cap) (mksI k n) w' ∧ w.grownBy w' (some g) := by
  have HL := Lib.hid hl
  clear hl
  go_enter Try.func25, Try.ntmps25
  go_wp2
  go_loopw [1, 5] (fun q i wr => ∃ m : Nat, m ≤ n ∧ i = .int .i64 m ∧ q = .int .i64 ((k : Int) + m) ∧ RowI base (.slice (some ⟨g, 0, none⟩) n cap) (mksI k m ++ xs.drop m) wr ∧ w.grownBy wr (some g)) (fun _ i _ => n - (intOf i).toNat)
  case atStart => exact ⟨0, Nat.zero_le _, rfl, by simp, by simpa [mksI] using h, World.grownBy.refl _ _⟩
  case round =>
    obtain ⟨m, hm, rfl, rfl, ho, hg⟩ := hrel
    have hll : (mksI k m ++ xs.drop m).length = n := by have := HL.out; simp [mksI_len]; omega
    have ho' : wr.ownsRow base 3 1 (.slice (some ⟨g, 0, none⟩) n cap) n ((mksI k m ++ xs.drop m).map (Value.int .i64)) := by
      have h := ho; unfold RowI at h; rwa [hll] at h
    by_cases hlt : m < n
    · have hlo : (0 : Int) ≤ (m : Int) := Int.natCast_nonneg _
      have hhi : (m : Int) < (n : Int) := by omega
      have hst := ho'.stored m (.int .i64 ((k : Int) + m))
      rw [← List.map_set, mksI_set (by have := HL.out; omega)] at hst
      have c2 : ∃ x, wr.cell? ⟨g, m, none⟩ = some x := by
        rw [ho'.cellAt m (by omega)]
        exact ⟨_, List.getElem?_eq_getElem (by simpa using (by have := hll; simp at this; omega))⟩
      obtain ⟨x2, c2⟩ := c2
      have f2 := ho'.frozenAt m
      have HS := Lib.hid hst
      have HG := Lib.hid hg
      clear hll ho ho' hst hg h
      go_wp2
      go_roundw
      case rel =>
        refine ⟨m + 1, by omega, by go_num, by go_num, ?_, ?_⟩
        · unfold RowI
          rw [show (mksI k (m + 1) ++ xs.drop (m + 1)).length = n by have := HL.out; simp [mksI_len]; omega]
          exact HS.out.1
        · have hg := HG.out
          exact ⟨hg.os, hg.tape, hg.output, by simpa [World.setCell] using hg.size, fun i hi hne => (Below.heap_setCell wr ⟨g, m, none⟩ _ i (by rintro rfl; exact hne rfl)).trans (hg.block i hi hne)⟩
      case measure => simp [intOf]; omega
    · obtain rfl : m = n := by omega
      clear hll ho'
      go_wp2
      go_ret
      refine ⟨rfl, ?_, hg⟩
      rw [List.drop_of_length_le (by have := HL.out; omega), List.append_nil] at ho
      exact ho
theorem markI_zero (k : Int) (w : World) :
    Calls Try.prog 25 #[.slice none 0 0, .int .i64 k] w fun e w' => e = .returned (.int .i64 k) ∧ w = w' := by
  go_enter Try.func25, Try.ntmps25
  go_wp2
  refine wp_loop_rounds 1 ?_
  rw [rounds_succ]
  go_wp2
  go_ret
  exact ⟨rfl, rfl⟩
/-- markIntS on a row of the call's own: its ints are the marks; nothing else has turned. -/
theorem markI_any2 (base k : Nat) (v : Value) (xs : List Int) (w : World) (hn : xs.length ≤ 2097152) (hk2 : k ≤ 4294967296) (h : RowI base v xs w) :
    Calls Try.prog 25 #[v, .int .i64 k] w fun e w' => e = .returned (.int .i64 ((k : Int) + xs.length)) ∧ RowI base v (mksI k xs.length) w' ∧ w.grownBy w' v.ownBlock := by
  rcases h.2 with ⟨h1, h2⟩ | ⟨g, cap, cur, h1, _⟩
  · subst h1
    refine (markI_zero k w).mono fun e w' ⟨he, hw⟩ => ?_
    subst hw
    have hx : xs = [] := List.eq_nil_of_length_eq_zero h2
    subst hx
    exact ⟨by rw [he]; simp, by simpa [mksI] using h, World.grownBy.refl _ _⟩
  · subst h1
    exact markI_some g cap xs.length base k xs w hn hk2 rfl h

/-- The same, the first mark as an int. -/
theorem markI_int2 (base k : Nat) (K : Int) (v : Value) (xs : List Int) (w : World) (hn : xs.length ≤ 2097152) (hk2 : k ≤ 4294967296) (hK : K = k) (h : RowI base v xs w) :
    Calls Try.prog 25 #[v, .int .i64 K] w fun e w' => e = .returned (.int .i64 (K + xs.length)) ∧ RowI base v (mksI k xs.length) w' ∧ w.grownBy w' v.ownBlock := by
  subst hK
  exact markI_any2 base k v xs w hn hk2 h

set_option maxHeartbeats 400000 in
theorem heldI_some (g cap n base k : Nat) (w : World) (hn : n ≤ 2097152) (hk2 : k ≤ 4294967296)
    (h : RowI base (.slice (some ⟨g, 0, none⟩) n cap) (mksI k n) w) :
    Calls Try.prog 26 #[.slice (some ⟨g, 0, none⟩) n cap, .int .i64 k] w fun e w' => e = .returned (.int .i64 ((k : Int) + n)) ∧ w' = w := by
  have ho' : w.ownsRow base 3 1 (.slice (some ⟨g, 0, none⟩) n cap) n ((mksI k n).map (Value.int .i64)) := by
    unfold RowI at h; rwa [mksI_len] at h
  clear h
  have hcell : ∀ m, m < n → w.cell? ⟨g, m, none⟩ = some (.int .i64 ((k : Int) + m)) := fun m hm => by
    rw [ho'.cellAt m (by omega), ← mksI_at k hm]
    simp [mksI_len, hm]
  have HC := Lib.hid hcell
  clear ho' hcell
  go_enter Try.func26, Try.ntmps26
  go_wp2
  go_loopw [1, 5] (fun q i wr => ∃ m : Nat, m ≤ n ∧ i = .int .i64 m ∧ q = .int .i64 ((k : Int) + m) ∧ wr = w) (fun _ i _ => n - (intOf i).toNat)
  case atStart => exact ⟨0, Nat.zero_le _, rfl, by simp, rfl⟩
  case round =>
    obtain ⟨m, hm, rfl, rfl, rfl⟩ := hrel
    by_cases hlt : m < n
    · have hlo : (0 : Int) ≤ (m : Int) := Int.natCast_nonneg _
      have hhi : (m : Int) < (n : Int) := by omega
      have c1 := HC.out m hlt
      go_wp2
      go_roundw
      case rel => exact ⟨m + 1, by omega, by go_num, by go_num, trivial⟩
      case measure => simp [intOf]; omega
    · go_wp2
      go_ret
      obtain rfl : m = n := by omega
      exact ⟨rfl, rfl⟩
theorem heldI_zero (k : Int) (w : World) :
    Calls Try.prog 26 #[.slice none 0 0, .int .i64 k] w fun e w' => e = .returned (.int .i64 k) ∧ w = w' := by
  go_enter Try.func26, Try.ntmps26
  go_wp2
  refine wp_loop_rounds 1 ?_
  rw [rounds_succ]
  go_wp2
  go_ret
  exact ⟨rfl, rfl⟩
/-- heldIntS on a row that holds the marks. -/
theorem heldI_any2 (base k n : Nat) (v : Value) (w : World) (hn : n ≤ 2097152) (hk2 : k ≤ 4294967296) (h : RowI base v (mksI k n) w) :
    Calls Try.prog 26 #[v, .int .i64 k] w fun e w' => e = .returned (.int .i64 ((k : Int) + n)) ∧ w' = w := by
  rcases h.2 with ⟨h1, h2⟩ | ⟨g, cap, cur, h1, _⟩
  · subst h1
    rw [mksI_len] at h2
    subst h2
    refine (heldI_zero k w).mono fun e w' ⟨he, hw⟩ => ?_
    subst hw
    exact ⟨by rw [he]; simp, rfl⟩
  · rw [mksI_len] at h1
    subst h1
    exact heldI_some g cap n base k w hn hk2 h
theorem markI_any (base k : Nat) (v : Value) (xs : List Int) (w : World) (hn : xs.length ≤ 1048576) (hk2 : k ≤ 4294967296) (h : RowI base v xs w) :
    Calls Try.prog 25 #[v, .int .i64 k] w fun e w' => e = .returned (.int .i64 ((k : Int) + xs.length)) ∧ RowI base v (mksI k xs.length) w' ∧ w.grownBy w' v.ownBlock := markI_any2 base k v xs w (by omega) hk2 h
theorem markI_int (base k : Nat) (K : Int) (v : Value) (xs : List Int) (w : World) (hn : xs.length ≤ 1048576) (hk2 : k ≤ 4294967296) (hK : K = k) (h : RowI base v xs w) :
    Calls Try.prog 25 #[v, .int .i64 K] w fun e w' => e = .returned (.int .i64 (K + xs.length)) ∧ RowI base v (mksI k xs.length) w' ∧ w.grownBy w' v.ownBlock := markI_int2 base k K v xs w (by omega) hk2 hK h
theorem heldI_any (base k n : Nat) (v : Value) (w : World) (hn : n ≤ 1048576) (hk2 : k ≤ 4294967296) (h : RowI base v (mksI k n) w) :
    Calls Try.prog 26 #[v, .int .i64 k] w fun e w' => e = .returned (.int .i64 ((k : Int) + n)) ∧ w' = w := heldI_any2 base k n v w (by omega) hk2 h
end Go.Proofs.Ytnncdpkmhpjmbaa

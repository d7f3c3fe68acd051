/-
  Rows of strings that a call made: the laws' helpers eqStringS, markStringS, heldStringS on them. Conditions: those of each theorem.
-/
import Derived.Test.YtddgghghilfdcaaMark
import Derived.Deep.QuietTactic
import Derived.BigQuiet
import Derived.Deep.RegionHeld3
namespace Go.Proofs.Ytddgghghilfdcaa
open Go.ChangeShapes Go.WideShapes Go.ChangeAt Go.RowKit

/-- A row of its own stays where nothing below the heap's end turned. -/
theorem own_below {w w' : World} {base : Nat} {e : TypeId} {size n : Nat} {v : Value} {xs : List Value} (h : w.ownsRow base e size v n xs) (hb : Below w.heap.size w w') : w'.ownsRow base e size v n xs := by
  refine ⟨h.1, ?_⟩
  rcases h.2 with h1 | ⟨g, cap, cur, hv, hg, hc, hr⟩
  · exact Or.inl h1
  · have hlt : g < w.heap.size := (h.lt g (by rw [hv]; rfl)).2
    exact Or.inr ⟨g, cap, cur, hv, hg, by rw [hb.block g hlt]; exact hc, hr⟩

theorem gr_refl (w : World) (row : Option Nat) : w.grownBy w row := ⟨rfl, rfl, rfl, Nat.le_refl _, fun _ _ _ => rfl⟩
theorem gr_below {a b c : World} {row : Option Nat} (h : a.grownBy b row) (hb : Below b.heap.size b c) : a.grownBy c row :=
  ⟨hb.os.trans h.os, hb.tape.trans h.tape, hb.output.trans h.output, Nat.le_trans h.size hb.size, fun i hi hne => (hb.block i (Nat.lt_of_lt_of_le hi h.size)).trans (h.block i hi hne)⟩
theorem gr_set {a b : World} {g : Nat} (h : a.grownBy b (some g)) (j : Nat) (u : Value) : a.grownBy (b.setCell ⟨g, j, none⟩ u) (some g) :=
  ⟨h.os, h.tape, h.output, by simpa [World.setCell] using h.size, fun i hi hne => (Below.heap_setCell b ⟨g, j, none⟩ u i (by rintro rfl; exact hne rfl)).trans (h.block i hi hne)⟩
theorem own_at {w : World} {base : Nat} {e : TypeId} {g n cap : Nat} {xs : List ByteArray} (h : w.ownsRow base e 1 (.slice (some ⟨g, 0, none⟩) n cap) n (xs.map Value.string)) {j : Nat} (hj : j < n) :
    w.cell? ⟨g, j, none⟩ = some (.string (xs.getD j ⟨#[]⟩)) := by
  have hl : xs.length = n := by have := h.1; simpa using this
  rw [h.cellAt j (by omega)]
  simp [hl, hj]

set_option maxHeartbeats 400000 in
theorem eqS_some (g cap g' cap' n base base' : Nat) (xs : List ByteArray) (w : World) (hn : n ≤ 1000)
    (h : w.ownsRow base 9 1 (.slice (some ⟨g, 0, none⟩) n cap) n (xs.map Value.string)) (h' : w.ownsRow base' 9 1 (.slice (some ⟨g', 0, none⟩) n cap') n (xs.map Value.string)) :
    Calls Try.prog 16 #[.slice (some ⟨g, 0, none⟩) n cap, .slice (some ⟨g', 0, none⟩) n cap'] w fun e w' => e = .returned (.bool true) ∧ Below w.heap.size w w' := by
  go_enter Try.func16, Try.ntmps16
  go_wp2
  go_loopw [5] (fun i wr => ∃ k m : Nat, k ≤ n ∧ i = .int .i64 k ∧ wr = w.drewN m) (fun i _ => n - (intOf i).toNat)
  case atStart => exact ⟨0, 0, Nat.zero_le _, rfl, rfl⟩
  case round =>
    obtain ⟨k, m, hk, rfl, rfl⟩ := hrel
    by_cases hlt : k < n
    · have c1 := own_at h hlt
      have c2 := own_at h' hlt
      have hlo : (0 : Int) ≤ (k : Int) := Int.natCast_nonneg _
      have hhi : (k : Int) < (n : Int) := by omega
      generalize xs.getD k ⟨#[]⟩ = x at c1 c2
      go_wp2
      go_quiet (fail)
      go_wp2
      go_roundw
      case rel => exact ⟨k + 1, m + nq, by omega, by go_num, rfl⟩
      case measure => simp [intOf]; omega
    · go_wp2
      go_ret
      exact ⟨rfl, below_drawn w m⟩
theorem eqS_zero (a a' : Option Addr) (c c' : Nat) (w : World) :
    Calls Try.prog 16 #[.slice a 0 c, .slice a' 0 c'] w fun e w' => e = .returned (.bool true) ∧ Below w.heap.size w w' := by
  go_enter Try.func16, Try.ntmps16
  go_wp2
  refine wp_loop_rounds 1 ?_
  rw [rounds_succ]
  go_wp2
  go_ret
  exact ⟨rfl, Below.refl _ _⟩
theorem own_form {w : World} {base : Nat} {e : TypeId} {n : Nat} {v : Value} {xs : List Value} (h : w.ownsRow base e 1 v n xs) : (∃ a c, v = .slice a 0 c ∧ n = 0) ∨ ∃ g cap, v = .slice (some ⟨g, 0, none⟩) n cap ∧ 0 < n := by
  rcases h.2 with ⟨h1, h2⟩ | ⟨g, cap, cur, h1, _⟩
  · exact Or.inl ⟨_, _, h1, h2⟩
  · by_cases h0 : n = 0
    · subst h0; exact Or.inl ⟨_, _, h1, rfl⟩
    · exact Or.inr ⟨g, cap, h1, by omega⟩
/-- eqStringS on two rows that hold the same strings: true. -/
theorem eqS_any (n base base' : Nat) (v v' : Value) (xs : List ByteArray) (w : World) (hn : n ≤ 1000)
    (h : w.ownsRow base 9 1 v n (xs.map Value.string)) (h' : w.ownsRow base' 9 1 v' n (xs.map Value.string)) :
    Calls Try.prog 16 #[v, v'] w fun e w' => e = .returned (.bool true) ∧ Below w.heap.size w w' := by
  rcases own_form h with ⟨a, c, rfl, rfl⟩ | ⟨g, cap, rfl, hp⟩
  · rcases own_form h' with ⟨a', c', rfl, _⟩ | ⟨g', cap', rfl, hp'⟩
    · exact eqS_zero _ _ _ _ _
    · omega
  · rcases own_form h' with ⟨a', c', rfl, h0⟩ | ⟨g', cap', rfl, hp'⟩
    · omega
    · exact eqS_some g cap g' cap' n base base' xs w hn h h'

/-- The marks k, k + 1, .. -/
def marks (k n : Nat) : List ByteArray := (List.range n).map fun j => mtxt (k + j)
theorem marks_set {k m : Nat} {xs : List ByteArray} (h : m < xs.length) : (marks k m ++ xs.drop m).set m (mtxt (k + m)) = marks k (m + 1) ++ xs.drop (m + 1) := by
  rw [List.set_append_right _ _ (by simp [marks]), List.drop_eq_getElem_cons h]
  rw [show m - (marks k m).length = 0 by simp [marks], List.set_cons_zero]
  simp [marks, List.range_succ]
theorem marks_at (k : Nat) {m n : Nat} (h : m < n) : (marks k n).getD m ⟨#[]⟩ = mtxt (k + m) := by
  simp [marks, h]
theorem marks_len (k n : Nat) : (marks k n).length = n := by simp [marks]

set_option maxHeartbeats 400000 in
theorem markS_some (g cap n base k : Nat) (xs : List ByteArray) (w : World) (hn : n ≤ 1000) (hk1 : 1 ≤ k) (hk2 : k ≤ 1000000)
    (h : w.ownsRow base 9 1 (.slice (some ⟨g, 0, none⟩) n cap) n (xs.map Value.string)) :
    Calls Try.prog 17 #[.slice (some ⟨g, 0, none⟩) n cap, .int .i64 k] w fun e w' => e = .returned (.int .i64 ((k : Int) + n)) ∧ w'.ownsRow base 9 1 (.slice (some ⟨g, 0, none⟩) n cap) n ((marks k n).map Value.string) ∧ w.grownBy w' (some g) := by
  go_enter Try.func17, Try.ntmps17
  go_wp2
  go_loopw [1, 5] (fun q i wr => ∃ m : Nat, m ≤ n ∧ i = .int .i64 m ∧ q = .int .i64 ((k : Int) + m) ∧ wr.ownsRow base 9 1 (.slice (some ⟨g, 0, none⟩) n cap) n ((marks k m ++ xs.drop m).map Value.string) ∧ w.grownBy wr (some g)) (fun _ i _ => n - (intOf i).toNat)
  case atStart => exact ⟨0, Nat.zero_le _, rfl, by simp, by simpa [marks] using h, gr_refl _ _⟩
  case round =>
    obtain ⟨m, hm, rfl, rfl, ho, hg⟩ := hrel
    by_cases hlt : m < n
    · have hlo : (0 : Int) ≤ (m : Int) := Int.natCast_nonneg _
      have hhi : (m : Int) < (n : Int) := by omega
      go_wp2_with (fail)
      refine (mt_int _ (k + m) (by omega) _ (by omega) (by omega)).mono ?_
      rintro e w1 ⟨rfl, hb⟩
      have ho1 := own_below ho hb
      have hg1 := gr_below hg hb
      have c1 := own_at ho1 hlt
      have f1 := ho1.frozenAt m
      go_wp2
      go_roundw
      case rel =>
        refine ⟨m + 1, by omega, by go_num, by go_num, ?_, gr_set hg1 m _⟩
        have h2 := (ho1.stored m (.string (mtxt (k + m)))).1
        have hl : xs.length = n := by have := h.1; simpa using this
        rwa [← List.map_set, marks_set (by omega)] at h2
      case measure => simp [intOf]; omega
    · go_wp2
      go_ret
      obtain rfl : m = n := by omega
      have hl : xs.length = m := by have := h.1; simpa using this
      refine ⟨rfl, ?_, hg⟩
      rw [List.drop_of_length_le (by omega), List.append_nil] at ho
      exact ho
theorem markS_zero (a : Option Addr) (c : Nat) (k : Int) (w : World) :
    Calls Try.prog 17 #[.slice a 0 c, .int .i64 k] w fun e w' => e = .returned (.int .i64 k) ∧ w = w' := by
  go_enter Try.func17, Try.ntmps17
  go_wp2
  refine wp_loop_rounds 1 ?_
  rw [rounds_succ]
  go_wp2
  go_ret
  exact ⟨rfl, rfl⟩
/-- markStringS on a row of the call's own: its strings are the marks; nothing else has turned. -/
theorem markS_any (n base k : Nat) (v : Value) (xs : List ByteArray) (w : World) (hn : n ≤ 1000) (hk1 : 1 ≤ k) (hk2 : k ≤ 1000000)
    (h : w.ownsRow base 9 1 v n (xs.map Value.string)) :
    Calls Try.prog 17 #[v, .int .i64 k] w fun e w' => e = .returned (.int .i64 ((k : Int) + n)) ∧ w'.ownsRow base 9 1 v n ((marks k n).map Value.string) ∧ w.grownBy w' v.ownBlock := by
  rcases own_form h with ⟨a, c, rfl, rfl⟩ | ⟨g, cap, rfl, hp⟩
  · refine (markS_zero a c k w).mono fun e w' ⟨he, hw⟩ => ?_
    subst hw
    have hx : xs = [] := by have := h.1; simpa using this
    subst hx
    exact ⟨by rw [he]; simp, by simpa [marks] using h, gr_refl _ _⟩
  · exact markS_some g cap n base k xs w hn hk1 hk2 h

set_option maxHeartbeats 400000 in
theorem heldS_some (g cap n base k : Nat) (w : World) (hn : n ≤ 1000) (hk1 : 1 ≤ k) (hk2 : k ≤ 1000000)
    (h : w.ownsRow base 9 1 (.slice (some ⟨g, 0, none⟩) n cap) n ((marks k n).map Value.string)) :
    Calls Try.prog 18 #[.slice (some ⟨g, 0, none⟩) n cap, .int .i64 k] w fun e w' => e = .returned (.int .i64 ((k : Int) + n)) ∧ Below w.heap.size w w' := by
  have hgl := (h.lt g rfl).2
  go_enter Try.func18, Try.ntmps18
  go_wp2
  go_loopw [1, 5] (fun q i wr => ∃ m : Nat, m ≤ n ∧ i = .int .i64 m ∧ q = .int .i64 ((k : Int) + m) ∧ Below w.heap.size w wr) (fun _ i _ => n - (intOf i).toNat)
  case atStart => exact ⟨0, Nat.zero_le _, rfl, by simp, Below.refl _ _⟩
  case round =>
    obtain ⟨m, hm, rfl, rfl, hb⟩ := hrel
    by_cases hlt : m < n
    · have hlo : (0 : Int) ≤ (m : Int) := Int.natCast_nonneg _
      have hhi : (m : Int) < (n : Int) := by omega
      have c1 := own_at (own_below h hb) hlt
      rw [marks_at k hlt] at c1
      have hgl2 : g < wr.heap.size := Nat.lt_of_lt_of_le hgl hb.size
      go_wp2
      go_region_held3 (fun w' => w'.cell? ⟨g, m, none⟩ = some (.string (mtxt (k + m))))
        (first | exact c1 | (rw [hb1.cell (p := ⟨g, m, none⟩) hgl2]; exact c1))
        (first | (go_at_call 29; refine (mt_int _ (k + m) (by omega) _ (by omega) (by omega)).mono ?_; rintro e w1 ⟨rfl, hb1⟩))
      go_wp2
      go_roundw
      case rel => exact ⟨m + 1, by omega, by go_num, by go_num, hb.drew.trans (hb1.mono hb.size)⟩
      case measure => simp [intOf]; omega
    · go_wp2
      go_ret
      obtain rfl : m = n := by omega
      exact ⟨rfl, hb⟩
theorem heldS_zero (a : Option Addr) (c : Nat) (k : Int) (w : World) :
    Calls Try.prog 18 #[.slice a 0 c, .int .i64 k] w fun e w' => e = .returned (.int .i64 k) ∧ w = w' := by
  go_enter Try.func18, Try.ntmps18
  go_wp2
  refine wp_loop_rounds 1 ?_
  rw [rounds_succ]
  go_wp2
  go_ret
  exact ⟨rfl, rfl⟩
/-- heldStringS on a row that holds the marks. -/
theorem heldS_any (n base k : Nat) (v : Value) (w : World) (hn : n ≤ 1000) (hk1 : 1 ≤ k) (hk2 : k ≤ 1000000)
    (h : w.ownsRow base 9 1 v n ((marks k n).map Value.string)) :
    Calls Try.prog 18 #[v, .int .i64 k] w fun e w' => e = .returned (.int .i64 ((k : Int) + n)) ∧ Below w.heap.size w w' := by
  rcases own_form h with ⟨a, c, rfl, rfl⟩ | ⟨g, cap, rfl, hp⟩
  · refine (heldS_zero a c k w).mono fun e w' ⟨he, hw⟩ => ?_
    subst hw
    exact ⟨by rw [he]; simp, Below.refl _ _⟩
  · exact heldS_some g cap n base k w hn hk1 hk2 h
/-- Both, from mark 1 on. -/
theorem markS_one (n base : Nat) (v : Value) (xs : List ByteArray) (w : World) (hn : n ≤ 1000) (h : w.ownsRow base 9 1 v n (xs.map Value.string)) :
    Calls Try.prog 17 #[v, .int .i64 1] w fun e w' => e = .returned (.int .i64 (1 + (n : Int))) ∧ w'.ownsRow base 9 1 v n ((marks 1 n).map Value.string) ∧ w.grownBy w' v.ownBlock :=
  markS_any n base 1 v xs w hn (by omega) (by omega) h
theorem heldS_one (n base : Nat) (v : Value) (w : World) (hn : n ≤ 1000) (h : w.ownsRow base 9 1 v n ((marks 1 n).map Value.string)) :
    Calls Try.prog 18 #[v, .int .i64 1] w fun e w' => e = .returned (.int .i64 (1 + (n : Int))) ∧ Below w.heap.size w w' :=
  heldS_any n base 1 v w hn (by omega) (by omega) h
end Go.Proofs.Ytddgghghilfdcaa

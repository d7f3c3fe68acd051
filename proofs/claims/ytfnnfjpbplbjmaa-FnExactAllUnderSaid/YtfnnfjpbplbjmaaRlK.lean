/-
  The laws' helper markTable on a row of rules of the call's own: what it answers; nothing but that row has turned. Conditions: at most 1048576 rules.
-/
import Derived.Test.YtfnnfjpbplbjmaaRlT
namespace Go.Proofs.Ytfnnfjpbplbjmaa
open Go.ChangeShapes Go.WideShapes Go.ChangeAt Go.RowKit
set_option linter.unusedVariables false

theorem RowR.put {base g n cap : Nat} {zs : List Int} {w : World} (h : RowR base (.slice (some ⟨g, 0, none⟩) n cap) n zs w) (j : Nat) (x : Int) : RowR base (.slice (some ⟨g, 0, none⟩) n cap) n (zs.set j x) (w.setCell ⟨g, j, none⟩ (.int .i64 x)) := by
  have := (World.ownsRow.stored h j (.int .i64 x)).1
  rw [← List.map_set] at this
  exact this
theorem gr_set {a b : World} {g j : Nat} {u : Value} (h : a.grownBy b (some g)) : a.grownBy (b.setCell ⟨g, j, none⟩ u) (some g) :=
  ⟨h.os, h.tape, h.output, by simpa [World.setCell] using h.size, fun i hi hne => (Below.heap_setCell b ⟨g, j, none⟩ u i (by rintro rfl; exact hne rfl)).trans (h.block i hi hne)⟩
theorem gr_tr {a b c : World} {row : Option Nat} (h : a.grownBy b row) (k : b.grownBy c row) : a.grownBy c row :=
  ⟨k.os.trans h.os, k.tape.trans h.tape, k.output.trans h.output, Nat.le_trans h.size k.size, fun i hi hne => (k.block i (Nat.lt_of_lt_of_le hi h.size) hne).trans (h.block i hi hne)⟩
set_option maxHeartbeats 1000000 in
theorem markRS_any (g cap n base k : Nat) (K : Int) (zs : List Int) (w : World) (hn : n ≤ 1048576) (hk2 : k ≤ 4294967296) (hK : K = k) (h : RowR base (.slice (some ⟨g, 0, none⟩) n cap) n zs w) :
    Calls Try.prog 137 #[.slice (some ⟨g, 0, none⟩) n cap, .int .i64 K] w fun e w' => e = .returned (.int .i64 (K + n * 3)) ∧ w.grownBy w' (some g) := by
  subst hK
  go_enter Try.func137, Try.ntmps137
  go_wp2
  go_loopw [1, 5] (fun q i wr => ∃ m : Nat, m ≤ n ∧ i = .int .i64 m ∧ q = .int .i64 ((k : Int) + m * 3) ∧ (∃ ys, RowR base (.slice (some ⟨g, 0, none⟩) n cap) n ys wr) ∧ w.grownBy wr (some g)) (fun _ i _ => n - (intOf i).toNat)
  case atStart => exact ⟨0, Nat.zero_le _, rfl, by simp, ⟨zs, h⟩, World.grownBy.refl _ _⟩
  case round =>
    obtain ⟨m, hm, rfl, rfl, ⟨ys, ho⟩, hg⟩ := hrel
    by_cases hlt : m < n
    · have hlo : (0 : Int) ≤ (m : Int) := Int.natCast_nonneg _
      have hhi : (m : Int) < (n : Int) := by omega
      have HR := Lib.hid (((ho.put (m * 3) ((k : Int) + m * 3)).put (m * 3 + 1) ((k : Int) + m * 3 + 1)).put (m * 3 + 2) ((k : Int) + m * 3 + 1 + 1))
      have HG := Lib.hid (gr_set (j := m * 3 + 2) (u := .int .i64 ((k : Int) + m * 3 + 1 + 1)) (gr_set (j := m * 3 + 1) (u := .int .i64 ((k : Int) + m * 3 + 1)) (gr_set (j := m * 3) (u := .int .i64 ((k : Int) + m * 3)) hg)))
      obtain ⟨⟨y0, d0⟩, f0⟩ := ho.there (m * 3) (by omega)
      obtain ⟨⟨y1, d1⟩, f1⟩ := ho.there (m * 3 + 1) (by omega)
      obtain ⟨⟨y2, d2⟩, f2⟩ := ho.there (m * 3 + 2) (by omega)
      clear ho hg h
      go_wp2
      go_roundw
      case rel => exact ⟨m + 1, by omega, by go_num, by go_num, ⟨_, HR.out⟩, HG.out⟩
      case measure => simp [intOf]; omega
    · obtain rfl : m = n := by omega
      clear h ho
      go_wp2
      go_ret
      exact ⟨rfl, hg⟩
end Go.Proofs.Ytfnnfjpbplbjmaa

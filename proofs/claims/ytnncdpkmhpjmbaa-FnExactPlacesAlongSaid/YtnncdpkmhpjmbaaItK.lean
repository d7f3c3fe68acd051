/-
  The laws' helpers markItemS and heldItemS on a row of items of the call's own: what they write, answer and read. Conditions: at most 1048576 items.
-/
import Derived.Test.YtnncdpkmhpjmbaaItM
import Derived.Test.YtnncdpkmhpjmbaaRowI
namespace Go.Proofs.Ytnncdpkmhpjmbaa
open Go.ChangeShapes Go.WideShapes Go.ChangeAt Go.RowKit
set_option linter.unusedVariables false
set_option linter.unusedSimpArgs false
set_option maxRecDepth 8000

/-- The item that the marks from K on make. -/
def mkIt (K : Int) : It := ⟨K, K + 1, K + 1 + 1, K + 1 + 1 + 1, K + 1 + 1 + 1 + 1, K + 1 + 1 + 1 + 1 + 1, K + 1 + 1 + 1 + 1 + 1 + 1, (K + 1 + 1 + 1 + 1 + 1 + 1 + 1).tmod 3 == 0, (K + 1 + 1 + 1 + 1 + 1 + 1 + 1 + 1).tmod 3 == 0⟩
def mkT (k : Nat) : Nat → List It
  | 0 => []
  | n + 1 => mkT k n ++ [mkIt ((k : Int) + n * 9)]
theorem mkT_len (k : Nat) : ∀ n, (mkT k n).length = n
  | 0 => rfl
  | n + 1 => by rw [mkT, List.length_append, mkT_len k n]; rfl
theorem mkT_inr {k : Nat} (hk : k ≤ 4294967296) : ∀ n, n ≤ 1048576 → ∀ x ∈ mkT k n, x.inr
  | 0, _, x, h => by simp [mkT] at h
  | n + 1, hn, x, h => by
    rw [mkT, List.mem_append] at h
    rcases h with h | h
    · exact mkT_inr hk n (by omega) x h
    · obtain rfl : x = mkIt ((k : Int) + n * 9) := by simpa using h
      simp only [mkIt, It.inr, I64]
      omega
theorem mkT_at (k : Nat) : ∀ {n j : Nat}, j < n → itD (mkT k n) j = mkIt ((k : Int) + j * 9)
  | n + 1, j, h => by
    by_cases hj : j < n
    · have := mkT_at k hj
      unfold itD at *
      rw [mkT, List.getD, List.getElem?_append_left (by rw [mkT_len]; exact hj)]
      exact this
    · obtain rfl : j = n := by omega
      unfold itD
      rw [mkT, List.getD, List.getElem?_append_right (by rw [mkT_len]; omega), mkT_len, Nat.sub_self]
      rfl
theorem mkT_set (k : Nat) (xs : List It) {m : Nat} (h : m < xs.length) : (mkT k m ++ xs.drop m).set m (mkIt ((k : Int) + m * 9)) = mkT k (m + 1) ++ xs.drop (m + 1) := by
  rw [List.set_append_right _ _ (by rw [mkT_len]; omega), mkT_len, Nat.sub_self, List.drop_eq_getElem_cons h, List.set_cons_zero, mkT, List.append_assoc]
  rfl
theorem gr_cells {a : World} {g : Nat} : ∀ (vs : List Value) (o : Nat) (b : World), a.grownBy b (some g) → a.grownBy (b.setCells g o vs) (some g)
  | [], _, _, h => h
  | v :: vs, o, b, h => gr_cells vs (o + 1) _ ⟨h.os, h.tape, h.output, by simpa [World.setCell] using h.size, fun i hi hne => (Below.heap_setCell b ⟨g, o, none⟩ v i (by rintro rfl; exact hne rfl)).trans (h.block i hi hne)⟩
set_option maxHeartbeats 4000000 in
theorem markis_any (v : Value) (n base k : Nat) (K : Int) (xs : List It) (w : World) (hn : xs.length = n) (hn2 : n ≤ 1048576) (hk2 : k ≤ 4294967296) (hK : K = k) (h : RowT base v xs w) :
    Calls Try.prog 38 #[v, .int .i64 K] w fun e w' => e = .returned (.int .i64 (K + n * 9)) ∧ RowT base v (mkT k n) w' ∧ w.grownBy w' v.ownBlock := by
  subst hK hn
  rcases h.2 with ⟨h1, h2⟩ | ⟨g, cap, cur, h1, hrest⟩
  · have h2' : xs.length = 0 := h2
    obtain rfl : xs = [] := List.length_eq_zero_iff.1 h2'
    subst h1
    go_enter Try.func38, Try.ntmps38
    go_wp2
    refine wp_loop_rounds 1 ?_
    rw [rounds_succ]
    go_wp2
    go_ret
    exact ⟨by simp, h, World.grownBy.refl _ _⟩
  subst h1
  have hob : (Value.slice (some ⟨g, 0, none⟩) xs.length cap).ownBlock = some g := rfl
  rw [hob]
  clear hrest
  go_enter Try.func38, Try.ntmps38
  go_wp2
  go_loopw [1, 5] (fun q i wr => ∃ m : Nat, m ≤ xs.length ∧ i = .int .i64 m ∧ q = .int .i64 ((k : Int) + m * 9) ∧ RowT base (.slice (some ⟨g, 0, none⟩) xs.length cap) (mkT k m ++ xs.drop m) wr ∧ w.grownBy wr (some g)) (fun _ i _ => xs.length - (intOf i).toNat)
  case atStart => exact ⟨0, Nat.zero_le _, rfl, by simp, h, World.grownBy.refl _ _⟩
  case round =>
    obtain ⟨m, hm, rfl, rfl, ho, hg⟩ := hrel
    by_cases hlt : m < xs.length
    · have hlo : (0 : Int) ≤ (m : Int) := Int.natCast_nonneg _
      have hhi : (m : Int) < (xs.length : Int) := by omega
      have hll : (mkT k m ++ xs.drop m).length = xs.length := by rw [List.length_append, mkT_len, List.length_drop]; omega
      have hst := ho.store hll.symm (by rw [hll]; exact hlt) (mkIt ((k : Int) + m * 9))
      rw [mkT_set k xs hlt] at hst
      obtain ⟨hsp, hfz⟩ := ho.spots (i := m) (by rw [hll]; exact hlt)
      obtain ⟨q0, d0⟩ := hsp 0 (by decide)
      obtain ⟨q1, d1⟩ := hsp 1 (by decide)
      obtain ⟨q2, d2⟩ := hsp 2 (by decide)
      obtain ⟨q3, d3⟩ := hsp 3 (by decide)
      obtain ⟨q4, d4⟩ := hsp 4 (by decide)
      obtain ⟨q5, d5⟩ := hsp 5 (by decide)
      obtain ⟨q6, d6⟩ := hsp 6 (by decide)
      obtain ⟨q7, d7⟩ := hsp 7 (by decide)
      obtain ⟨q8, d8⟩ := hsp 8 (by decide)
      simp only [Nat.add_zero] at d0
      have f0 := hfz (m * 9)
      have f1 := hfz (m * 9 + 1)
      have f2 := hfz (m * 9 + 2)
      have f3 := hfz (m * 9 + 3)
      have f4 := hfz (m * 9 + 4)
      have f5 := hfz (m * 9 + 5)
      have f6 := hfz (m * 9 + 6)
      have f7 := hfz (m * 9 + 7)
      have f8 := hfz (m * 9 + 8)
      have HST := Lib.hid hst
      have HG := Lib.hid (gr_cells (mkIt ((k : Int) + m * 9)).L (m * 9) _ hg)
      clear ho hg h hsp hfz hst hll
      go_wp2
      go_roundw
      case rel => exact ⟨m + 1, by omega, by go_num, by go_num, HST.out, HG.out⟩
      case measure => simp [intOf]; omega
    · obtain rfl : m = xs.length := by omega
      rw [List.drop_of_length_le (Nat.le_refl _), List.append_nil] at ho
      clear h
      go_wp2
      go_ret
      exact ⟨rfl, ho, hg⟩
end Go.Proofs.Ytnncdpkmhpjmbaa

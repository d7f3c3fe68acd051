/-
  Whether lengths are in range (impl.lengthsOk), of a list that may be read and of two that are written down. Conditions: at most 1048576 of them.
-/
import Derived.Test.YtdpibpelghnihaaRng
import Derived.Lib.SmallJoins
namespace Go.Proofs.Ytdpibpelghnihaa
open Go.ChangeShapes Go.WideShapes Go.ChangeAt Go.RowKit
set_option linter.unusedVariables false
set_option linter.unusedSimpArgs false
set_option maxRecDepth 8000

def lsOk (zs : List Int) : Bool := decide (∀ j, j < zs.length → 0 ≤ zs.getD j 0 ∧ zs.getD j 0 ≤ 1048576)
theorem ls_bad {zs : List Int} {k : Nat} (hk : k < zs.length) (h : rnB (zs.getD k 0) 0 1048576 = false) : lsOk zs = false := by
  unfold lsOk
  refine decide_eq_false fun h' => ?_
  have := h' k hk
  exact absurd h (by unfold rnB; rw [decide_eq_true this]; decide)
theorem ls_all {zs : List Int} (h : ∀ j, j < zs.length → rnB (zs.getD j 0) 0 1048576 = true) : lsOk zs = true := decide_eq_true fun j hj => of_decide_eq_true (h j hj)
theorem ls_in {zs : List Int} (h : lsOk zs = true) (j : Nat) : 0 ≤ zs.getD j 0 ∧ zs.getD j 0 ≤ 1048576 := by
  by_cases hj : j < zs.length
  · exact of_decide_eq_true h j hj
  · rw [List.getD, List.getElem?_eq_none (by omega)]; exact ⟨by decide, by decide⟩
/-- A list's numbers may be read. -/
def Lk (w : World) (a : Option Addr) (zs : List Int) : Prop := ∀ k, k < zs.length → ∃ b off, a = some ⟨b, off, none⟩ ∧ b < w.heap.size ∧ w.cell? ⟨b, off + k, none⟩ = some (.int .i64 (zs.getD k 0))
theorem lk_two (w : World) (x y : Int) : Lk (w.alloc (.cells #[.int .i64 x, .int .i64 y] 3)) (some ⟨w.heap.size, 0, none⟩) [x, y] := fun k hk => by
  refine ⟨w.heap.size, 0, rfl, by simp, ?_⟩
  have h := (MapKept.heap_alloc w (.cells #[.int .i64 x, .int .i64 y] 3)).1
  have hk2 : k < 2 := hk
  match k, hk2 with
  | 0, _ => simp only [World.cell?, h]; rfl
  | 1, _ => simp only [World.cell?, h]; rfl
theorem ls_two (x y : Int) : lsOk [x, y] = (rnB x 0 1048576 && rnB y 0 1048576) := by
  unfold lsOk rnB
  rw [← Bool.decide_and]
  apply decide_eq_decide.2
  constructor
  · intro h; exact ⟨h 0 (by simp), h 1 (by simp)⟩
  · rintro ⟨h0, h1⟩ j hj
    match j, hj with
    | 0, _ => exact h0
    | 1, _ => exact h1
set_option maxHeartbeats 1000000 in
theorem ilensC (a : Option Addr) (cap : Nat) (zs : List Int) (w : World) (hz : Lk w a zs) (hl : zs.length ≤ 1048576) :
    Calls Try.prog 39 #[.slice a zs.length cap] w fun e w' => e = .returned (.bool (lsOk zs)) ∧ w' = w := by
  have HZ := Lib.hid hz
  clear hz
  go_enter Try.func39, Try.ntmps39
  go_wp2
  go_loopw [7] (fun i wr => ∃ k : Nat, k ≤ zs.length ∧ i = .int .i64 k ∧ (∀ j, j < k → rnB (zs.getD j 0) 0 1048576 = true) ∧ wr = w) (fun i _ => zs.length - (intOf i).toNat)
  case atStart => exact ⟨0, Nat.zero_le _, rfl, fun j hj => absurd hj (Nat.not_lt_zero _), rfl⟩
  case round =>
    obtain ⟨k, hk, rfl, hm, rfl⟩ := hrel
    by_cases hlt : k < zs.length
    · obtain ⟨b, off, rfl, hbl, hc⟩ := HZ.out k hlt
      have hlo : (0 : Int) ≤ (k : Int) := Int.natCast_nonneg _
      have hhi : (k : Int) < (zs.length : Int) := by omega
      have HBAD := Lib.hid (fun h => ls_bad hlt h)
      have HGOOD := Lib.hid (show rnB (zs.getD k 0) 0 1048576 = true → ∀ j, j < k + 1 → rnB (zs.getD j 0) 0 1048576 = true from fun h j hj => by
        by_cases e : j = k
        · rw [e]; exact h
        · exact hm j (by omega))
      generalize zs.getD k 0 = z at *
      have KR := Lib.hid (irng z 0 1048576 wr)
      generalize rnB z 0 1048576 = q at *
      clear hm
      go_wp2_with (fail)
      refine KR.out.mono ?_
      rintro e w1 ⟨rfl, rfl⟩
      clear KR
      cases q with
      | false =>
        (try dsimp only)
        go_wp2
        go_ret
        exact ⟨congrArg (fun t => Ending.returned (.bool t)) (HBAD.out (by simp)).symm, rfl⟩
      | true =>
        (try dsimp only)
        go_wp2
        go_roundw
        case rel => exact ⟨k + 1, by omega, by go_num, HGOOD.out (by simp), (by first | trivial | rfl)⟩
        case measure => simp [intOf]; omega
    · obtain rfl : k = zs.length := by omega
      have HM := Lib.hid (ls_all hm)
      clear hm
      go_wp2
      go_ret
      exact ⟨congrArg (fun t => Ending.returned (.bool t)) HM.out.symm, rfl⟩
theorem ilens_two (x y : Int) (w : World) :
    Calls Try.prog 39 #[.slice (some ⟨w.heap.size, 0, none⟩) 2 2] (w.alloc (.cells #[.int .i64 x, .int .i64 y] 3)) fun e w' => e = .returned (.bool (rnB x 0 1048576 && rnB y 0 1048576)) ∧ Below w.heap.size w w' := by
  rw [← ls_two]
  refine (ilensC (some ⟨w.heap.size, 0, none⟩) 2 [x, y] _ (lk_two w x y) (by simp)).mono ?_
  rintro e w' ⟨rfl, rfl⟩
  exact ⟨rfl, Go.Joins.below_alloc1 w _⟩
end Go.Proofs.Ytdpibpelghnihaa

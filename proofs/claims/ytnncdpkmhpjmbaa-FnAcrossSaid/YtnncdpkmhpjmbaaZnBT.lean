import Derived.Test.YtnncdpkmhpjmbaaZnBB
import Derived.Test.YtnncdpkmhpjmbaaZnBC
section
namespace Go.Proofs.Ytnncdpkmhpjmbaa
open Go.ChangeShapes Go.WideShapes Go.ChangeAt Go.RowKit
set_option linter.unusedVariables false
set_option linter.unusedSimpArgs false
set_option maxRecDepth 8000

theorem icrtot (b : Option Addr) (len cap2 : Nat) (zs : List Int) (gap : Int) (w : World) (hs : Ints w b len zs) (hsl : len ≤ 1048576) :
    Calls Try.prog 19 #[.slice b len cap2, .int .i64 gap] w fun e w' => e = .returned (.int .i64 (crV zs gap)) ∧ Below w.heap.size w w' := by
  have hzl : zs.length = len := hs.1
  subst hzl
  have KT := Lib.hid (itot_any b zs.length cap2 zs w hs hsl)
  clear hs
  have hdef : crV zs gap = wrap64 (totK zs zs.length + wrap64 (gap * ((zs.length - 1 : Nat) : Int))) := rfl
  rw [hdef]
  clear hdef
  generalize totK zs zs.length = t at *
  generalize zs.length = n at *
  have hlo : (0 : Int) ≤ (n : Int) := Int.natCast_nonneg _
  have hw0 : IntKind.i64.wrap ((n : Int) - 1) = (n : Int) - 1 := IntWalk.i64_in _ (by omega)
  by_cases h0 : n = 0
  · subst h0
    go_enter Try.func19, Try.ntmps19
    go_wp2_with (fail)
    refine KT.out.mono ?_
    rintro e w1 ⟨rfl, rfl⟩
    clear KT
    go_wp2
    go_ret
    exact ⟨ret_int (by rw [show ((0 - 1 : Nat) : Int) = 0 from rfl, Int.mul_zero, show wrap64 0 = 0 from IntWalk.wrap64_in _ (by omega), Int.add_zero]), Below.refl _ _⟩
  · have hmax : max ((n : Int) - 1) 0 = ((n - 1 : Nat) : Int) := by omega
    go_enter Try.func19, Try.ntmps19
    go_wp2_with (fail)
    refine KT.out.mono ?_
    rintro e w1 ⟨rfl, rfl⟩
    clear KT
    go_wp2
    go_ret
    exact ⟨ret_int (by rw [show ((n - 1 : Nat) : Int) = (n : Int) - 1 by omega]), Below.refl _ _⟩
theorem scrtot (b : Option Addr) (len cap2 : Nat) (zs : List Int) (gap : Int) (w : World) (hs : Ints w b len zs) (hsl : len ≤ 1048576) :
    Calls Try.prog 20 #[.slice b len cap2, .int .i64 gap] w fun e w' => e = .returned (.int .i64 (crV zs gap)) ∧ Below w.heap.size w w' := by
  have hzl : zs.length = len := hs.1
  subst hzl
  have KT := Lib.hid (stot_any b zs.length cap2 zs w hs hsl)
  have h00 : zs.length = 0 → crV zs gap = 0 := fun h => by
    unfold crV; rw [h]; show wrap64 (0 + wrap64 (gap * 0)) = 0; rw [Int.mul_zero, show wrap64 0 = 0 from IntWalk.wrap64_in _ (by omega)]; exact IntWalk.wrap64_in _ (by omega)
  have hdef : crV zs gap = wrap64 (totK zs zs.length + wrap64 (gap * ((zs.length - 1 : Nat) : Int))) := rfl
  clear hs
  by_cases h0 : zs.length = 0
  · rw [h00 h0]
    clear hdef h00
    generalize zs.length = n at *
    subst h0
    go_enter Try.func20, Try.ntmps20
    go_wp2
    go_ret
    exact ⟨rfl, Below.refl _ _⟩
  · rw [hdef]
    clear hdef h00
    generalize totK zs zs.length = t at *
    generalize zs.length = n at *
    have hlo : (0 : Int) ≤ (n : Int) := Int.natCast_nonneg _
    have hn0 : ¬ (n : Int) = 0 := by omega
    have hmax : (n : Int) - 1 = ((n - 1 : Nat) : Int) := by omega
    have hw0 : IntKind.i64.wrap ((n : Int) - 1) = ((n - 1 : Nat) : Int) := by rw [IntWalk.i64_in _ (by omega), hmax]
    go_enter Try.func20, Try.ntmps20
    go_wp2_with (fail)
    refine KT.out.mono ?_
    rintro e w1 ⟨rfl, rfl⟩
    clear KT
    go_wp2
    go_ret
    exact ⟨rfl, Below.refl _ _⟩
set_option maxHeartbeats 1000000 in
theorem iacok (b : Option Addr) (len cap2 : Nat) (zs : List Int) (gap inner : Int) (w : World) (hs : Ints w b len zs) (hsl : len ≤ 1048576) :
    Calls Try.prog 21 #[.slice b len cap2, .int .i64 gap, .int .i64 inner] w fun e w' => e = .returned (.bool (acOk zs gap inner)) ∧ Below w.heap.size w w' := by
  have hzl : zs.length = len := hs.1
  subst hzl
  have KL := Lib.hid (ilens b zs.length cap2 zs w hs hsl)
  have KG := Lib.hid (fun w' => ilens_two gap inner w')
  have hdef : acOk zs gap inner = (decide (zs.length ≤ 12) && lsOk zs && (rnB gap 0 1048576 && rnB inner 0 1048576)) := by unfold acOk; rw [Bool.and_assoc]
  rw [hdef]
  clear hdef hs
  generalize lsOk zs = q3 at *
  generalize (rnB gap 0 1048576 && rnB inner 0 1048576) = q4 at *
  generalize zs.length = m at *
  have hlo : (0 : Int) ≤ (m : Int) := Int.natCast_nonneg _
  by_cases h12 : m ≤ 12
  · have h12i : (m : Int) ≤ 12 := by omega
    cases q3 with
    | false =>
      go_enter Try.func21, Try.ntmps21
      go_wp2_with (fail)
      refine KL.out.mono ?_
      rintro e w1 ⟨rfl, rfl⟩
      (try dsimp only)
      go_wp2
      go_ret
      exact ⟨by simp, Below.refl _ _⟩
    | true =>
      go_enter Try.func21, Try.ntmps21
      go_wp2_with (fail)
      refine KL.out.mono ?_
      rintro e w1 ⟨rfl, rfl⟩
      (try dsimp only)
      go_wp2_with (fail)
      refine (KG.out _).mono ?_
      rintro e w3 ⟨rfl, b3⟩
      have B3 := Lib.hid b3
      clear b3
      (try dsimp only)
      go_wp2
      go_ret
      exact ⟨by simp [h12], B3.out⟩
  · have h12i : ¬ (m : Int) ≤ 12 := by omega
    go_enter Try.func21, Try.ntmps21
    go_wp2
    go_ret
    exact ⟨by simp [h12], Below.refl _ _⟩
set_option maxHeartbeats 1000000 in
theorem sacok (b : Option Addr) (len cap2 : Nat) (zs : List Int) (gap inner : Int) (w : World) (hs : Ints w b len zs) (hsl : len ≤ 1048576) :
    Calls Try.prog 22 #[.slice b len cap2, .int .i64 gap, .int .i64 inner] w fun e w' => e = .returned (.bool (acOk zs gap inner)) ∧ Below w.heap.size w w' := by
  have hzl : zs.length = len := hs.1
  subst hzl
  have HS := Lib.hid hs
  have KG := Lib.hid (fun w' => srng gap 0 1048576 w')
  have KN := Lib.hid (fun w' => srng inner 0 1048576 w')
  have hdef : acOk zs gap inner = (decide (zs.length ≤ 12) && lsOk zs && rnB gap 0 1048576 && rnB inner 0 1048576) := rfl
  rw [hdef]
  clear hdef hs
  generalize rnB gap 0 1048576 = q4 at *
  generalize rnB inner 0 1048576 = q5 at *
  go_enter Try.func22, Try.ntmps22
  go_wp2
  go_loopw [7] (fun i wr => ∃ k : Nat, k ≤ zs.length ∧ i = .int .i64 k ∧ (∀ j, j < k → rnB (zs.getD j 0) 0 1048576 = true) ∧ wr = w) (fun i _ => zs.length - (intOf i).toNat)
  case atStart => exact ⟨0, Nat.zero_le _, rfl, fun j hj => absurd hj (Nat.not_lt_zero _), rfl⟩
  case round =>
    obtain ⟨k, hk, rfl, hm, rfl⟩ := hrel
    by_cases hlt : k < zs.length
    · obtain ⟨b, off, rfl, hbl, hc⟩ := HS.out.look hlt
      have hlo : (0 : Int) ≤ (k : Int) := Int.natCast_nonneg _
      have hhi : (k : Int) < (zs.length : Int) := by omega
      have HBAD := Lib.hid (fun h => ls_bad hlt h)
      have HGOOD := Lib.hid (show rnB (zs.getD k 0) 0 1048576 = true → ∀ j, j < k + 1 → rnB (zs.getD j 0) 0 1048576 = true from fun h j hj => by
        by_cases e : j = k
        · rw [e]; exact h
        · exact hm j (by omega))
      generalize zs.getD k 0 = z at *
      have KR := Lib.hid (srng z 0 1048576 wr)
      generalize rnB z 0 1048576 = q at *
      clear hm
      go_wp2_with (fail)
      refine KR.out.mono ?_
      rintro e w1 ⟨rfl, rfl⟩
      clear KR
      cases q with
      | false =>
        have HB2 := Lib.hid (HBAD.out (by simp))
        (try dsimp only)
        go_wp2
        go_ret
        exact ⟨congrArg (fun t => Ending.returned (.bool t)) (by rw [HB2.out]; simp), Below.refl _ _⟩
      | true =>
        (try dsimp only)
        go_wp2
        go_roundw
        case rel => exact ⟨k + 1, by omega, by go_num, HGOOD.out (by simp), (by first | trivial | rfl)⟩
        case measure => simp [intOf]; omega
    · obtain rfl : k = zs.length := by omega
      have HM := Lib.hid (ls_all hm)
      clear hm
      obtain ⟨m, em⟩ : ∃ m, m = zs.length := ⟨_, rfl⟩
      rw [← em]
      have EM := Lib.hid em
      clear HS em
      by_cases h12 : m ≤ 12
      · have h12i : (m : Int) ≤ 12 := by omega
        cases q4 <;>
          (go_wp2_with (first
             | (go_at_call_of 51 gap; refine (KG.out _).mono ?_; rintro e w2 ⟨rfl, rfl⟩)
             | (go_at_call_of 51 inner; refine (KN.out _).mono ?_; rintro e w2 ⟨rfl, rfl⟩)
             | fail)
           (try go_wp2)
           go_ret
           exact ⟨congrArg (fun t => Ending.returned (.bool t)) (by rw [HM.out, ← EM.out]; simp [h12]), Below.refl _ _⟩)
      · have h12i : ¬ (m : Int) ≤ 12 := by omega
        go_wp2
        go_ret
        exact ⟨congrArg (fun t => Ending.returned (.bool t)) (by rw [HM.out, ← EM.out]; simp [h12]), Below.refl _ _⟩
end Go.Proofs.Ytnncdpkmhpjmbaa
end

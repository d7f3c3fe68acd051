import Derived.Test.YtnncdpkmhpjmbaaZnAZ
section
namespace Go.Proofs.Ytnncdpkmhpjmbaa
open Go.ChangeShapes Go.WideShapes Go.ChangeAt Go.RowKit
set_option linter.unusedVariables false
set_option linter.unusedSimpArgs false
set_option maxRecDepth 8000

theorem pc_4 (free many : Int) : pcV free many 4 = evnL free (many - 1) := by unfold pcV; rw [if_pos rfl]
theorem pc_5 (free many : Int) : pcV free many 5 = evnL free (2 * many) := by unfold pcV; rw [if_neg (by decide), if_pos rfl]
theorem pc_6 (free many : Int) : pcV free many 6 = evnL free (many + 1) := by unfold pcV; rw [if_neg (by decide), if_neg (by decide), if_pos rfl]
theorem pc_no {free many js : Int} (h4 : js ≠ 4) (h5 : js ≠ 5) (h6 : js ≠ 6) : pcV free many js = [] := by unfold pcV; rw [if_neg h4, if_neg h5, if_neg h6]
theorem pc_all (free many js : Int) : AllI (pcV free many js) := by
  unfold pcV
  (repeat' split) <;> first | exact evn_all _ _ | (intro z hz; cases hz)
theorem ld_no {free many js : Int} (h : rnB many 1 12 = false) : ldV free many js = 0 := by unfold ldV; rw [if_neg (by rw [h]; decide)]
theorem ld_2 {free many : Int} (h : rnB many 1 12 = true) : ldV free many 2 = free := by unfold ldV; rw [if_pos h, if_pos rfl]
theorem ld_3 {free many : Int} (h : rnB many 1 12 = true) : ldV free many 3 = fdI free 2 := by unfold ldV; rw [if_pos h, if_neg (by decide), if_pos rfl]
theorem ld_5n {free many : Int} (h : rnB many 1 12 = true) (hf : free < 0) : ldV free many 5 = fdI free 2 := by unfold ldV; rw [if_pos h, if_neg (by decide), if_neg (by decide), if_pos rfl, if_pos hf]
theorem ld_5p {free many : Int} (h : rnB many 1 12 = true) (hf : ¬ free < 0) : ldV free many 5 = (evnL free (2 * many)).getD 0 0 := by unfold ldV; rw [if_pos h, if_neg (by decide), if_neg (by decide), if_pos rfl, if_neg hf]
theorem ld_6n {free many : Int} (h : rnB many 1 12 = true) (hf : free < 0) : ldV free many 6 = fdI free 2 := by unfold ldV; rw [if_pos h, if_neg (by decide), if_neg (by decide), if_neg (by decide), if_pos rfl, if_pos hf]
theorem ld_6p {free many : Int} (h : rnB many 1 12 = true) (hf : ¬ free < 0) : ldV free many 6 = (evnL free (many + 1)).getD 0 0 := by unfold ldV; rw [if_pos h, if_neg (by decide), if_neg (by decide), if_neg (by decide), if_pos rfl, if_neg hf]
theorem ld_else {free many js : Int} (h2 : js ≠ 2) (h3 : js ≠ 3) (h5 : js ≠ 5) (h6 : js ≠ 6) : ldV free many js = 0 := by
  unfold ldV
  simp [h2, h3, h5, h6]
theorem evn_lenI {n many : Int} (h0 : 0 ≤ many) (h1 : many ≤ 64) : (evnL n many).length = many.toNat := by
  obtain ⟨k, rfl⟩ := Int.eq_ofNat_of_zero_le h0
  exact evn_len (by omega)

set_option maxHeartbeats 1000000 in
theorem ipieces (free many js : Int) (w : World) (h0 : 0 ≤ many) (h1 : many ≤ 12) :
    Calls Try.prog 91 #[.int .i64 free, .int .i64 many, .int .i64 js] w (OutPost (pcV free many js) w) := by
  by_cases h4 : js = 4
  · subst h4
    rw [pc_4]
    have KK := Lib.hid (iev_any free (many - 1) w)
    generalize evnL free (many - 1) = E at *
    go_enter Try.func91, Try.ntmps91
    go_wp2_with (fail)
    refine KK.out.mono ?_
    rintro e w1 ⟨v, rfl, r, b⟩
    have R := Lib.hid r
    have B := Lib.hid b
    clear r b KK
    go_wp2
    go_ret
    exact ⟨v, rfl, R.out, B.out⟩
  by_cases h5 : js = 5
  · subst h5
    rw [pc_5]
    have KK := Lib.hid (iev_any free (2 * many) w)
    generalize evnL free (2 * many) = E at *
    go_enter Try.func91, Try.ntmps91
    go_wp2_with (fail)
    refine KK.out.mono ?_
    rintro e w1 ⟨v, rfl, r, b⟩
    have R := Lib.hid r
    have B := Lib.hid b
    clear r b KK
    go_wp2
    go_ret
    exact ⟨v, rfl, R.out, B.out⟩
  by_cases h6 : js = 6
  · subst h6
    rw [pc_6]
    have KK := Lib.hid (iev_any free (many + 1) w)
    generalize evnL free (many + 1) = E at *
    go_enter Try.func91, Try.ntmps91
    go_wp2_with (fail)
    refine KK.out.mono ?_
    rintro e w1 ⟨v, rfl, r, b⟩
    have R := Lib.hid r
    have B := Lib.hid b
    clear r b KK
    go_wp2
    go_ret
    exact ⟨v, rfl, R.out, B.out⟩
  rw [pc_no h4 h5 h6]
  go_enter Try.func91, Try.ntmps91
  go_wp2
  go_ret
  exact ⟨_, rfl, World.ownsRow_nil w w.heap.size 3 1, Below.refl _ _⟩
theorem sfirst (v : Value) (b : Nat) (xs : List Int) (w : World) (hx : AllI xs) (hl : xs.length ≤ 1048576) (hr : RowI b v xs w) :
    Calls Try.prog 66 #[v] w fun e w' => e = .returned (.int .i64 (xs.getD 0 0)) ∧ w' = w := by
  obtain ⟨a, cap, rfl, hi⟩ := hr.slice hx
  clear hr hx
  by_cases h0 : xs.length = 0
  · obtain rfl : xs = [] := List.length_eq_zero_iff.1 h0
    clear hi
    go_enter Try.func66, Try.ntmps66
    go_wp2
    go_ret
    exact ⟨rfl, rfl⟩
  · obtain ⟨b', off, rfl, hbl, hc⟩ := hi.look (k := 0) (by omega)
    have hlo : (0 : Int) < (xs.length : Int) := by omega
    have hne : ¬ (xs.length : Int) = 0 := by omega
    clear hi
    rw [Nat.add_zero] at hc
    generalize xs.getD 0 0 = z at *
    go_enter Try.func66, Try.ntmps66
    go_wp2
    go_ret
    exact ⟨rfl, rfl⟩
set_option maxHeartbeats 1000000 in
theorem ilead (free many js : Int) (w : World) (f0 : -9223372036854775808 ≤ free) (f1 : free ≤ 9223372036854775807) :
    Calls Try.prog 90 #[.int .i64 free, .int .i64 many, .int .i64 js] w fun e w' => e = .returned (.int .i64 (ldV free many js)) ∧ Below w.heap.size w w' := by
  cases hin : rnB many 1 12 with
  | false =>
    rw [ld_no hin]
    have KR := Lib.hid (irng many 1 12 w)
    rw [hin] at KR
    go_enter Try.func90, Try.ntmps90
    go_wp2_with (fail)
    refine KR.out.mono ?_
    rintro e w1 ⟨rfl, rfl⟩
    clear KR
    (try dsimp only)
    go_wp2
    go_ret
    exact ⟨rfl, Below.refl _ _⟩
  | true =>
    have hr := of_decide_eq_true hin
    by_cases h2 : js = 2
    · subst h2
      rw [ld_2 hin]
      have KR := Lib.hid (irng many 1 12 w)
      rw [hin] at KR
      go_enter Try.func90, Try.ntmps90
      go_wp2_with (fail)
      refine KR.out.mono ?_
      rintro e w1 ⟨rfl, rfl⟩
      clear KR
      (try dsimp only)
      go_wp2
      go_ret
      exact ⟨rfl, Below.refl _ _⟩
    by_cases h3 : js = 3
    · subst h3
      rw [ld_3 hin]
      have KF := Lib.hid (ifd_any free 2 w f0 f1)
      generalize fdI free 2 = q at *
      have KR := Lib.hid (irng many 1 12 w)
      rw [hin] at KR
      go_enter Try.func90, Try.ntmps90
      go_wp2_with (fail)
      refine KR.out.mono ?_
      rintro e w1 ⟨rfl, rfl⟩
      clear KR
      (try dsimp only)
      go_wp2_with (fail)
      refine KF.out.mono ?_
      rintro e w2 ⟨rfl, rfl⟩
      clear KF
      go_wp2
      go_ret
      exact ⟨rfl, Below.refl _ _⟩
    by_cases h5 : js = 5
    · subst h5
      by_cases hf : free < 0
      · rw [ld_5n hin hf]
        have KF := Lib.hid (ifd_any free 2 w f0 f1)
        generalize fdI free 2 = q at *
        have KR := Lib.hid (irng many 1 12 w)
        rw [hin] at KR
        go_enter Try.func90, Try.ntmps90
        go_wp2_with (fail)
        refine KR.out.mono ?_
        rintro e w1 ⟨rfl, rfl⟩
        clear KR
        (try dsimp only)
        go_wp2_with (fail)
        refine KF.out.mono ?_
        rintro e w2 ⟨rfl, rfl⟩
        clear KF
        go_wp2
        go_ret
        exact ⟨rfl, Below.refl _ _⟩
      · rw [ld_5p hin hf, ← pc_5]
        have KP := Lib.hid (ipieces free many 5 w (by omega) (by omega))
        have hall := pc_all free many 5
        have hlen : 0 < (pcV free many 5).length := by rw [pc_5, evn_lenI (by omega) (by omega)]; omega
        generalize pcV free many 5 = E at *
        have HALL := Lib.hid hall
        obtain ⟨z, ez⟩ : ∃ z, z = E.getD 0 0 := ⟨_, rfl⟩
        rw [← ez]
        have EZ := Lib.hid ez
        clear hall ez
        have KR := Lib.hid (irng many 1 12 w)
        rw [hin] at KR
        go_enter Try.func90, Try.ntmps90
        go_wp2_with (fail)
        refine KR.out.mono ?_
        rintro e w1 ⟨rfl, rfl⟩
        clear KR
        (try dsimp only)
        go_wp2_with (fail)
        refine KP.out.mono ?_
        rintro e w2 ⟨v, rfl, r, b⟩
        obtain ⟨a2, c2, rfl, hi⟩ := r.slice HALL.out
        obtain ⟨b2, o2, rfl, hbl, hc⟩ := hi.look hlen
        have hln : (0 : Int) < (E.length : Int) := by omega
        have B := Lib.hid b
        rw [Nat.add_zero, ← EZ.out] at hc
        clear r b hi KP
        (try dsimp only)
        go_wp2
        go_ret
        exact ⟨rfl, B.out⟩
    by_cases h6 : js = 6
    · subst h6
      by_cases hf : free < 0
      · rw [ld_6n hin hf]
        have KF := Lib.hid (ifd_any free 2 w f0 f1)
        generalize fdI free 2 = q at *
        have KR := Lib.hid (irng many 1 12 w)
        rw [hin] at KR
        go_enter Try.func90, Try.ntmps90
        go_wp2_with (fail)
        refine KR.out.mono ?_
        rintro e w1 ⟨rfl, rfl⟩
        clear KR
        (try dsimp only)
        go_wp2_with (fail)
        refine KF.out.mono ?_
        rintro e w2 ⟨rfl, rfl⟩
        clear KF
        go_wp2
        go_ret
        exact ⟨rfl, Below.refl _ _⟩
      · rw [ld_6p hin hf, ← pc_6]
        have KP := Lib.hid (ipieces free many 6 w (by omega) (by omega))
        have hall := pc_all free many 6
        have hlen : 0 < (pcV free many 6).length := by rw [pc_6, evn_lenI (by omega) (by omega)]; omega
        generalize pcV free many 6 = E at *
        have HALL := Lib.hid hall
        obtain ⟨z, ez⟩ : ∃ z, z = E.getD 0 0 := ⟨_, rfl⟩
        rw [← ez]
        have EZ := Lib.hid ez
        clear hall ez
        have KR := Lib.hid (irng many 1 12 w)
        rw [hin] at KR
        go_enter Try.func90, Try.ntmps90
        go_wp2_with (fail)
        refine KR.out.mono ?_
        rintro e w1 ⟨rfl, rfl⟩
        clear KR
        (try dsimp only)
        go_wp2_with (fail)
        refine KP.out.mono ?_
        rintro e w2 ⟨v, rfl, r, b⟩
        obtain ⟨a2, c2, rfl, hi⟩ := r.slice HALL.out
        obtain ⟨b2, o2, rfl, hbl, hc⟩ := hi.look hlen
        have hln : (0 : Int) < (E.length : Int) := by omega
        have B := Lib.hid b
        rw [Nat.add_zero, ← EZ.out] at hc
        clear r b hi KP
        (try dsimp only)
        go_wp2
        go_ret
        exact ⟨rfl, B.out⟩
    rw [ld_else h2 h3 h5 h6]
    have KR := Lib.hid (irng many 1 12 w)
    rw [hin] at KR
    go_enter Try.func90, Try.ntmps90
    go_wp2_with (fail)
    refine KR.out.mono ?_
    rintro e w1 ⟨rfl, rfl⟩
    clear KR
    (try dsimp only)
    go_wp2
    go_ret
    exact ⟨rfl, Below.refl _ _⟩
set_option maxHeartbeats 1000000 in
theorem slead (free many js : Int) (w : World) (f0 : -9223372036854775808 ≤ free) (f1 : free ≤ 9223372036854775807) :
    Calls Try.prog 45 #[.int .i64 free, .int .i64 many, .int .i64 js] w fun e w' => e = .returned (.int .i64 (ldV free many js)) ∧ Below w.heap.size w w' := by
  cases hin : rnB many 1 12 with
  | false =>
    rw [ld_no hin]
    have KR := Lib.hid (srng many 1 12 w)
    rw [hin] at KR
    go_enter Try.func45, Try.ntmps45
    go_wp2_with (fail)
    refine KR.out.mono ?_
    rintro e w1 ⟨rfl, rfl⟩
    clear KR
    (try dsimp only)
    go_wp2
    go_ret
    exact ⟨rfl, Below.refl _ _⟩
  | true =>
    have hr := of_decide_eq_true hin
    by_cases h2 : js = 2
    · subst h2
      rw [ld_2 hin]
      have KR := Lib.hid (srng many 1 12 w)
      rw [hin] at KR
      go_enter Try.func45, Try.ntmps45
      go_wp2_with (fail)
      refine KR.out.mono ?_
      rintro e w1 ⟨rfl, rfl⟩
      clear KR
      (try dsimp only)
      go_wp2
      go_ret
      exact ⟨rfl, Below.refl _ _⟩
    by_cases h3 : js = 3
    · subst h3
      rw [ld_3 hin]
      have KF := Lib.hid (sfd_any free 2 w f0 f1)
      generalize fdI free 2 = q at *
      have KR := Lib.hid (srng many 1 12 w)
      rw [hin] at KR
      go_enter Try.func45, Try.ntmps45
      go_wp2_with (fail)
      refine KR.out.mono ?_
      rintro e w1 ⟨rfl, rfl⟩
      clear KR
      (try dsimp only)
      go_wp2_with (fail)
      refine KF.out.mono ?_
      rintro e w2 ⟨rfl, rfl⟩
      clear KF
      go_wp2
      go_ret
      exact ⟨rfl, Below.refl _ _⟩
    by_cases h5 : js = 5
    · subst h5
      by_cases hf : free < 0
      · rw [ld_5n hin hf]
        have KF := Lib.hid (sfd_any free 2 w f0 f1)
        generalize fdI free 2 = q at *
        have KR := Lib.hid (srng many 1 12 w)
        rw [hin] at KR
        go_enter Try.func45, Try.ntmps45
        go_wp2_with (fail)
        refine KR.out.mono ?_
        rintro e w1 ⟨rfl, rfl⟩
        clear KR
        (try dsimp only)
        go_wp2_with (fail)
        refine KF.out.mono ?_
        rintro e w2 ⟨rfl, rfl⟩
        clear KF
        go_wp2
        go_ret
        exact ⟨rfl, Below.refl _ _⟩
      · rw [ld_5p hin hf]
        have KP := Lib.hid (sev_any free (2 * many) w)
        have hall := evn_all free (2 * many)
        have hlen : (evnL free (2 * many)).length ≤ 1048576 := by rw [evn_lenI (by omega) (by omega)]; omega
        generalize evnL free (2 * many) = E at *
        have KS := Lib.hid (fun (v : Value) (w2 : World) (r : RowI w.heap.size v E w2) => sfirst v _ E w2 hall hlen r)
        generalize E.getD 0 0 = z at *
        clear hall hlen
        have KR := Lib.hid (srng many 1 12 w)
        rw [hin] at KR
        go_enter Try.func45, Try.ntmps45
        go_wp2_with (fail)
        refine KR.out.mono ?_
        rintro e w1 ⟨rfl, rfl⟩
        clear KR
        (try dsimp only)
        go_wp2_with (fail)
        refine KP.out.mono ?_
        rintro e w2 ⟨v, rfl, r, b⟩
        have KS2 := Lib.hid (KS.out v w2 r)
        have B := Lib.hid b
        clear r b KP
        (try dsimp only)
        go_wp2_with (fail)
        refine KS2.out.mono ?_
        rintro e w3 ⟨rfl, rfl⟩
        clear KS KS2
        go_wp2
        go_ret
        exact ⟨rfl, B.out⟩
    by_cases h6 : js = 6
    · subst h6
      by_cases hf : free < 0
      · rw [ld_6n hin hf]
        have KF := Lib.hid (sfd_any free 2 w f0 f1)
        generalize fdI free 2 = q at *
        have KR := Lib.hid (srng many 1 12 w)
        rw [hin] at KR
        go_enter Try.func45, Try.ntmps45
        go_wp2_with (fail)
        refine KR.out.mono ?_
        rintro e w1 ⟨rfl, rfl⟩
        clear KR
        (try dsimp only)
        go_wp2_with (fail)
        refine KF.out.mono ?_
        rintro e w2 ⟨rfl, rfl⟩
        clear KF
        go_wp2
        go_ret
        exact ⟨rfl, Below.refl _ _⟩
      · rw [ld_6p hin hf]
        have KP := Lib.hid (sev_any free (many + 1) w)
        have hall := evn_all free (many + 1)
        have hlen : (evnL free (many + 1)).length ≤ 1048576 := by rw [evn_lenI (by omega) (by omega)]; omega
        generalize evnL free (many + 1) = E at *
        have KS := Lib.hid (fun (v : Value) (w2 : World) (r : RowI w.heap.size v E w2) => sfirst v _ E w2 hall hlen r)
        generalize E.getD 0 0 = z at *
        clear hall hlen
        have KR := Lib.hid (srng many 1 12 w)
        rw [hin] at KR
        go_enter Try.func45, Try.ntmps45
        go_wp2_with (fail)
        refine KR.out.mono ?_
        rintro e w1 ⟨rfl, rfl⟩
        clear KR
        (try dsimp only)
        go_wp2_with (fail)
        refine KP.out.mono ?_
        rintro e w2 ⟨v, rfl, r, b⟩
        have KS2 := Lib.hid (KS.out v w2 r)
        have B := Lib.hid b
        clear r b KP
        (try dsimp only)
        go_wp2_with (fail)
        refine KS2.out.mono ?_
        rintro e w3 ⟨rfl, rfl⟩
        clear KS KS2
        go_wp2
        go_ret
        exact ⟨rfl, B.out⟩
    rw [ld_else h2 h3 h5 h6]
    have KR := Lib.hid (srng many 1 12 w)
    rw [hin] at KR
    go_enter Try.func45, Try.ntmps45
    go_wp2_with (fail)
    refine KR.out.mono ?_
    rintro e w1 ⟨rfl, rfl⟩
    clear KR
    (try dsimp only)
    go_wp2
    go_ret
    exact ⟨rfl, Below.refl _ _⟩
end Go.Proofs.Ytnncdpkmhpjmbaa
end

/-
  Lists of Sides: whether they are valid, where their base line lies, how high a line of them is (sideListOk, BaseOf, CrossOf). Conditions: the length's bound.
-/
import Derived.Test.YtdpibpelghnihaaSaP
import Derived.Test.YtdpibpelghnihaaSaR
import Derived.Lib.QuietBelow
namespace Go.Proofs.Ytdpibpelghnihaa
open Go.ChangeShapes Go.WideShapes Go.ChangeAt Go.RowKit
set_option linter.unusedVariables false
set_option linter.unusedSimpArgs false
set_option maxRecDepth 8000

set_option maxHeartbeats 2000000 in
theorem isasok (a : Option Addr) (cap : Nat) (xs : List Sa) (w : World) (hz : Sas w a xs) (hl : xs.length ≤ 4611686018427387904) :
    Calls Try.prog 34 #[.slice a xs.length cap] w fun e w' => e = .returned (.bool (sasOk xs)) ∧ Below w.heap.size w w' := by
  have HZ := Lib.hid hz
  clear hz
  by_cases h16 : xs.length ≤ 12
  · go_enter Try.func34, Try.ntmps34
    go_wp2
    go_loopw [10] (fun i wr => ∃ k : Nat, k ≤ xs.length ∧ i = .int .i64 k ∧ (∀ j, j < k → saOk (saD xs j) = true) ∧ Below w.heap.size w wr) (fun i _ => xs.length - (intOf i).toNat)
    case atStart => exact ⟨0, Nat.zero_le _, rfl, fun j hj => absurd hj (Nat.not_lt_zero _), Below.refl _ _⟩
    case round =>
      obtain ⟨k, hk, rfl, hm, hb⟩ := hrel
      by_cases hlt : k < xs.length
      · obtain ⟨b, off, rfl, hbl, hrg⟩ := (HZ.out.below hb).look hlt
        have hlo : (0 : Int) ≤ (k : Int) := Int.natCast_nonneg _
        have hhi : (k : Int) < (xs.length : Int) := by omega
        have hbad : saOk (saD xs k) = false → sasOk xs = false := fun h => by unfold sasOk; rw [sas_bad hlt h, Bool.and_false]
        have hgood : saOk (saD xs k) = true → ∀ j, j < k + 1 → saOk (saD xs j) = true := fun h j hj => by
          by_cases e : j = k
          · rw [e]; exact h
          · exact hm j (by omega)
        generalize saD xs k = x at *
        obtain ⟨v, ev⟩ : ∃ v, v = wr.alloc (.cells #[.int .i64 x.size, .int .i64 x.before, .int .i64 x.behind, .bool x.ab, .bool x.ah, .int .i64 x.al, .int .i64 x.base] 25) := ⟨_, rfl⟩
        have hown : v.heap[wr.heap.size]? = some (.cells #[.int .i64 x.size, .int .i64 x.before, .int .i64 x.behind, .bool x.ab, .bool x.ah, .int .i64 x.al, .int .i64 x.base] 25) := ev ▸ hp_new wr _
        have hbv := Lib.hid (ev ▸ hb.alloc hb.size (.cells #[.int .i64 x.size, .int .i64 x.before, .int .i64 x.behind, .bool x.ab, .bool x.ah, .int .i64 x.al, .int .i64 x.base] 25) : Below w.heap.size w v)
        have N0 : v.cell? ⟨wr.heap.size, 0, none⟩ = some (.int .i64 x.size) := Go.Joins.cell_of_block hown 0
        have N1 : v.cell? ⟨wr.heap.size, 1, none⟩ = some (.int .i64 x.before) := Go.Joins.cell_of_block hown 1
        have N2 : v.cell? ⟨wr.heap.size, 2, none⟩ = some (.int .i64 x.behind) := Go.Joins.cell_of_block hown 2
        have N3 : v.cell? ⟨wr.heap.size, 3, none⟩ = some (.bool x.ab) := Go.Joins.cell_of_block hown 3
        have N4 : v.cell? ⟨wr.heap.size, 4, none⟩ = some (.bool x.ah) := Go.Joins.cell_of_block hown 4
        have N5 : v.cell? ⟨wr.heap.size, 5, none⟩ = some (.int .i64 x.al) := Go.Joins.cell_of_block hown 5
        have N6 : v.cell? ⟨wr.heap.size, 6, none⟩ = some (.int .i64 x.base) := Go.Joins.cell_of_block hown 6
        have RG := Lib.hid hrg
        have EV := Lib.hid ev
        clear ev hb hrg
        have kr := isaok x v
        generalize saOk x = q at *
        have KR := Lib.hid kr
        have HBAD := Lib.hid hbad
        have HGOOD := Lib.hid hgood
        clear hm hbad hgood kr hown
        go_wp2_with (first
          | ((with_reducible apply list_load_sa); exact rfl; exact rfl; exact rfl; (with_reducible exact RG.out); simp only [Act.put, List.setIfInBounds_toArray, List.set_cons_succ, List.set_cons_zero])
          | (rw [← EV.out])
          | fail)
        refine KR.out.mono ?_
        rintro e w2 ⟨rfl, b2⟩
        have B2 := Lib.hid (hbv.out.trans (b2.mono hbv.out.size))
        clear b2 KR
        dsimp only
        cases q with
        | false =>
          go_wp2
          go_ret
          exact ⟨congrArg (fun t => Ending.returned (.bool t)) (HBAD.out (by simp)).symm, B2.out⟩
        | true =>
          go_wp2
          go_roundw
          case rel => exact ⟨k + 1, by omega, by go_num, HGOOD.out (by simp), B2.out⟩
          case measure => simp [intOf]; omega
      · obtain rfl : k = xs.length := by omega
        have HM := Lib.hid (sas_all hm)
        clear hm
        go_wp2
        go_ret
        exact ⟨congrArg (fun t => Ending.returned (.bool t)) (by unfold sasOk; rw [HM.out, decide_eq_true h16]; rfl), hb⟩
  · go_enter Try.func34, Try.ntmps34
    go_wp2
    go_ret
    exact ⟨congrArg (fun t => Ending.returned (.bool t)) (by unfold sasOk; rw [decide_eq_false h16]; rfl), Below.refl _ _⟩
set_option maxHeartbeats 4000000 in
theorem ibaseof (a : Option Addr) (cap : Nat) (xs : List Sa) (w : World) (hz : Sas w a xs) (hl : xs.length ≤ 4611686018427387904) :
    Calls Try.prog 15 #[.slice a xs.length cap] w fun e w' => e = .returned (.int .i64 (baV xs)) ∧ Below w.heap.size w w' := by
  have HZ := Lib.hid hz
  clear hz
  go_enter Try.func15, Try.ntmps15
  go_wp2
  go_loopw [3, 4, 10] (fun n s i wr => ∃ k : Nat, k ≤ xs.length ∧ n = .int .i64 (baN xs k) ∧ s = .bool (baS xs k) ∧ i = .int .i64 k ∧ Below w.heap.size w wr) (fun _ _ i _ => xs.length - (intOf i).toNat)
  case atStart => exact ⟨0, Nat.zero_le _, rfl, by rw [baS_zero], rfl, Below.refl _ _⟩
  case round =>
    obtain ⟨k, hk, rfl, rfl, rfl, hb⟩ := hrel
    by_cases hlt : k < xs.length
    · obtain ⟨b, off, rfl, hbl, hrg⟩ := (HZ.out.below hb).look hlt
      have hlo : (0 : Int) ≤ (k : Int) := Int.natCast_nonneg _
      have hhi : (k : Int) < (xs.length : Int) := by omega
      have HN := Lib.hid (baN_next xs k)
      have HS := Lib.hid (baS_next xs k hlt)
      generalize saD xs k = x at *
      generalize baN xs k = n at *
      generalize baS xs k = s at *
      obtain ⟨v, ev⟩ : ∃ v, v = wr.alloc (.cells #[.int .i64 x.size, .int .i64 x.before, .int .i64 x.behind, .bool x.ab, .bool x.ah, .int .i64 x.al, .int .i64 x.base] 25) := ⟨_, rfl⟩
      have hown : v.heap[wr.heap.size]? = some (.cells #[.int .i64 x.size, .int .i64 x.before, .int .i64 x.behind, .bool x.ab, .bool x.ah, .int .i64 x.al, .int .i64 x.base] 25) := ev ▸ hp_new wr _
      have hbv := Lib.hid (ev ▸ hb.alloc hb.size (.cells #[.int .i64 x.size, .int .i64 x.before, .int .i64 x.behind, .bool x.ab, .bool x.ah, .int .i64 x.al, .int .i64 x.base] 25) : Below w.heap.size w v)
      have N0 : v.cell? ⟨wr.heap.size, 0, none⟩ = some (.int .i64 x.size) := Go.Joins.cell_of_block hown 0
      have N1 : v.cell? ⟨wr.heap.size, 1, none⟩ = some (.int .i64 x.before) := Go.Joins.cell_of_block hown 1
      have N2 : v.cell? ⟨wr.heap.size, 2, none⟩ = some (.int .i64 x.behind) := Go.Joins.cell_of_block hown 2
      have N3 : v.cell? ⟨wr.heap.size, 3, none⟩ = some (.bool x.ab) := Go.Joins.cell_of_block hown 3
      have N4 : v.cell? ⟨wr.heap.size, 4, none⟩ = some (.bool x.ah) := Go.Joins.cell_of_block hown 4
      have N5 : v.cell? ⟨wr.heap.size, 5, none⟩ = some (.int .i64 x.al) := Go.Joins.cell_of_block hown 5
      have N6 : v.cell? ⟨wr.heap.size, 6, none⟩ = some (.int .i64 x.base) := Go.Joins.cell_of_block hown 6
      have RG := Lib.hid hrg
      have EV := Lib.hid ev
      clear ev hb hrg
      have KR := Lib.hid (ison x v)
      have HQ := Lib.hid (rfl : saOn x = saOn x)
      generalize hq : saOn x = q at KR
      have HQ := Lib.hid hq
      clear hq hown
      go_wp2_with (first
        | ((with_reducible apply list_load_sa); exact rfl; exact rfl; exact rfl; (with_reducible exact RG.out); simp only [Act.put, List.setIfInBounds_toArray, List.set_cons_succ, List.set_cons_zero])
        | (rw [← EV.out])
        | fail)
      refine KR.out.mono ?_
      rintro e w2 ⟨rfl, b2⟩
      have B2 := Lib.hid (hbv.out.trans (b2.mono hbv.out.size))
      clear b2 KR N0 N1 N2 N3 N4 N5 N6
      (try dsimp only)
      cases q
      · go_wp2
        go_roundw
        case rel => exact ⟨k + 1, by omega, by rw [HN.out]; unfold baT; rw [HQ.out]; first | (simp; done) | (intro h; have := of_decide_eq_true h; omega) | (simp [baO]; intro h; (try replace h := of_decide_eq_true h); omega), by rw [HS.out, HQ.out]; simp, by go_num, B2.out⟩
        case measure => simp [intOf]; omega
      cases s
      · go_wp2
        go_roundw
        case rel => exact ⟨k + 1, by omega, by rw [HN.out]; unfold baT; rw [HQ.out]; first | (simp [baO]; done) | (intro h; have := of_decide_eq_true h; omega) | (simp [baO]; intro h; (try replace h := of_decide_eq_true h); omega), by rw [HS.out, HQ.out]; simp, by go_num, B2.out⟩
        case measure => simp [intOf]; omega
      by_cases hgt : n < wrap64 (x.before + x.base)
      · go_wp2
        go_roundw
        case rel => exact ⟨k + 1, by omega, by rw [HN.out]; unfold baT; rw [HQ.out]; first | (simp [baO, hgt]; done) | (intro h; have := of_decide_eq_true h; omega) | (simp [baO]; intro h; (try replace h := of_decide_eq_true h); omega), by rw [HS.out, HQ.out]; simp, by go_num, B2.out⟩
        case measure => simp [intOf]; omega
      · go_wp2
        go_roundw
        case rel => exact ⟨k + 1, by omega, by rw [HN.out]; unfold baT; rw [HQ.out]; first | (simp [baO, hgt]; done) | (intro h; have := of_decide_eq_true h; omega) | (simp [baO]; intro h; (try replace h := of_decide_eq_true h); omega), by rw [HS.out, HQ.out]; simp, by go_num, B2.out⟩
        case measure => simp [intOf]; omega
    · obtain rfl : k = xs.length := by omega
      go_wp2
      go_ret
      exact ⟨rfl, hb⟩
set_option maxHeartbeats 4000000 in
theorem sbaseof (a : Option Addr) (cap : Nat) (xs : List Sa) (w : World) (hz : Sas w a xs) (hl : xs.length ≤ 4611686018427387904) :
    Calls Try.prog 18 #[.slice a xs.length cap] w fun e w' => e = .returned (.int .i64 (baV xs)) ∧ Below w.heap.size w w' := by
  have HZ := Lib.hid hz
  clear hz
  go_enter Try.func18, Try.ntmps18
  go_wp2
  go_loopw [3, 4, 5] (fun n s i wr => ∃ k : Nat, k ≤ xs.length ∧ n = .int .i64 (baN xs k) ∧ s = .bool (baS xs k) ∧ i = .int .i64 k ∧ Below w.heap.size w wr) (fun _ _ i _ => xs.length - (intOf i).toNat)
  case atStart => exact ⟨0, Nat.zero_le _, rfl, by rw [baS_zero], rfl, Below.refl _ _⟩
  case round =>
    obtain ⟨k, hk, rfl, rfl, rfl, hb⟩ := hrel
    by_cases hlt : k < xs.length
    · obtain ⟨b, off, rfl, hbl, hrg⟩ := (HZ.out.below hb).look hlt
      have hlo : (0 : Int) ≤ (k : Int) := Int.natCast_nonneg _
      have hhi : (k : Int) < (xs.length : Int) := by omega
      have HN := Lib.hid (baN_next xs k)
      have HS := Lib.hid (baS_next xs k hlt)
      generalize saD xs k = x at *
      generalize baN xs k = n at *
      generalize baS xs k = s at *
      have HB := Lib.hid hb
      clear hb
      obtain ⟨N0, N1, N2, N3, N4, N5, N6⟩ := rg_sa hrg
      have RG := Lib.hid hrg
      have q1 := fun d os => cell_regrown N1 d os
      have q6 := fun d os => cell_regrown N6 d os
      have KR := Lib.hid (fun w => sson x w)
      generalize hq : saOn x = q at KR
      have HQ := Lib.hid hq
      clear hq
      cases q
      · go_wp2_with (fail)
        refine wp_region_quiet_below (by kernel_rfl) (by kernel_rfl) ?_
        repeat (first
          | (go_big_quiet_want; (with_reducible apply quiet_rga (x := x)); exact rfl; exact rfl; (with_reducible exact RG.out); simp only [Act.put, List.setIfInBounds_toArray, List.set_cons_succ, List.set_cons_zero]; go_big_quiet_on)
          | go_big_quiet_step (first | (go_at_call 22; exact Calls.regrown_of (KR.out _)) | fail))
        refine wpQuiet_nil ?_
        intro _ hw'
        obtain ⟨⟨dq7, osq7⟩, hw''⟩ := hw'
        subst hw''
        have B7 := Lib.hid (HB.out.trans ((below_regrown wr dq7 osq7).mono HB.out.size))
        clear q1 q6 KR
        (try dsimp only)
        go_wp2
        go_roundw
        case rel => exact ⟨k + 1, by omega, by rw [HN.out]; unfold baT; rw [HQ.out]; first | (simp; done) | (intro h; have := of_decide_eq_true h; omega) | (simp [baO]; intro h; (try replace h := of_decide_eq_true h); omega), by rw [HS.out, HQ.out]; simp, by go_num, B7.out⟩
        case measure => simp [intOf]; omega
      cases s
      · go_wp2_with (fail)
        refine wp_region_quiet_below (by kernel_rfl) (by kernel_rfl) ?_
        repeat (first
          | (go_big_quiet_want; (with_reducible apply quiet_rga (x := x)); exact rfl; exact rfl; (with_reducible exact RG.out); simp only [Act.put, List.setIfInBounds_toArray, List.set_cons_succ, List.set_cons_zero]; go_big_quiet_on)
          | go_big_quiet_step (first | (go_at_call 22; exact Calls.regrown_of (KR.out _)) | fail))
        refine wpQuiet_nil ?_
        intro _ hw'
        obtain ⟨⟨dq7, osq7⟩, hw''⟩ := hw'
        subst hw''
        have B7 := Lib.hid (HB.out.trans ((below_regrown wr dq7 osq7).mono HB.out.size))
        clear q1 q6 KR
        (try dsimp only)
        have b7 := below_regrown wr dq7 osq7
        have hrg7 := rg_below RG.out b7
        have m1 := cell_sa N1 b7
        have m6 := cell_sa N6 b7
        clear N0 N1 N2 N3 N4 N5 N6 RG hrg
        obtain ⟨w7, ew7⟩ : ∃ w7, w7 = Sort.grow (redrawn wr dq7) osq7 := ⟨_, rfl⟩
        rw [← ew7] at m1 m6 hrg7 B7 ⊢
        clear ew7 b7
        have RG := Lib.hid hrg7
        have q1 := fun d os => cell_regrown m1 d os
        have q6 := fun d os => cell_regrown m6 d os
        clear m1 m6 hrg7
        go_wp2_with (fail)
        refine wp_region_quiet_below (by kernel_rfl) (by kernel_rfl) ?_
        repeat (first
          | (go_big_quiet_want; (with_reducible apply quiet_rga (x := x)); exact rfl; exact rfl; (with_reducible exact RG.out); simp only [Act.put, List.setIfInBounds_toArray, List.set_cons_succ, List.set_cons_zero]; go_big_quiet_on)
          | go_big_quiet_step (fail))
        refine wpQuiet_nil ?_
        intro _ hw'
        obtain ⟨⟨dq8, osq8⟩, hw''⟩ := hw'
        subst hw''
        have B8 := Lib.hid (B7.out.trans ((below_regrown w7 dq8 osq8).mono B7.out.size))
        clear q1 q6
        (try dsimp only)
        go_wp2
        go_roundw
        case rel => exact ⟨k + 1, by omega, by rw [HN.out]; unfold baT; rw [HQ.out]; first | (simp [baO]; done) | (intro h; have := of_decide_eq_true h; omega) | (simp [baO]; intro h; (try replace h := of_decide_eq_true h); omega), by rw [HS.out, HQ.out]; simp, by go_num, B8.out⟩
        case measure => simp [intOf]; omega
      by_cases hgt : n < wrap64 (x.before + x.base)
      · go_wp2_with (fail)
        refine wp_region_quiet_below (by kernel_rfl) (by kernel_rfl) ?_
        repeat (first
          | (go_big_quiet_want; (with_reducible apply quiet_rga (x := x)); exact rfl; exact rfl; (with_reducible exact RG.out); simp only [Act.put, List.setIfInBounds_toArray, List.set_cons_succ, List.set_cons_zero]; go_big_quiet_on)
          | go_big_quiet_step (first | (go_at_call 22; exact Calls.regrown_of (KR.out _)) | fail))
        refine wpQuiet_nil ?_
        intro _ hw'
        obtain ⟨⟨dq7, osq7⟩, hw''⟩ := hw'
        subst hw''
        have B7 := Lib.hid (HB.out.trans ((below_regrown wr dq7 osq7).mono HB.out.size))
        clear q1 q6 KR
        (try dsimp only)
        have b7 := below_regrown wr dq7 osq7
        have hrg7 := rg_below RG.out b7
        have m1 := cell_sa N1 b7
        have m6 := cell_sa N6 b7
        clear N0 N1 N2 N3 N4 N5 N6 RG hrg
        obtain ⟨w7, ew7⟩ : ∃ w7, w7 = Sort.grow (redrawn wr dq7) osq7 := ⟨_, rfl⟩
        rw [← ew7] at m1 m6 hrg7 B7 ⊢
        clear ew7 b7
        have RG := Lib.hid hrg7
        have q1 := fun d os => cell_regrown m1 d os
        have q6 := fun d os => cell_regrown m6 d os
        clear m1 m6 hrg7
        go_wp2_with (fail)
        refine wp_region_quiet_below (by kernel_rfl) (by kernel_rfl) ?_
        repeat (first
          | (go_big_quiet_want; (with_reducible apply quiet_rga (x := x)); exact rfl; exact rfl; (with_reducible exact RG.out); simp only [Act.put, List.setIfInBounds_toArray, List.set_cons_succ, List.set_cons_zero]; go_big_quiet_on)
          | go_big_quiet_step (fail))
        refine wpQuiet_nil ?_
        intro _ hw'
        obtain ⟨⟨dq8, osq8⟩, hw''⟩ := hw'
        subst hw''
        have B8 := Lib.hid (B7.out.trans ((below_regrown w7 dq8 osq8).mono B7.out.size))
        clear q1 q6
        (try dsimp only)
        go_wp2
        go_roundw
        case rel => exact ⟨k + 1, by omega, by rw [HN.out]; unfold baT; rw [HQ.out]; first | (simp [baO, hgt]; done) | (intro h; have := of_decide_eq_true h; omega) | (simp [baO]; intro h; (try replace h := of_decide_eq_true h); omega), by rw [HS.out, HQ.out]; simp, by go_num, B8.out⟩
        case measure => simp [intOf]; omega
      · go_wp2_with (fail)
        refine wp_region_quiet_below (by kernel_rfl) (by kernel_rfl) ?_
        repeat (first
          | (go_big_quiet_want; (with_reducible apply quiet_rga (x := x)); exact rfl; exact rfl; (with_reducible exact RG.out); simp only [Act.put, List.setIfInBounds_toArray, List.set_cons_succ, List.set_cons_zero]; go_big_quiet_on)
          | go_big_quiet_step (first | (go_at_call 22; exact Calls.regrown_of (KR.out _)) | fail))
        refine wpQuiet_nil ?_
        intro _ hw'
        obtain ⟨⟨dq7, osq7⟩, hw''⟩ := hw'
        subst hw''
        have B7 := Lib.hid (HB.out.trans ((below_regrown wr dq7 osq7).mono HB.out.size))
        clear q1 q6 KR
        (try dsimp only)
        go_wp2
        go_roundw
        case rel => exact ⟨k + 1, by omega, by rw [HN.out]; unfold baT; rw [HQ.out]; first | (simp [baO, hgt]; done) | (intro h; have := of_decide_eq_true h; omega) | (simp [baO]; intro h; (try replace h := of_decide_eq_true h); omega), by rw [HS.out, HQ.out]; simp, by go_num, B7.out⟩
        case measure => simp [intOf]; omega
    · obtain rfl : k = xs.length := by omega
      go_wp2
      go_ret
      exact ⟨rfl, hb⟩
end Go.Proofs.Ytdpibpelghnihaa

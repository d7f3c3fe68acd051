/-
  For every code of bytes, laws.FnAligned returns true: PlaceAcross, CrossOf, BaseOf, SideOk, OnBase and Fills are the model's; a line of valid Sides is as high as each of them; who is put to the end ends where the line does; who is on the base line has its base there; the code reads as before. Conditions: none.
-/
import Derived.Test.YtdpibpelghnihaaCodeIn
import Derived.Test.YtdpibpelghnihaaSaE
import Derived.Test.YtdpibpelghnihaaSaG
import Derived.Test.YtdpibpelghnihaaSaH
import Derived.Test.YtdpibpelghnihaaAlT
namespace Go.Proofs.Ytdpibpelghnihaa.fnAligned
open Go.ChangeShapes Go.WideShapes Go.ChangeAt Go.RowKit
set_option linter.unusedVariables false
set_option linter.unusedSimpArgs false
set_option maxRecDepth 20000


set_option maxRecDepth 100000 in
set_option maxHeartbeats 8000000 in
theorem walk (a : Option Addr) (len cap : Nat) (w : World) (hl : len ≤ 1048576) (hc : Code w a len) :
    Calls Try.prog 3 #[.slice a len cap] w fun e w' => e = .returned (.bool true) ∧ Below w.heap.size w w' := by
  have HC := Lib.hid hc
  go_enter Try.func3, Try.ntmps3
  go_wp2_with (first | (go_at_call 11; refine (draw_placeacross a len cap w hl hc).mono ?_; rintro e w1 ⟨x, cross, base, rfl, hx, hcr, hba, b1⟩) | (go_at_call 10; go_in))
  clear hc
  have hV := hp_new w1 (.cells #[.int .i64 x.size, .int .i64 x.before, .int .i64 x.behind, .bool x.ab, .bool x.ah, .int .i64 x.al, .int .i64 x.base] 25)
  have bv := b1.alloc b1.size (.cells #[.int .i64 x.size, .int .i64 x.before, .int .i64 x.behind, .bool x.ab, .bool x.ah, .int .i64 x.al, .int .i64 x.base] 25)
  obtain ⟨v, ev⟩ : ∃ v, v = w1.alloc (.cells #[.int .i64 x.size, .int .i64 x.before, .int .i64 x.behind, .bool x.ab, .bool x.ah, .int .i64 x.al, .int .i64 x.base] 25) := ⟨_, rfl⟩
  rw [← ev] at hV bv
  have EV := Lib.hid ev
  have H1 := Lib.hid (show v.heap[w1.heap.size]? = some (.cells x.A 25) from hV)
  have B1 := Lib.hid bv
  have N0 : v.cell? ⟨w1.heap.size, 0, none⟩ = some (.int .i64 x.size) := Go.Joins.cell_of_block hV 0
  have N1 : v.cell? ⟨w1.heap.size, 1, none⟩ = some (.int .i64 x.before) := Go.Joins.cell_of_block hV 1
  have N2 : v.cell? ⟨w1.heap.size, 2, none⟩ = some (.int .i64 x.behind) := Go.Joins.cell_of_block hV 2
  have N3 : v.cell? ⟨w1.heap.size, 3, none⟩ = some (.bool x.ab) := Go.Joins.cell_of_block hV 3
  have N4 : v.cell? ⟨w1.heap.size, 4, none⟩ = some (.bool x.ah) := Go.Joins.cell_of_block hV 4
  have N5 : v.cell? ⟨w1.heap.size, 5, none⟩ = some (.int .i64 x.al) := Go.Joins.cell_of_block hV 5
  have N6 : v.cell? ⟨w1.heap.size, 6, none⟩ = some (.int .i64 x.base) := Go.Joins.cell_of_block hV 6
  clear hV bv ev b1
  obtain ⟨P, eP⟩ : ∃ P, P = paA x cross base := ⟨_, rfl⟩
  have KPI := Lib.hid (fun w => iplaceacross x cross base w)
  have KPL := Lib.hid (fun w => splaceacross x cross base w)
  rw [← eP] at KPI KPL
  have HP := Lib.hid eP
  clear eP
  (try dsimp only)
  go_wp2_with (first | (rw [← EV.out]) | fail)
  refine (KPI.out _).mono ?_
  rintro e w2 ⟨rfl, b2⟩
  have H2 := Lib.hid (hp_below H1.out b2)
  have B2 := Lib.hid (B1.out.trans (b2.mono B1.out.size))
  clear b2 KPI H1 B1 EV N0 N1 N2 N3 N4 N5 N6
  (try dsimp only)
  go_wp2_with (fail)
  refine (draw_crossof a len cap w2 hl (HC.out.below B2.out)).mono ?_
  rintro e w3 ⟨v3, xs, rfl, hxl, hxs, hr, b3⟩
  obtain ⟨ax, cx, rfl, hz⟩ := hr.slice hxs
  have H3 := Lib.hid (hp_below H2.out b3)
  have B3 := Lib.hid (B2.out.trans (b3.mono B2.out.size))
  have HZ3 := Lib.hid hz
  have hll : xs.length ≤ 4611686018427387904 := by omega
  have KI := Lib.hid (fun w' (h : Below w3.heap.size w3 w') => icrossof ax cx xs w' (HZ3.out.below h) hll)
  have KS := Lib.hid (fun w' (h : Below w3.heap.size w3 w') => scrossof ax cx xs w' (HZ3.out.below h) hll)
  have KJ := Lib.hid (fun w' (h : Below w3.heap.size w3 w') => ibaseof ax cx xs w' (HZ3.out.below h) hll)
  have KT := Lib.hid (fun w' (h : Below w3.heap.size w3 w') => sbaseof ax cx xs w' (HZ3.out.below h) hll)
  have HOFF := Lib.hid (fun (h : sasOk xs = true) (hh : coV xs < 1048576) (j : Nat) (hj : j < xs.length) (ho : saOn (saD xs j) = false) => (show wrap64 (wrap64 ((saD xs j).size + (saD xs j).before) + (saD xs j).behind) ≤ coV xs from high_off h hh hj ho))
  have HON := Lib.hid (fun (h : sasOk xs = true) (hh : coV xs < 1048576) (j : Nat) (hj : j < xs.length) (ho : saOn (saD xs j) = true) => high_on h hh hj ho)
  have KY := Lib.hid (fun w y => ssaok y w)
  have KN := Lib.hid (fun w y => sson y w)
  clear hr hz b3 H2 B2 hxs
  generalize coV xs = C at *
  generalize baV xs = B at *
  (try dsimp only)
  go_wp2_with (fail)
  refine (KI.out _ (Below.refl _ _)).mono ?_
  rintro e w4 ⟨rfl, b4⟩
  have L4 := Lib.hid b4
  have B4 := Lib.hid (B3.out.trans (b4.mono B3.out.size))
  clear b4 KI
  (try dsimp only)
  go_wp2_with (fail)
  refine (KJ.out _ L4.out).mono ?_
  rintro e w5 ⟨rfl, b5⟩
  have L5 := Lib.hid (L4.out.trans (b5.mono L4.out.size))
  have B5 := Lib.hid (B4.out.trans (b5.mono B4.out.size))
  have h5 : w5.heap[w1.heap.size]? = some (.cells x.A 25) := hp_below H3.out L5.out
  have H5 := Lib.hid h5
  clear b5 KJ L4 B4 H3 h5
  (try dsimp only)
  go_wp2_with (fail)
  refine wp_region_quiet_below (by kernel_rfl) (by kernel_rfl) ?_
  repeat (first
    | (go_big_quiet_want; (with_reducible apply quiet_sa (x := x)); exact rfl; exact rfl; (with_reducible exact H5.out); simp only [Act.put, List.setIfInBounds_toArray, List.set_cons_succ, List.set_cons_zero]; go_big_quiet_on)
    | go_big_quiet_step (first
      | (go_at_call 16; exact Calls.regrown_of (KPL.out _))
      | (go_at_call 17; exact Calls.regrown_of (KS.out _ (L5.out.trans ((below_regrown w5 _ _).mono L5.out.size))))
      | (go_at_call 18; exact Calls.regrown_of (KT.out _ (L5.out.trans ((below_regrown w5 _ _).mono L5.out.size))))
      | (go_at_call 19; exact Calls.regrown_of (isaok x _))
      | (go_at_call 20; exact Calls.regrown_of (KY.out _ x))
      | (go_at_call 21; exact Calls.regrown_of (ison x _))
      | (go_at_call 22; exact Calls.regrown_of (KN.out _ x))
      | (go_at_call 23; exact Calls.regrown_of (isfi x _))
      | (go_at_call 24; exact Calls.regrown_of (ssfi x _))
      | fail))
  refine wpQuiet_nil ?_
  intro _ hw'
  obtain ⟨⟨dq8, osq8⟩, hw''⟩ := hw'
  subst hw''
  
  have L6 := Lib.hid (L5.out.trans ((below_regrown w5 dq8 osq8).mono L5.out.size))
  have B6 := Lib.hid (B5.out.trans ((below_regrown w5 dq8 osq8).mono B5.out.size))
  have H6 := Lib.hid (hp_below H5.out (below_regrown w5 dq8 osq8))
  obtain ⟨w6, ew6⟩ : ∃ w6, w6 = Sort.grow (redrawn w5 dq8) osq8 := ⟨_, rfl⟩
  rw [← ew6] at L6 B6 H6 ⊢
  have HZ6 := Lib.hid (HZ3.out.below L6.out)
  clear ew6 KS KT KPL H5 B5 L5 L6 B3 HZ3
  have KPL := Lib.hid True.intro
  (try dsimp only)
  go_wp2_with (fail)
  go_loopw [10, 11] (fun g i wr => ∃ k : Nat, k ≤ xs.length ∧ g = .bool (gdN xs k) ∧ i = .int .i64 k ∧ Below w6.heap.size w6 wr) (fun _ i _ => xs.length - (intOf i).toNat)
  case atStart => exact ⟨0, Nat.zero_le _, congrArg Value.bool (decide_eq_decide.2 (by omega)), rfl, Below.refl _ _⟩
  case round =>
    obtain ⟨k, hk, rfl, rfl, hb⟩ := hrel
    by_cases hlt : k < xs.length
    · obtain ⟨b0, off, rfl, hbl, hrg⟩ := (HZ6.out.below hb).look hlt
      have hlo : (0 : Int) ≤ (k : Int) := Int.natCast_nonneg _
      have hhi : (k : Int) < (xs.length : Int) := by omega
      have HG := Lib.hid (show gdN xs (k + 1) = (gdN xs k && saOk (saD xs k)) from rfl)
      generalize gdN xs k = g at *
      generalize saD xs k = y at *
      obtain ⟨N0, N1, N2, N3, N4, N5, N6⟩ := rg_sa hrg
      have RG := Lib.hid hrg
      have HBW := Lib.hid hb
      clear hrg hb
      cases g
      · as_aux_lemma =>
          go_wp2
          go_roundw
          case rel => exact ⟨k + 1, by omega, by rw [HG.out]; rfl, by go_num, HBW.out⟩
          case measure => simp [intOf]; omega
      · as_aux_lemma =>
          go_wp2_with (first | ((with_reducible apply list_load_gsa (x := y)); exact rfl; exact rfl; exact rfl; (with_reducible exact RG.out); simp only [Act.put, List.setIfInBounds_toArray, List.set_cons_succ, List.set_cons_zero]) | fail)
          refine (KY.out _ y).mono ?_
          rintro e w7 ⟨rfl, b7⟩
          have B7 := Lib.hid (HBW.out.trans (b7.mono HBW.out.size))
          clear b7 N0 N1 N2 N3 N4 N5 N6
          generalize saOk y = ok at *
          (try dsimp only)
          go_wp2
          go_roundw
          case rel => exact ⟨k + 1, by omega, by rw [HG.out]; simp, by go_num, B7.out⟩
          case measure => simp [intOf]; omega
    · obtain rfl : k = xs.length := by omega
      rw [gdN_all]
      have H6 := Lib.hid (hp_below H6.out hb)
      have B6 := Lib.hid (B6.out.trans (hb.mono B6.out.size))
      have HZ6 := Lib.hid (HZ6.out.below hb)
      clear hb
      generalize sasOk xs = gd at *
      obtain ⟨w8, rfl⟩ : ∃ w8, w8 = wr := ⟨_, rfl⟩
      (try dsimp only)
      go_wp2_with (fail)
      go_loopw [12] (fun i wq => ∃ k : Nat, k ≤ xs.length ∧ i = .int .i64 k ∧ Below w8.heap.size w8 wq) (fun i _ => xs.length - (intOf i).toNat)
      case atStart => exact ⟨0, Nat.zero_le _, rfl, Below.refl _ _⟩
      case round =>
        obtain ⟨k, hk, rfl, hb⟩ := hrel
        by_cases hlt : k < xs.length
        · cases gd
          · as_aux_lemma =>
              have hlo : (0 : Int) ≤ (k : Int) := Int.natCast_nonneg _
              have hhi : (k : Int) < (xs.length : Int) := by omega
              have hX := hp_below H6.out hb
              have hB := B6.out.trans (hb.mono B6.out.size)
              have hP := HP.out
              clear HZ6 H6 B6 HP HOFF HON KY KN KPL
              repeat (first | exact tail17 a len cap w _ x.size x.before x.behind x.al x.base x.ab x.ah cross base _ _ _ _ _ _ _ _ _ _ _ _ _ _ _ _ _ _ _ _ _ _ _ _ _ _ _ _ _ _ _ _ _ _ _ _ _ _ _ _ _ _ _ _ _ _ _ _ _ _ _ _ _ _ _ _ _ _ _ _ _ _ _ _ _ _ _ _ _ _ _ _ _ _ _ _ _ _ _ _ _ _ _ _ _ _ _ _ _ _ _ _ _ _ _ _ _ _ _ _ _ _ _ _ _ _ _ _ _ _ _ _ _ _ _ _ _ _ _ _ _ _ _ _ _ _ _ _ _ _ _ _ _ _ _ _ _ _ _ _ _ _ _ _ _ _ _ _ _ _ _ _ _ _ _ _ _ _ _ _ _ _ _ _ _ _ _ _ _ _ _ _ _ _ _ _ _ _ _ _ _ _ _ _ _ _ _ _ _ hX hB (by first | exact hP | rfl) hcr.1 hcr.2 hba.1 hba.2 | go_step)
          · by_cases hh : C < 1048576
            · obtain ⟨b0, off, rfl, hbl, hrg⟩ := (HZ6.out.below hb).look hlt
              have hlo : (0 : Int) ≤ (k : Int) := Int.natCast_nonneg _
              have hhi : (k : Int) < (xs.length : Int) := by omega
              have hof := HOFF.out rfl hh k hlt
              have hon := HON.out rfl hh k hlt
              clear HOFF HON HP KPL
              generalize saD xs k = y at *
              have hV := hp_new wr (.cells #[.int .i64 y.size, .int .i64 y.before, .int .i64 y.behind, .bool y.ab, .bool y.ah, .int .i64 y.al, .int .i64 y.base] 25)
              have bv := hb.alloc hb.size (.cells #[.int .i64 y.size, .int .i64 y.before, .int .i64 y.behind, .bool y.ab, .bool y.ah, .int .i64 y.al, .int .i64 y.base] 25)
              obtain ⟨v, ev⟩ : ∃ v, v = wr.alloc (.cells #[.int .i64 y.size, .int .i64 y.before, .int .i64 y.behind, .bool y.ab, .bool y.ah, .int .i64 y.al, .int .i64 y.base] 25) := ⟨_, rfl⟩
              rw [← ev] at hV bv
              have EV := Lib.hid ev
              have HY := Lib.hid (show v.heap[wr.heap.size]? = some (.cells y.A 25) from hV)
              have N0 : v.cell? ⟨wr.heap.size, 0, none⟩ = some (.int .i64 y.size) := Go.Joins.cell_of_block hV 0
              have N1 : v.cell? ⟨wr.heap.size, 1, none⟩ = some (.int .i64 y.before) := Go.Joins.cell_of_block hV 1
              have N2 : v.cell? ⟨wr.heap.size, 2, none⟩ = some (.int .i64 y.behind) := Go.Joins.cell_of_block hV 2
              have N3 : v.cell? ⟨wr.heap.size, 3, none⟩ = some (.bool y.ab) := Go.Joins.cell_of_block hV 3
              have N4 : v.cell? ⟨wr.heap.size, 4, none⟩ = some (.bool y.ah) := Go.Joins.cell_of_block hV 4
              have N5 : v.cell? ⟨wr.heap.size, 5, none⟩ = some (.int .i64 y.al) := Go.Joins.cell_of_block hV 5
              have N6 : v.cell? ⟨wr.heap.size, 6, none⟩ = some (.int .i64 y.base) := Go.Joins.cell_of_block hV 6
              have q0 := fun d os => cell_regrown N0 d os
              have q1 := fun d os => cell_regrown N1 d os
              have q2 := fun d os => cell_regrown N2 d os
              have RG := Lib.hid hrg
              have BV := Lib.hid bv
              have KNy := Lib.hid (fun w => sson y w)
              have KPy := Lib.hid (fun w => iplaceacross y C B w)
              generalize saOn y = n at *
              generalize paA y C B = Q at *
              clear hV ev hrg hb bv KY KN
              cases n
              · as_aux_lemma =>
                  have hof2 := hof rfl
                  have hd : decide (C < wrap64 (wrap64 (y.size + y.before) + y.behind)) = false := decide_eq_false (by omega)
                  have hd3 : ¬ C < wrap64 (wrap64 (y.size + y.before) + y.behind) := by omega
                  clear hof hon hof2
                  go_wp2_with (first | ((with_reducible apply list_load_sa (x := y)); exact rfl; exact rfl; exact rfl; (with_reducible exact RG.out); simp only [Act.put, List.setIfInBounds_toArray, List.set_cons_succ, List.set_cons_zero]) | (rw [← EV.out]) | fail)
                  refine wp_region_quiet_below (by kernel_rfl) (by kernel_rfl) ?_
                  repeat (first
                    | (go_big_quiet_want; (with_reducible apply quiet_sa (x := y)); exact rfl; exact rfl; (with_reducible exact HY.out); simp only [Act.put, List.setIfInBounds_toArray, List.set_cons_succ, List.set_cons_zero]; go_big_quiet_on)
                    | go_big_quiet_step (first
                      | (go_at_call 22; exact Calls.regrown_of (KNy.out _))
                      | fail))
                  refine wpQuiet_nil ?_
                  intro _ hw'
                  obtain ⟨⟨dq9, osq9⟩, hw''⟩ := hw'
                  subst hw''
                  have B9 := Lib.hid (BV.out.trans ((below_regrown v dq9 osq9).mono BV.out.size))
                  clear q0 q1 q2 HY BV KNy KPy
                  (try dsimp only)
                  go_wp2
                  go_roundw
                  case rel => exact ⟨k + 1, by omega, by go_num, B9.out⟩
                  case measure => simp [intOf]; omega
              · have hon2 := hon rfl
                have hd : decide (C < wrap64 (wrap64 (Q + y.size) + y.behind)) = false := decide_eq_false (by omega)
                have hd3 : ¬ C < wrap64 (wrap64 (Q + y.size) + y.behind) := by omega
                clear hof hon hon2
                by_cases d1 : C < wrap64 (wrap64 (y.size + y.before) + y.behind)
                · as_aux_lemma =>
                    have hd1 : decide (C < wrap64 (wrap64 (y.size + y.before) + y.behind)) = true := decide_eq_true d1
                    go_wp2_with (first | ((with_reducible apply list_load_sa (x := y)); exact rfl; exact rfl; exact rfl; (with_reducible exact RG.out); simp only [Act.put, List.setIfInBounds_toArray, List.set_cons_succ, List.set_cons_zero]) | (rw [← EV.out]) | fail)
                    refine wp_region_quiet_below (by kernel_rfl) (by kernel_rfl) ?_
                    repeat (first
                      | (go_big_quiet_want; (with_reducible apply quiet_sa (x := y)); exact rfl; exact rfl; (with_reducible exact HY.out); simp only [Act.put, List.setIfInBounds_toArray, List.set_cons_succ, List.set_cons_zero]; go_big_quiet_on)
                      | go_big_quiet_step (first
                        | (go_at_call 22; exact Calls.regrown_of (KNy.out _))
                        | (go_at_call 12; exact Calls.regrown_of (KPy.out _))
                        | fail))
                    refine wpQuiet_nil ?_
                    intro _ hw'
                    obtain ⟨⟨dq9, osq9⟩, hw''⟩ := hw'
                    subst hw''
                    have B9 := Lib.hid (BV.out.trans ((below_regrown v dq9 osq9).mono BV.out.size))
                    clear q0 q1 q2 HY BV KNy KPy
                    (try dsimp only)
                    go_wp2
                    go_roundw
                    case rel => exact ⟨k + 1, by omega, by go_num, B9.out⟩
                    case measure => simp [intOf]; omega
                · as_aux_lemma =>
                    have hd1 : decide (C < wrap64 (wrap64 (y.size + y.before) + y.behind)) = false := decide_eq_false d1
                    go_wp2_with (first | ((with_reducible apply list_load_sa (x := y)); exact rfl; exact rfl; exact rfl; (with_reducible exact RG.out); simp only [Act.put, List.setIfInBounds_toArray, List.set_cons_succ, List.set_cons_zero]) | (rw [← EV.out]) | fail)
                    refine wp_region_quiet_below (by kernel_rfl) (by kernel_rfl) ?_
                    repeat (first
                      | (go_big_quiet_want; (with_reducible apply quiet_sa (x := y)); exact rfl; exact rfl; (with_reducible exact HY.out); simp only [Act.put, List.setIfInBounds_toArray, List.set_cons_succ, List.set_cons_zero]; go_big_quiet_on)
                      | go_big_quiet_step (first
                        | (go_at_call 22; exact Calls.regrown_of (KNy.out _))
                        | (go_at_call 12; exact Calls.regrown_of (KPy.out _))
                        | fail))
                    refine wpQuiet_nil ?_
                    intro _ hw'
                    obtain ⟨⟨dq9, osq9⟩, hw''⟩ := hw'
                    subst hw''
                    have B9 := Lib.hid (BV.out.trans ((below_regrown v dq9 osq9).mono BV.out.size))
                    clear q0 q1 q2 HY BV KNy KPy
                    (try dsimp only)
                    go_wp2
                    go_roundw
                    case rel => exact ⟨k + 1, by omega, by go_num, B9.out⟩
                    case measure => simp [intOf]; omega
            · as_aux_lemma =>
                have hlo : (0 : Int) ≤ (k : Int) := Int.natCast_nonneg _
                have hhi : (k : Int) < (xs.length : Int) := by omega
                have hh2 : decide (C < 1048576) = false := decide_eq_false hh
                have hX := hp_below H6.out hb
                have hB := B6.out.trans (hb.mono B6.out.size)
                have hP := HP.out
                clear HZ6 H6 B6 HP HOFF HON KY KN KPL
                repeat (first | exact tail17 a len cap w _ x.size x.before x.behind x.al x.base x.ab x.ah cross base _ _ _ _ _ _ _ _ _ _ _ _ _ _ _ _ _ _ _ _ _ _ _ _ _ _ _ _ _ _ _ _ _ _ _ _ _ _ _ _ _ _ _ _ _ _ _ _ _ _ _ _ _ _ _ _ _ _ _ _ _ _ _ _ _ _ _ _ _ _ _ _ _ _ _ _ _ _ _ _ _ _ _ _ _ _ _ _ _ _ _ _ _ _ _ _ _ _ _ _ _ _ _ _ _ _ _ _ _ _ _ _ _ _ _ _ _ _ _ _ _ _ _ _ _ _ _ _ _ _ _ _ _ _ _ _ _ _ _ _ _ _ _ _ _ _ _ _ _ _ _ _ _ _ _ _ _ _ _ _ _ _ _ _ _ _ _ _ _ _ _ _ _ _ _ _ _ _ _ _ _ _ _ _ _ _ _ _ _ hX hB (by first | exact hP | rfl) hcr.1 hcr.2 hba.1 hba.2 | go_step)
        · as_aux_lemma =>
            obtain rfl : k = xs.length := by omega
            have hX := hp_below H6.out hb
            have hB := B6.out.trans (hb.mono B6.out.size)
            have hP := HP.out
            clear HZ6 H6 B6 HP HOFF HON KY KN KPL
            repeat (first | exact tail17 a len cap w _ x.size x.before x.behind x.al x.base x.ab x.ah cross base _ _ _ _ _ _ _ _ _ _ _ _ _ _ _ _ _ _ _ _ _ _ _ _ _ _ _ _ _ _ _ _ _ _ _ _ _ _ _ _ _ _ _ _ _ _ _ _ _ _ _ _ _ _ _ _ _ _ _ _ _ _ _ _ _ _ _ _ _ _ _ _ _ _ _ _ _ _ _ _ _ _ _ _ _ _ _ _ _ _ _ _ _ _ _ _ _ _ _ _ _ _ _ _ _ _ _ _ _ _ _ _ _ _ _ _ _ _ _ _ _ _ _ _ _ _ _ _ _ _ _ _ _ _ _ _ _ _ _ _ _ _ _ _ _ _ _ _ _ _ _ _ _ _ _ _ _ _ _ _ _ _ _ _ _ _ _ _ _ _ _ _ _ _ _ _ _ _ _ _ _ _ _ _ _ _ _ _ _ hX hB (by first | exact hP | rfl) hcr.1 hcr.2 hba.1 hba.2 | go_step)

set_option maxRecDepth 100000 in
theorem walk_big (a : Option Addr) (len cap : Nat) (w : World) (hl : 1048576 < len) (hm : len ≤ 9223372036854775807) :
    Calls Try.prog 3 #[.slice a len cap] w fun e w' => e = .returned (.bool true) ∧ Below w.heap.size w w' := by
  go_enter Try.func3, Try.ntmps3
  go_wp2
  go_ret
  exact ⟨rfl, Below.refl _ _⟩

theorem laidOut : laidOutB Try.prog = true := by kernel_rfl

theorem contract (H : Type) (enc : TypeId × Value → H) (W : World) (base : Nat) (args : Array Value) (ds gs : List (DataW H)) (before : List MemPlace)
    (hval : ∀ (j : Nat) t v, Try.f3.params[j]? = some t → args[j]? = some v → Value.okWide Try.prog W .any base t v)
    (hW : DataW.Whole enc Try.prog Try.f3.params.toList Rows.fnAlignedSpec.vars false W args.toList ds gs before) :
    Calls Try.prog 3 args W fun e W' => ∃ v, e = .returned v ∧ Rows.fnAlignedSpec.post enc Try.prog Try.f3 false true false false W args v W' := by
  have hW' := hW
  obtain ⟨p, q, hA0, hV, rfl, hfz, hnd⟩ := hW
  have hA : DataW.TrodAll enc Try.prog W 0 (fun _ => true) true Try.f3.params.toList args.toList ds p := hA0
  rw [Try.params3] at hA hval
  obtain ⟨v0, vs0, d0, ds0, p0, q0, hargs, rfl, rfl, h0, r0⟩ := trodAll_cons hA
  obtain ⟨rfl, rfl, rfl⟩ := trodAll_nil r0
  obtain rfl : args = #[v0] := by cases args; simp_all
  obtain ⟨rfl, rfl⟩ := trodVars_none hV
  obtain ⟨a, len, cap, rfl⟩ := okWide_slice Try.underlying22 (hval 0 22 v0 rfl rfl)
  have lt0 : ∀ x ∈ p0, x.block < W.heap.size := by obtain ⟨m, hm⟩ := h0; exact DataW.trod_lt m _ _ _ hm
  obtain ⟨hc, hm⟩ := code_of h0
  have all : Calls Try.prog 3 #[.slice a len cap] W fun e w' => e = .returned (.bool true) ∧ Below W.heap.size W w' := by
    by_cases hl : len ≤ 1048576
    · exact walk a len cap W hl hc
    · exact walk_big a len cap W (by omega) hm
  refine all.mono fun e W' ⟨he, bel⟩ => ?_
  subst he
  exact ⟨_, rfl, law_post (pa := _) (pv := []) hW' (trodAll_cons_mk (shut_bool Try.underlying4 _) trodAll_mk0) (trodAll_cons_mk (Below.trod laidOut (by kernel_rfl) (of_decide_eq_true (by kernel_rfl)) h0 bel lt0) trodAll_mk0) rfl rfl bel⟩


set_option maxRecDepth 100000 in
theorem lifted (os : Os) (started : os.Started) (H : Type) (enc : TypeId × Value → H) :
    ReturnsInHanded {} Try.checked os 3 .any (Rows.fnAlignedSpec.pre6 enc Try.prog Try.f3 Rows.fnAlignedRow.domain false) (Rows.fnAlignedSpec.post enc Try.prog Try.f3 false true false false) := by
  refine returnsInHanded_of_change (C := Try.checked) own started (by kernel_rfl) Try.func3
    (ChangeSpec.witness6 (enc := enc) (C := Try.checked) false ⟨#[], #[.slice none 0 0], []⟩ 8 (by kernel_rfl) (by kernel_rfl) (by kernel_rfl) (by kernel_rfl)) ?_
  intro W base args ds gs before hval hW _ _
  exact contract H enc W base args ds gs before hval hW

/-- The given statement. -/
theorem proved : Rows.FnAlignedSaid :=
  OpenClaim.holds_of_wide 3 Try.f3 rfl rfl rfl rfl rfl rfl rfl ⟨rfl, rfl, rfl, rfl, rfl⟩ rfl rfl rfl rfl rfl (by kernel_rfl) Try.func3 (by kernel_rfl)
    (of_decide_eq_true (by kernel_rfl)) (by unfold Func.isWrapper; first | (rw [if_pos (by decide +kernel)]; kernel_rfl) | (rw [if_neg (by decide +kernel)]; exact ⟨rfl, rfl⟩))
    (fun os started H enc _ => lifted os started H enc)
#print axioms proved
end Go.Proofs.Ytdpibpelghnihaa.fnAligned

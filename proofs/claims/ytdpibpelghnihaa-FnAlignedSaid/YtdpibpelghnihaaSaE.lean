/-
  How high a line of Sides is (CrossOf of both). Conditions: the length's bound.
-/
import Derived.Test.YtdpibpelghnihaaSaC
namespace Go.Proofs.Ytdpibpelghnihaa
open Go.ChangeShapes Go.WideShapes Go.ChangeAt Go.RowKit
set_option linter.unusedVariables false
set_option linter.unusedSimpArgs false
set_option maxRecDepth 8000

set_option maxHeartbeats 4000000 in
theorem icrossof (a : Option Addr) (cap : Nat) (xs : List Sa) (w : World) (hz : Sas w a xs) (hl : xs.length ≤ 4611686018427387904) :
    Calls Try.prog 14 #[.slice a xs.length cap] w fun e w' => e = .returned (.int .i64 (coV xs)) ∧ Below w.heap.size w w' := by
  have HZ := Lib.hid hz
  have KS := Lib.hid (isasok a cap xs w hz hl)
  clear hz
  by_cases hs : sasOk xs = false
  · rw [hs] at KS
    go_enter Try.func14, Try.ntmps14
    go_wp2_with (fail)
    refine KS.out.mono ?_
    rintro e w1 ⟨rfl, b1⟩
    have B1 := Lib.hid b1
    clear b1
    (try dsimp only)
    go_wp2
    go_ret
    exact ⟨ret_int (by unfold coV; rw [hs]; rfl), B1.out⟩
  have hs1 : sasOk xs = true := by simpa using hs
  rw [hs1] at KS
  have HV := Lib.hid (show coV xs = clI (crI xs (baV xs) xs.length) by unfold coV; rw [hs1, cr_co (by unfold sasOk at hs1; simp only [Bool.and_eq_true] at hs1; exact hs1.2)]; rfl)
  clear hs hs1
  go_enter Try.func14, Try.ntmps14
  go_wp2_with (fail)
  refine KS.out.mono ?_
  rintro e w1 ⟨rfl, b1⟩
  have B1 := Lib.hid b1
  have HZ1 := Lib.hid (HZ.out.below b1)
  clear b1 HZ KS
  (try dsimp only)
  go_wp2_with (fail)
  refine (ibaseof a cap xs w1 HZ1.out hl).mono ?_
  rintro e w2 ⟨rfl, b2⟩
  have B2 := Lib.hid (B1.out.trans (b2.mono B1.out.size))
  have HZ := Lib.hid (HZ1.out.below b2)
  clear b2 HZ1
  generalize baV xs = B at *
  (try dsimp only)
  go_wp2_with (fail)
  go_loopw [4, 15] (fun n i wr => ∃ k : Nat, k ≤ xs.length ∧ n = .int .i64 (crI xs B k) ∧ i = .int .i64 k ∧ Below w2.heap.size w2 wr) (fun _ i _ => xs.length - (intOf i).toNat)
  case atStart => exact ⟨0, Nat.zero_le _, rfl, rfl, Below.refl _ _⟩
  case round =>
    obtain ⟨k, hk, rfl, rfl, hb⟩ := hrel
    by_cases hlt : k < xs.length
    · obtain ⟨b, off, rfl, hbl, hrg⟩ := (HZ.out.below hb).look hlt
      have hlo : (0 : Int) ≤ (k : Int) := Int.natCast_nonneg _
      have hhi : (k : Int) < (xs.length : Int) := by omega
      have HN := Lib.hid (show crI xs B (k + 1) = if crI xs B k ≤ crO (saD xs k) B then crO (saD xs k) B else crI xs B k from rfl)
      generalize saD xs k = x at *
      generalize crI xs B k = n at *
      obtain ⟨v, ev⟩ : ∃ v, v = wr.alloc (.cells #[.int .i64 x.size, .int .i64 x.before, .int .i64 x.behind, .bool x.ab, .bool x.ah, .int .i64 x.al, .int .i64 x.base] 25) := ⟨_, rfl⟩
      have hown : v.heap[wr.heap.size]? = some (.cells #[.int .i64 x.size, .int .i64 x.before, .int .i64 x.behind, .bool x.ab, .bool x.ah, .int .i64 x.al, .int .i64 x.base] 25) := ev ▸ hp_new wr _
      have hbv := Lib.hid (ev ▸ hb.alloc hb.size (.cells #[.int .i64 x.size, .int .i64 x.before, .int .i64 x.behind, .bool x.ab, .bool x.ah, .int .i64 x.al, .int .i64 x.base] 25) : Below w2.heap.size w2 v)
      have N0 : v.cell? ⟨wr.heap.size, 0, none⟩ = some (.int .i64 x.size) := Go.Joins.cell_of_block hown 0
      have N1 : v.cell? ⟨wr.heap.size, 1, none⟩ = some (.int .i64 x.before) := Go.Joins.cell_of_block hown 1
      have N2 : v.cell? ⟨wr.heap.size, 2, none⟩ = some (.int .i64 x.behind) := Go.Joins.cell_of_block hown 2
      have N3 : v.cell? ⟨wr.heap.size, 3, none⟩ = some (.bool x.ab) := Go.Joins.cell_of_block hown 3
      have N4 : v.cell? ⟨wr.heap.size, 4, none⟩ = some (.bool x.ah) := Go.Joins.cell_of_block hown 4
      have N5 : v.cell? ⟨wr.heap.size, 5, none⟩ = some (.int .i64 x.al) := Go.Joins.cell_of_block hown 5
      have N6 : v.cell? ⟨wr.heap.size, 6, none⟩ = some (.int .i64 x.base) := Go.Joins.cell_of_block hown 6
      have RG := Lib.hid hrg
      have EV := Lib.hid ev
      clear ev hb hrg
      have HB := Lib.hid (show v.heap[wr.heap.size]? = some (.cells x.A 25) from hown)
      have KP := Lib.hid (fun w => iplace17 x 0 B (by decide) (by decide) w)
      have KA := Lib.hid (fun w => ialignment x w)
      have hcf := callPl17 x
      generalize plF17 x = F at *
      have hf := fun w => fldAl2 (.bool (saOn x)) (.bool (saFi x)) (.func (.func F) #[] #[]) w
      have HCR := Lib.hid (show crO x B = wrap64 (wrap64 (plA x 0 B + x.size) + x.behind) from rfl)
      generalize plA x 0 B = y at *
      clear N0 N1 N2 N3 N4 N5 N6 hown
      go_wp2_with (first
        | ((with_reducible apply list_load_sa); exact rfl; exact rfl; exact rfl; (with_reducible exact RG.out); simp only [Act.put, List.setIfInBounds_toArray, List.set_cons_succ, List.set_cons_zero])
        | (rw [← EV.out])
        | fail)
      refine wp_region_quiet_below (by kernel_rfl) (by kernel_rfl) ?_
      repeat (first
        | (go_big_quiet_want; (with_reducible apply quiet_sa (x := x)); exact rfl; exact rfl; (with_reducible exact HB.out); simp only [Act.put, List.setIfInBounds_toArray, List.set_cons_succ, List.set_cons_zero]; go_big_quiet_on)
        | go_big_quiet_step (first
          | (go_at_call 32; exact Calls.regrown_of (KA.out _))
          | (exact Calls.regrown_of (KP.out _))
          | fail))
      refine wpQuiet_nil ?_
      intro _ hw'
      obtain ⟨⟨dq, osq⟩, hw''⟩ := hw'
      subst hw''
      clear hf hcf KP KA
      have B7 := Lib.hid (hbv.out.trans ((below_regrown v dq osq).mono hbv.out.size))
      have h7 : (Sort.grow (redrawn v dq) osq).heap[wr.heap.size]? = some (.cells x.A 25) := hp_below HB.out (below_regrown v dq osq)
      obtain ⟨w7, ew7⟩ : ∃ w7, w7 = Sort.grow (redrawn v dq) osq := ⟨_, rfl⟩
      rw [← ew7] at h7 B7 ⊢
      clear ew7 hbv EV RG HB
      have N0 : w7.cell? ⟨wr.heap.size, 0, none⟩ = some (.int .i64 x.size) := Go.Joins.cell_of_block h7 0
      have N2 : w7.cell? ⟨wr.heap.size, 2, none⟩ = some (.int .i64 x.behind) := Go.Joins.cell_of_block h7 2
      by_cases hle : n ≤ wrap64 (wrap64 (y + x.size) + x.behind)
      · (try dsimp only)
        go_wp2
        go_roundw
        case rel => exact ⟨k + 1, by omega, by rw [HN.out]; rw [HCR.out, if_pos hle]; refine congrArg (Value.int .i64) ?_; split <;> omega, by go_num, B7.out⟩
        case measure => simp [intOf]; omega
      · (try dsimp only)
        go_wp2
        go_roundw
        case rel => exact ⟨k + 1, by omega, by rw [HN.out]; rw [HCR.out, if_neg hle]; refine congrArg (Value.int .i64) ?_; split <;> omega, by go_num, B7.out⟩
        case measure => simp [intOf]; omega
    · obtain rfl : k = xs.length := by omega
      have B3 := Lib.hid (B2.out.trans (hb.mono B2.out.size))
      have HV2 := Lib.hid (congrArg (fun t => Ending.returned (.int .i64 t)) HV.out)
      clear hb
      generalize crI xs B xs.length = m at *
      (try dsimp only)
      go_wp2_with (fail)
      refine (iclamped m _).mono ?_
      rintro e w4 ⟨rfl, rfl⟩
      (try dsimp only)
      go_wp2
      go_ret
      exact ⟨HV2.out.symm, B3.out⟩
theorem ifP {p : Prop} [Decidable p] {a b : Int} (h : p) : Value.int .i64 (if p then a else b) = .int .i64 a := by rw [if_pos h]
theorem ifN {p : Prop} [Decidable p] {a b : Int} (h : ¬ p) : Value.int .i64 (if p then a else b) = .int .i64 b := by rw [if_neg h]
set_option maxHeartbeats 8000000 in
theorem scrossof (a : Option Addr) (cap : Nat) (xs : List Sa) (w : World) (hz : Sas w a xs) (hl : xs.length ≤ 4611686018427387904) :
    Calls Try.prog 17 #[.slice a xs.length cap] w fun e w' => e = .returned (.int .i64 (coV xs)) ∧ Below w.heap.size w w' := by
  have HZ := Lib.hid hz
  clear hz
  go_enter Try.func17, Try.ntmps17
  go_wp2
  go_loopw [3, 4, 5, 6] (fun n m s i wr => ∃ k : Nat, k ≤ xs.length ∧ n = .int .i64 (coN xs k) ∧ m = .int .i64 (coB xs k) ∧ s = .bool (baS xs k) ∧ i = .int .i64 k ∧ (∀ j, j < k → saOk (saD xs j) = true) ∧ Below w.heap.size w wr) (fun _ _ _ i _ => xs.length - (intOf i).toNat)
  case atStart => exact ⟨0, Nat.zero_le _, rfl, rfl, by rw [baS_zero], rfl, fun j hj => absurd hj (Nat.not_lt_zero _), Below.refl _ _⟩
  case round =>
    obtain ⟨k, hk, rfl, rfl, rfl, rfl, hm, hb⟩ := hrel
    by_cases hlt : k < xs.length
    · obtain ⟨b, off, rfl, hbl, hrg⟩ := (HZ.out.below hb).look hlt
      have hlo : (0 : Int) ≤ (k : Int) := Int.natCast_nonneg _
      have hhi : (k : Int) < (xs.length : Int) := by omega
      have hbad : saOk (saD xs k) = false → coV xs = 0 := fun h => by unfold coV sasOk; rw [sas_bad hlt h, Bool.and_false]; rfl
      have hgood : saOk (saD xs k) = true → ∀ j, j < k + 1 → saOk (saD xs j) = true := fun h j hj => by
        by_cases e : j = k
        · rw [e]; exact h
        · exact hm j (by omega)
      have HN := Lib.hid (show coN xs (k + 1) = if saOn (saD xs k) = false ∧ coN xs k < wiO (saD xs k) then wiO (saD xs k) else coN xs k from rfl)
      have HM := Lib.hid (show coB xs (k + 1) = if saOn (saD xs k) = true ∧ (baS xs k = false ∨ coB xs k < unO (saD xs k)) then unO (saD xs k) else coB xs k from rfl)
      have HS := Lib.hid (baS_next xs k hlt)
      generalize saD xs k = x at *
      generalize coN xs k = n at *
      generalize coB xs k = m at *
      generalize baS xs k = s at *
      obtain ⟨v, ev⟩ : ∃ v, v = wr.alloc (.cells #[.int .i64 x.size, .int .i64 x.before, .int .i64 x.behind, .bool x.ab, .bool x.ah, .int .i64 x.al, .int .i64 x.base] 25) := ⟨_, rfl⟩
      have hown : v.heap[wr.heap.size]? = some (.cells #[.int .i64 x.size, .int .i64 x.before, .int .i64 x.behind, .bool x.ab, .bool x.ah, .int .i64 x.al, .int .i64 x.base] 25) := ev ▸ hp_new wr _
      have hbv := Lib.hid (ev ▸ hb.alloc hb.size (.cells #[.int .i64 x.size, .int .i64 x.before, .int .i64 x.behind, .bool x.ab, .bool x.ah, .int .i64 x.al, .int .i64 x.base] 25) : Below w.heap.size w v)
      have N0 : v.cell? ⟨wr.heap.size, 0, none⟩ = some (.int .i64 x.size) := Go.Joins.cell_of_block hown 0
      have N1 : v.cell? ⟨wr.heap.size, 1, none⟩ = some (.int .i64 x.before) := Go.Joins.cell_of_block hown 1
      have N2 : v.cell? ⟨wr.heap.size, 2, none⟩ = some (.int .i64 x.behind) := Go.Joins.cell_of_block hown 2
      have N3 : v.cell? ⟨wr.heap.size, 3, none⟩ = some (.bool x.ab) := Go.Joins.cell_of_block hown 3
      have N4 : v.cell? ⟨wr.heap.size, 4, none⟩ = some (.bool x.ah) := Go.Joins.cell_of_block hown 4
      have N5 : v.cell? ⟨wr.heap.size, 5, none⟩ = some (.int .i64 x.al) := Go.Joins.cell_of_block hown 5
      have N6 : v.cell? ⟨wr.heap.size, 6, none⟩ = some (.int .i64 x.base) := Go.Joins.cell_of_block hown 6
      have RG := Lib.hid hrg
      have EV := Lib.hid ev
      clear ev hb hrg
      have kr := ssaok x v
      generalize saOk x = t at *
      have KR := Lib.hid kr
      have HBAD := Lib.hid hbad
      have hgood2 := Lib.hid hgood
      clear hm hbad hgood kr
      have H3 := Lib.hid (show v.heap[wr.heap.size]? = some (.cells x.A 25) from hown)
      clear hown
      go_wp2_with (first
        | ((with_reducible apply list_load_sa); exact rfl; exact rfl; exact rfl; (with_reducible exact RG.out); simp only [Act.put, List.setIfInBounds_toArray, List.set_cons_succ, List.set_cons_zero])
        | (rw [← EV.out])
        | fail)
      refine KR.out.mono ?_
      rintro e w3 ⟨rfl, b3⟩
      have B3 := Lib.hid (hbv.out.trans (b3.mono hbv.out.size))
      have h3 : w3.heap[wr.heap.size]? = some (.cells x.A 25) := hp_below H3.out b3
      clear b3 KR N0 N1 N2 N3 N4 N5 N6 EV RG H3 hbv
      cases t with
      | false =>
        (try dsimp only)
        go_wp2
        go_ret
        exact ⟨ret_int (HBAD.out (by simp)).symm, B3.out⟩
      | true =>
        have HGOOD := Lib.hid (hgood2.out (by simp))
        clear hgood2 HBAD
        have N0 : w3.cell? ⟨wr.heap.size, 0, none⟩ = some (.int .i64 x.size) := Go.Joins.cell_of_block h3 0
        have N1 : w3.cell? ⟨wr.heap.size, 1, none⟩ = some (.int .i64 x.before) := Go.Joins.cell_of_block h3 1
        have N2 : w3.cell? ⟨wr.heap.size, 2, none⟩ = some (.int .i64 x.behind) := Go.Joins.cell_of_block h3 2
        have N3 : w3.cell? ⟨wr.heap.size, 3, none⟩ = some (.bool x.ab) := Go.Joins.cell_of_block h3 3
        have N4 : w3.cell? ⟨wr.heap.size, 4, none⟩ = some (.bool x.ah) := Go.Joins.cell_of_block h3 4
        have N5 : w3.cell? ⟨wr.heap.size, 5, none⟩ = some (.int .i64 x.al) := Go.Joins.cell_of_block h3 5
        have N6 : w3.cell? ⟨wr.heap.size, 6, none⟩ = some (.int .i64 x.base) := Go.Joins.cell_of_block h3 6
        have H3 := Lib.hid h3
        clear h3
        have KR := Lib.hid (sson x w3)
        generalize hq : saOn x = q at KR
        have HQ := Lib.hid hq
        clear hq
        (try dsimp only)
        go_wp2_with (fail)
        refine KR.out.mono ?_
        rintro e w4 ⟨rfl, b4⟩
        have B4 := Lib.hid (B3.out.trans (b4.mono B3.out.size))
        have h4 : w4.heap[wr.heap.size]? = some (.cells x.A 25) := hp_below H3.out b4
        clear b4 KR N0 N1 N2 N3 N4 N5 N6 H3
        have N0 : w4.cell? ⟨wr.heap.size, 0, none⟩ = some (.int .i64 x.size) := Go.Joins.cell_of_block h4 0
        have N1 : w4.cell? ⟨wr.heap.size, 1, none⟩ = some (.int .i64 x.before) := Go.Joins.cell_of_block h4 1
        have N2 : w4.cell? ⟨wr.heap.size, 2, none⟩ = some (.int .i64 x.behind) := Go.Joins.cell_of_block h4 2
        have N3 : w4.cell? ⟨wr.heap.size, 3, none⟩ = some (.bool x.ab) := Go.Joins.cell_of_block h4 3
        have N4 : w4.cell? ⟨wr.heap.size, 4, none⟩ = some (.bool x.ah) := Go.Joins.cell_of_block h4 4
        have N5 : w4.cell? ⟨wr.heap.size, 5, none⟩ = some (.int .i64 x.al) := Go.Joins.cell_of_block h4 5
        have N6 : w4.cell? ⟨wr.heap.size, 6, none⟩ = some (.int .i64 x.base) := Go.Joins.cell_of_block h4 6
        clear h4
        cases q
        · by_cases hgt : n < wrap64 (wrap64 (x.size + x.before) + x.behind)
          · (try dsimp only)
            go_wp2
            go_roundw
            case rel => exact ⟨k + 1, by omega, by rw [HN.out, HQ.out]; refine (ifP ?_).symm; exact ⟨by simp, hgt⟩, by rw [HM.out, HQ.out]; simp, by rw [HS.out, HQ.out]; simp, by go_num, HGOOD.out, B4.out⟩
            case measure => simp [intOf]; omega
          · (try dsimp only)
            go_wp2
            go_roundw
            case rel => exact ⟨k + 1, by omega, by rw [HN.out, HQ.out]; refine (ifN ?_).symm; exact fun h => hgt h.2, by rw [HM.out, HQ.out]; simp, by rw [HS.out, HQ.out]; simp, by go_num, HGOOD.out, B4.out⟩
            case measure => simp [intOf]; omega
        cases s
        · (try dsimp only)
          go_wp2
          go_roundw
          case rel => exact ⟨k + 1, by omega, by rw [HN.out, HQ.out]; simp, by rw [HM.out, HQ.out]; refine (ifP ?_).symm; exact ⟨by simp, Or.inl (by simp)⟩, by rw [HS.out, HQ.out]; simp, by go_num, HGOOD.out, B4.out⟩
          case measure => simp [intOf]; omega
        by_cases hgt : m < wrap64 (wrap64 (x.size + x.behind) - x.base)
        · (try dsimp only)
          go_wp2
          go_roundw
          case rel => exact ⟨k + 1, by omega, by rw [HN.out, HQ.out]; simp, by rw [HM.out, HQ.out]; refine (ifP ?_).symm; exact ⟨by simp, Or.inr hgt⟩, by rw [HS.out, HQ.out]; simp, by go_num, HGOOD.out, B4.out⟩
          case measure => simp [intOf]; omega
        · (try dsimp only)
          go_wp2
          go_roundw
          case rel => exact ⟨k + 1, by omega, by rw [HN.out, HQ.out]; simp, by rw [HM.out, HQ.out]; refine (ifN ?_).symm; exact fun h => h.2.elim (fun e => by simp at e) hgt, by rw [HS.out, HQ.out]; simp, by go_num, HGOOD.out, B4.out⟩
          case measure => simp [intOf]; omega
    · obtain rfl : k = xs.length := by omega
      have KB := Lib.hid (fun w' (h : Below w.heap.size w w') => sbaseof a cap xs w' (HZ.out.below h) hl)
      have HALL := Lib.hid (sas_all hm)
      have HV := Lib.hid (show coV xs = if sasOk xs = true then clI (coM xs) else 0 from rfl)
      have HB := Lib.hid hb
      have HOK := Lib.hid (show sasOk xs = decide (xs.length ≤ 12) by unfold sasOk; rw [HALL.out, Bool.and_true])
      have HMM := Lib.hid (show coM xs = if baS xs xs.length = true ∧ coN xs xs.length < wrap64 (baV xs + coB xs xs.length) then wrap64 (baV xs + coB xs xs.length) else coN xs xs.length from rfl)
      clear hm hb
      generalize coN xs xs.length = n at *
      generalize coB xs xs.length = m at *
      generalize baS xs xs.length = s at *
      generalize baV xs = B at *
      generalize coM xs = cm at *
      by_cases h16 : xs.length ≤ 12
      · have HV2 := Lib.hid (show coV xs = clI cm by rw [HV.out, HOK.out, decide_eq_true h16]; rfl)
        have h17 : ¬ (12 : Int) < (xs.length : Int) := by omega
        cases s
        · have HC := Lib.hid (show cm = n by rw [HMM.out]; simp)
          (try dsimp only)
          go_wp2_with (fail)
          refine (sclamped n _).mono ?_
          rintro e w4 ⟨rfl, rfl⟩
          (try dsimp only)
          go_wp2
          go_ret
          exact ⟨ret_int (by rw [HV2.out, HC.out]), HB.out⟩
        · (try dsimp only)
          go_wp2_with (fail)
          refine (KB.out _ HB.out).mono ?_
          rintro e w2 ⟨rfl, b2⟩
          have B2 := Lib.hid (HB.out.trans (b2.mono HB.out.size))
          clear b2
          by_cases hgt : n < wrap64 (B + m)
          · have HC := Lib.hid (show cm = wrap64 (B + m) by rw [HMM.out, if_pos (by simp [hgt])])
            (try dsimp only)
            go_wp2_with (fail)
            refine (KB.out _ B2.out).mono ?_
            rintro e w3 ⟨rfl, b3⟩
            have B3 := Lib.hid (B2.out.trans (b3.mono B2.out.size))
            clear b3
            (try dsimp only)
            go_wp2_with (fail)
            refine (sclamped _ _).mono ?_
            rintro e w4 ⟨rfl, rfl⟩
            (try dsimp only)
            go_wp2
            go_ret
            exact ⟨ret_int (by rw [HV2.out, HC.out]), B3.out⟩
          · have HC := Lib.hid (show cm = n by rw [HMM.out, if_neg (fun h => hgt h.2)])
            (try dsimp only)
            go_wp2_with (fail)
            refine (sclamped n _).mono ?_
            rintro e w4 ⟨rfl, rfl⟩
            (try dsimp only)
            go_wp2
            go_ret
            exact ⟨ret_int (by rw [HV2.out, HC.out]), B2.out⟩
      · have HV2 := Lib.hid (show coV xs = 0 by rw [HV.out, HOK.out, decide_eq_false h16]; rfl)
        have h17 : (12 : Int) < (xs.length : Int) := by omega
        (try dsimp only)
        go_wp2
        go_ret
        exact ⟨ret_int HV2.out.symm, HB.out⟩
end Go.Proofs.Ytdpibpelghnihaa

import Derived.Deep.RegionWith
import Derived.Test.YtckpjldenkjddaaZtAA
import Derived.Test.YtckpjldenkjddaaZtAM
section
namespace Go.Proofs.Ytckpjldenkjddaa
open Go.ChangeShapes Go.WideShapes Go.ChangeAt Go.RowKit
set_option linter.unusedVariables false

theorem rok_eq (zs : List Int) (k : Nat) : rokB zs k = (rnB (zs.getD (k * 3) 0) (-1) 1048576 && rnB (zs.getD (k * 3 + 1) 0) 0 1048576 && rnB (zs.getD (k * 3 + 2) 0) 0 1048576) := rfl
set_option maxHeartbeats 1000000 in
theorem iruleok (x y z : Int) (w : World) :
    Calls Try.prog 128 #[.agg #[.int .i64 x, .int .i64 y, .int .i64 z]] w fun e w' => e = .returned (.bool (rnB x (-1) 1048576 && rnB y 0 1048576 && rnB z 0 1048576)) ∧ Below w.heap.size w w' := by
  have k1 := irng x (-1) 1048576
  have k2 := irng y 0 1048576
  have k3 := irng z 0 1048576
  generalize rnB x (-1) 1048576 = p at *
  generalize rnB y 0 1048576 = q at *
  generalize rnB z 0 1048576 = r at *
  have bb := Go.Joins.below_alloc1 w (.cells #[.int .i64 x, .int .i64 y, .int .i64 z] 137)
  cases p <;> cases q <;>
    (go_enter Try.func128, Try.ntmps128
     go_wp2_with (first
       | (go_at_call_of 76 x; refine (k1 _).mono ?_; rintro e w1 ⟨rfl, rfl⟩)
       | (go_at_call_of 76 y; refine (k2 _).mono ?_; rintro e w1 ⟨rfl, rfl⟩)
       | (go_at_call_of 76 z; refine (k3 _).mono ?_; rintro e w1 ⟨rfl, rfl⟩))
     go_ret
     exact ⟨by simp, bb⟩)
theorem rn_len (len : Nat) : rnB (len : Int) 1 6 = decide (1 ≤ len ∧ len ≤ 6) := by
  unfold rnB
  exact decide_eq_decide.2 (by omega)
set_option maxHeartbeats 1000000 in
theorem itableok (a : Option Addr) (len cap : Nat) (zs : List Int) (w : World) (hz : Rls w a len zs) (hl : len ≤ 4611686018427387904) :
    Calls Try.prog 87 #[.agg #[.slice a len cap]] w fun e w' => e = .returned (.bool (tokB zs len)) ∧ Below w.heap.size w w' := by
  have h0 := hp_new w (.cells #[.slice a len cap] 51)
  have bb := Go.Joins.below_alloc1 w (.cells #[.slice a len cap] 51)
  obtain ⟨u, eu⟩ : ∃ u, u = w.alloc (.cells #[.slice a len cap] 51) := ⟨_, rfl⟩
  rw [← eu] at h0 bb
  have EU := Lib.hid eu
  clear eu
  have HZ := Lib.hid (hz.below bb)
  have c0 := Go.Joins.cell_of_block h0 0
  simp at c0
  have BB := Lib.hid bb
  clear hz h0 bb
  have kl := irng (len : Int) 1 6 u
  by_cases h16 : 1 ≤ len ∧ len ≤ 6
  · rw [rn_len, decide_eq_true h16] at kl
    have KL := Lib.hid kl
    clear kl
    go_enter Try.func87, Try.ntmps87
    go_wp2_with (rw [← EU.out])
    refine KL.out.mono ?_
    rintro e w1 ⟨rfl, rfl⟩
    go_wp2_with (fail)
    clear KL
    go_loopw [13] (fun i wr => ∃ k : Nat, k ≤ len ∧ i = .int .i64 k ∧ (∀ j, j < k → rokB zs j = true) ∧ Below w1.heap.size w1 wr) (fun i _ => len - (intOf i).toNat)
    case atStart => exact ⟨0, Nat.zero_le _, rfl, fun j hj => absurd hj (Nat.not_lt_zero _), Below.refl _ _⟩
    case round =>
      obtain ⟨k, hk, rfl, hm, hb⟩ := hrel
      by_cases hlt : k < len
      · obtain ⟨b, off, rfl, hbl, e0, e1, e2⟩ := (HZ.out.below hb).look hlt
        have hlo : (0 : Int) ≤ (k : Int) := Int.natCast_nonneg _
        have hhi : (k : Int) < (len : Int) := by omega
        have hbad : rokB zs k = false → tokB zs len = false := tok_bad hlt
        have hgood : rokB zs k = true → ∀ j, j < k + 1 → rokB zs j = true := rok_succ hm
        rw [rok_eq] at hbad hgood
        generalize zs.getD (k * 3) 0 = x at *
        generalize zs.getD (k * 3 + 1) 0 = y at *
        generalize zs.getD (k * 3 + 2) 0 = z at *
        obtain ⟨v, ev⟩ : ∃ v, v = wr.alloc (.cells #[.int .i64 x, .int .i64 y, .int .i64 z] 137) := ⟨_, rfl⟩
        have hown : v.heap[wr.heap.size]? = some (.cells #[.int .i64 x, .int .i64 y, .int .i64 z] 137) := ev ▸ hp_new wr _
        have hbv := Lib.hid (ev ▸ hb.alloc hb.size (.cells #[.int .i64 x, .int .i64 y, .int .i64 z] 137) : Below w1.heap.size w1 v)
        have N0 := Go.Joins.cell_of_block hown 0
        have N1 := Go.Joins.cell_of_block hown 1
        have N2 := Go.Joins.cell_of_block hown 2
        simp at N0 N1 N2
        have kr := iruleok x y z v
        generalize (rnB x (-1) 1048576 && rnB y 0 1048576 && rnB z 0 1048576) = q at *
        have KR := Lib.hid kr
        have EV := Lib.hid ev
        have HBAD := Lib.hid hbad
        have HGOOD := Lib.hid hgood
        clear hm hbad hgood kr ev hown hb
        go_wp2_with (rw [← EV.out])
        refine KR.out.mono ?_
        rintro e w2 ⟨rfl, b2⟩
        have B2 := Lib.hid (hbv.out.trans (b2.mono hbv.out.size))
        clear b2 KR N0 N1 N2 e0 e1 e2
        dsimp only
        cases q with
        | false =>
          go_wp2
          go_ret
          exact ⟨congrArg (fun t => Ending.returned (.bool t)) (HBAD.out (by simp)).symm, BB.out.trans (B2.out.mono BB.out.size)⟩
        | true =>
          go_wp2
          go_roundw
          case rel => exact ⟨k + 1, by omega, by go_num, HGOOD.out (by simp), B2.out⟩
          case measure => simp [intOf]; omega
      · obtain rfl : k = len := by omega
        have HM := Lib.hid hm
        clear hm
        go_wp2
        go_ret
        exact ⟨(congrArg (fun t => Ending.returned (.bool t)) ((tok_all HM.out).trans (decide_eq_true h16))).symm, BB.out.trans (hb.mono BB.out.size)⟩
  · rw [rn_len, decide_eq_false h16] at kl
    have KL := Lib.hid kl
    clear kl
    go_enter Try.func87, Try.ntmps87
    go_wp2_with (rw [← EU.out])
    refine KL.out.mono ?_
    rintro e w1 ⟨rfl, rfl⟩
    go_wp2_with (fail)
    go_ret
    exact ⟨(congrArg (fun t => Ending.returned (.bool t)) (tok_len (zs := zs) h16)).symm, BB.out⟩
set_option maxHeartbeats 2000000 in
theorem stableok (a : Option Addr) (len cap : Nat) (zs : List Int) (w : World) (hz : Rls w a len zs) (hl : len ≤ 4611686018427387904) :
    Calls Try.prog 81 #[.agg #[.slice a len cap]] w fun e w' => e = .returned (.bool (tokB zs len)) ∧ Below w.heap.size w w' := by
  have h0 := hp_new w (.cells #[.slice a len cap] 51)
  have bb := Go.Joins.below_alloc1 w (.cells #[.slice a len cap] 51)
  obtain ⟨u, eu⟩ : ∃ u, u = w.alloc (.cells #[.slice a len cap] 51) := ⟨_, rfl⟩
  have hus : w.heap.size < u.heap.size := by rw [eu]; simp
  rw [← eu] at h0 bb
  have EU := Lib.hid eu
  clear eu
  have HZ := Lib.hid (hz.below bb)
  have H0 := Lib.hid h0
  have BB := Lib.hid bb
  clear hz h0 bb
  go_enter Try.func81, Try.ntmps81
  go_wp2_with (rw [← EU.out])
  go_loopw [3] (fun i wr => ∃ k : Nat, k ≤ len ∧ i = .int .i64 k ∧ (∀ j, j < k → rokB zs j = true) ∧ Below u.heap.size u wr) (fun i _ => len - (intOf i).toNat)
  case atStart => exact ⟨0, Nat.zero_le _, rfl, fun j hj => absurd hj (Nat.not_lt_zero _), Below.refl _ _⟩
  case round =>
    obtain ⟨k, hk, rfl, hm, hb⟩ := hrel
    have hw0 : wr.heap[w.heap.size]? = _ := (hb.block w.heap.size hus).trans H0.out
    have c0 := Go.Joins.cell_of_block hw0 0
    simp at c0
    by_cases hlt : k < len
    · obtain ⟨b, off, rfl, hbl, e0, e1, e2⟩ := (HZ.out.below hb).look hlt
      have hlo : (0 : Int) ≤ (k : Int) := Int.natCast_nonneg _
      have hhi : (k : Int) < (len : Int) := by omega
      have hbad : rokB zs k = false → tokB zs len = false := tok_bad hlt
      have hgood : rokB zs k = true → ∀ j, j < k + 1 → rokB zs j = true := rok_succ hm
      rw [rok_eq] at hbad hgood
      generalize zs.getD (k * 3) 0 = x at *
      generalize zs.getD (k * 3 + 1) 0 = y at *
      generalize zs.getD (k * 3 + 2) 0 = z at *
      obtain ⟨v, ev⟩ : ∃ v, v = wr.alloc (.cells #[.int .i64 x, .int .i64 y, .int .i64 z] 137) := ⟨_, rfl⟩
      have hown : v.heap[wr.heap.size]? = some (.cells #[.int .i64 x, .int .i64 y, .int .i64 z] 137) := ev ▸ hp_new wr _
      have hbv := Lib.hid (ev ▸ hb.alloc hb.size (.cells #[.int .i64 x, .int .i64 y, .int .i64 z] 137) : Below u.heap.size u v)
      have N0 := Go.Joins.cell_of_block hown 0
      have N1 := Go.Joins.cell_of_block hown 1
      have N2 := Go.Joins.cell_of_block hown 2
      simp at N0 N1 N2
      have k1 := srng x (-1) 1048576
      have k2 := srng y 0 1048576
      have k3 := srng z 0 1048576
      generalize rnB x (-1) 1048576 = p at *
      generalize rnB y 0 1048576 = q at *
      generalize rnB z 0 1048576 = r at *
      have EV := Lib.hid ev
      have HBAD := Lib.hid hbad
      have HGOOD := Lib.hid hgood
      have K1 := Lib.hid k1
      have K2 := Lib.hid k2
      have K3 := Lib.hid k3
      clear hm hbad hgood ev hown hb k1 k2 k3 hw0
      cases p <;> cases q <;> cases r <;>
        (go_wp2_with (first
           | (rw [← EV.out])
           | (go_at_call_of 71 x; refine (K1.out _).mono ?_; rintro e w1 ⟨rfl, rfl⟩)
           | (go_at_call_of 71 y; refine (K2.out _).mono ?_; rintro e w1 ⟨rfl, rfl⟩)
           | (go_at_call_of 71 z; refine (K3.out _).mono ?_; rintro e w1 ⟨rfl, rfl⟩)))
      all_goals first
        | (go_ret; exact ⟨congrArg (fun t => Ending.returned (.bool t)) (HBAD.out (by simp)).symm, BB.out.trans (hbv.out.mono BB.out.size)⟩)
        | (go_roundw
           case rel => exact ⟨k + 1, by omega, by go_num, HGOOD.out (by simp), hbv.out⟩
           case measure => simp [intOf]; omega)
    · obtain rfl : k = len := by omega
      have HM := Lib.hid hm
      have kl := srng (k : Int) 1 6 wr
      rw [rn_len] at kl
      have hfin := tok_all hm
      generalize decide (1 ≤ k ∧ k ≤ 6) = fin at *
      have HF := Lib.hid hfin
      clear hfin HM
      have KL := Lib.hid kl
      have BF := Lib.hid (BB.out.trans (hb.mono BB.out.size))
      clear hm kl hb
      go_wp2_with (fail)
      refine KL.out.mono ?_
      rintro e w1 ⟨rfl, rfl⟩
      go_wp2_with (fail)
      go_ret
      exact ⟨(congrArg (fun t => Ending.returned (.bool t)) HF.out).symm, BF.out⟩
end Go.Proofs.Ytckpjldenkjddaa
end

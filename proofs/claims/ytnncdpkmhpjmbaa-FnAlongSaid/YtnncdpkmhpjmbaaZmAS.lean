import Derived.Laws.OwnMore
import Derived.OwnWalk
import Derived.BigQuiet
import Derived.Lib.QuietBelow
import Derived.Test.YtnncdpkmhpjmbaaZmAN
import Derived.Test.YtnncdpkmhpjmbaaZmAO
import Derived.Test.YtnncdpkmhpjmbaaZmAR
section
namespace Go.Proofs.Ytnncdpkmhpjmbaa
open Go.ChangeShapes Go.WideShapes Go.ChangeAt Go.RowKit
set_option linter.unusedVariables false
set_option linter.unusedSimpArgs false
set_option maxRecDepth 8000

/-- The sum of the margins of the first items. -/
def mgK (xs : List It) : Nat → Int
  | 0 => 0
  | k + 1 => mgK xs k + ((itD xs k).before + (itD xs k).behind)
/-- What the items take up, as an int wraps it. -/
def ouV (xs : List It) (zs : List Int) (gap : Int) : Int := wrap64 (wsum zs zs.length + gap * ((xs.length - 1 : Nat) : Int) + mgK xs xs.length)
theorem gap_succ (gap : Int) {k : Nat} (h : 0 < k) : gap * ((k + 1 - 1 : Nat) : Int) = gap * ((k - 1 : Nat) : Int) + gap := by
  obtain ⟨m, rfl⟩ : ∃ m, k = m + 1 := ⟨k - 1, by omega⟩
  simp only [Nat.add_sub_cancel]
  rw [show ((m + 1 : Nat) : Int) = (m : Int) + 1 by omega, Int.mul_add, Int.mul_one]
/-- The hypothetical sizes. -/
def hypL (xs : List It) : List Int := xs.map hypV
theorem hypL_len (xs : List It) : (hypL xs).length = xs.length := by simp [hypL]
theorem hypL_at {xs : List It} {k : Nat} (h : k < xs.length) : (hypL xs).getD k 0 = hypV (itD xs k) := by simp [hypL, itD, List.getD, h]
theorem hypL_all {xs : List It} (h : ∀ x ∈ xs, x.inr) : AllI (hypL xs) := by
  intro z hz
  obtain ⟨x, hx, rfl⟩ := List.mem_map.1 hz
  exact hypV_in (h x hx)

set_option maxHeartbeats 400000 in
theorem isum_any (a : Option Addr) (len cap : Nat) (zs : List Int) (w : World) (hz : Ints w a len zs) (hl : len ≤ 1048576) :
    Calls Try.prog 95 #[.slice a len cap] w fun e w' => e = .returned (.int .i64 (wrap64 (wsum zs len))) ∧ w' = w := by
  go_enter Try.func95, Try.ntmps95
  go_wp2
  go_loop [3, 8] (fun t i => ∃ k : Nat, k ≤ len ∧ t = .int .i64 (wrap64 (wsum zs k)) ∧ i = .int .i64 k) (fun _ i => len - (intOf i).toNat)
  case atStart => exact ⟨0, Nat.zero_le _, by rw [show wsum zs 0 = 0 from rfl, wr_zero], rfl⟩
  case round =>
    obtain ⟨k, hk, rfl, rfl⟩ := hrel
    by_cases hlt : k < len
    · obtain ⟨b, off, rfl, hb, hc⟩ := hz.look hlt
      have hlo : (0 : Int) ≤ (k : Int) := Int.natCast_nonneg _
      have hhi : (k : Int) < (len : Int) := by omega
      have HZ := Lib.hid hz
      clear hz
      have hs : wrap64 (wrap64 (wsum zs k) + zs.getD k 0) = wrap64 (wsum zs (k + 1)) := wr_l _ _
      generalize zs.getD k 0 = z at *
      generalize wrap64 (wsum zs k) = t at *
      have HS := Lib.hid hs
      clear hs
      go_wp2
      go_round
      case rel => exact ⟨k + 1, by omega, by rw [HS.out], by go_num⟩
      case measure => simp [intOf]; omega
    · obtain rfl : k = len := by omega
      clear hz
      go_wp2
      go_ret
      exact ⟨rfl, rfl⟩

def HsRel (xs : List It) (w : World) (v i : Value) (wr : World) : Prop :=
  ∃ k : Nat, k ≤ xs.length ∧ i = .int .i64 k ∧ RowI w.heap.size v ((hypL xs).take k) wr ∧ Below w.heap.size w wr
set_option maxHeartbeats 2000000 in
theorem shyps_any (a : Option Addr) (cap : Nat) (xs : List It) (w : World) (hz : Its w a xs) (hl : xs.length ≤ 1048576) :
    Calls Try.prog 97 #[.slice a xs.length cap] w (OutPost (hypL xs) w) := by
  obtain ⟨i0, hi, hz0, hz1, hz2⟩ := info_parts info_intP
  have HZ := Lib.hid hz
  clear hz
  go_enter Try.func97, Try.ntmps97
  go_wp2
  have hr0 : RowI w.heap.size (.slice (some ⟨w.heap.size, 0, none⟩) 0 0) [] (w.alloc (.cells #[] 3)) := World.ownsRow_lit w #[] 0 (Nat.le_refl _) (by unfold maxLen; omega) rfl
  have b0 : Below w.heap.size w (w.alloc (.cells #[] 3)) := Go.Joins.below_alloc1 ..
  have HR0 := Lib.hid hr0
  clear hr0
  generalize w.alloc (.cells #[] 3) = w0 at *
  go_loopw [3, 4] (HsRel xs w) (fun _ i _ => xs.length - (intOf i).toNat)
  case atStart => exact ⟨0, Nat.zero_le _, rfl, by rw [List.take_zero]; exact HR0.out, b0⟩
  case round =>
    clear HR0 b0
    obtain ⟨k, hk, rfl, ho, hb⟩ := hrel
    have HO := Lib.hid ho
    have HB := Lib.hid hb
    clear ho
    by_cases hlt : k < xs.length
    · obtain ⟨b, off, rfl, hbl, hrg⟩ := (HZ.out.below hb).look hlt
      have hlo : (0 : Int) ≤ (k : Int) := Int.natCast_nonneg _
      have hhi : (k : Int) < (xs.length : Int) := by omega
      have HSN := Lib.hid (show (hypL xs).take k ++ [hypV (itD xs k)] = (hypL xs).take (k + 1) by rw [← hypL_at hlt]; exact (take_snoc (by rw [hypL_len]; exact hlt)).symm)
      generalize itD xs k = x at *
      have RG := Lib.hid hrg
      clear hrg hb
      have hll : ((hypL xs).take k).length = k := by rw [List.length_take, hypL_len]; omega
      go_wp2_with (first
        | ((with_reducible apply list_load_it); exact rfl; exact rfl; exact rfl; (with_reducible exact RG.out); simp only [Act.put, List.setIfInBounds_toArray, List.set_cons_succ, List.set_cons_zero])
        | fail)
      refine (shyp x wr).mono ?_
      rintro e w1 ⟨rfl, b1⟩
      have hb1 := HB.out.trans (b1.mono HB.out.size)
      have HR1 := Lib.hid (HO.out.below b1)
      clear b1
      generalize hypV x = h at *
      have hs1 := Lib.hid hb1.size
      dsimp only
      go_wp2_with (at_builtin; refine wpList_append_own _ rfl _ _ 24 rfl w.heap.size 3 i0 (.int .i64 0) 1 8 Try.underlying24 hi hz0 hz1 hz2 rfl (by decide) _ _ _ rfl (World.ownsRow.alloc HR1.out _) ⟨w1.heap.size, 0, none⟩ 1 1 [.int .i64 h] rfl rfl (one_intP _ _ _) ?c2 ?c3 ?c4 ?c5 ?_)
      case c2 => intro u hu; simp at hu; subst hu; rfl
      case c3 => unfold maxLen; rw [hll]; omega
      case c4 => omega
      case c5 => have := hs1.out; simp; omega
      intro v' w3 hown3 hgr _
      have R3 := Lib.hid (show RowI w.heap.size v' ((hypL xs).take (k + 1)) w3 by rw [← HSN.out]; unfold RowI; rw [List.length_append, hll]; simpa using hown3)
      have B3 := Lib.hid ((hb1.alloc hb1.size (.cells #[Value.int .i64 h] 3)).grown hgr (by have := hb1.size; simp; omega) (fun g hg => (World.ownsRow.lt HR1.out g hg).1))
      clear hown3 hgr hb1
      go_wp2
      go_roundw
      case rel => exact ⟨k + 1, by omega, by go_num, R3.out, B3.out⟩
      case measure => simp [intOf]; omega
    · obtain rfl : k = xs.length := by omega
      have HO' := Lib.hid (show RowI w.heap.size _ (hypL xs) wr by have h := HO.out; rwa [List.take_of_length_le (by rw [hypL_len]; omega)] at h)
      go_wp2
      go_ret
      exact ⟨_, rfl, HO'.out, hb⟩

set_option maxHeartbeats 2000000 in
theorem iouter_any (a : Option Addr) (cap : Nat) (xs : List It) (b : Option Addr) (len cap2 : Nat) (zs : List Int) (gap : Int) (w : World) (hz : Its w a xs) (hl : xs.length ≤ 1048576) (hs : Ints w b len zs) (hsl : len ≤ 1048576) :
    Calls Try.prog 87 #[.slice a xs.length cap, .slice b len cap2, .int .i64 gap] w fun e w' => e = .returned (.int .i64 (ouV xs zs gap)) ∧ Below w.heap.size w w' := by
  have hzl : zs.length = len := hs.1
  have HZ := Lib.hid hz
  have HS := Lib.hid hs
  have HZL := Lib.hid hzl
  clear hz hs hzl
  have key : ∀ (s0 : Int), s0 = wrap64 (wsum zs len + gap * ((xs.length - 1 : Nat) : Int)) → wrap64 (s0 + mgK xs xs.length) = ouV xs zs gap := by
    intro s0 h
    rw [h, wr_l]; unfold ouV; rw [HZL.out]
  have KEY := Lib.hid key
  clear key
  go_enter Try.func87, Try.ntmps87
  go_wp2_with (fail)
  refine (isum_any b len cap2 zs w HS.out hsl).mono ?_
  rintro e w1 ⟨rfl, rfl⟩
  generalize hsm : wrap64 (wsum zs len) = sm at *
  obtain ⟨S0, hS0⟩ : ∃ S0 : Int, S0 = wrap64 (wsum zs len + gap * ((xs.length - 1 : Nat) : Int)) := ⟨_, rfl⟩
  have KEY2 := Lib.hid (KEY.out S0 hS0)
  clear KEY
  by_cases h1 : (xs.length : Int) - 1 < 0
  · obtain rfl : xs = [] := List.eq_nil_of_length_eq_zero (by omega)
    have hS : S0 = sm := by rw [hS0, ← hsm]; simp
    have HX := Lib.hid hS
    clear hS hS0 hsm h1
    go_wp2
    refine wp_loop_rounds 1 ?_
    rw [rounds_succ]
    go_wp2
    go_ret
    exact ⟨ret_int (by have := KEY2.out; rw [← this, HX.out]; simp [mgK, wr_l]), Below.refl _ _⟩
  · have HX := Lib.hid (show wrap64 (sm + wrap64 (gap * ((xs.length : Int) - 1))) = S0 by rw [hS0, ← hsm, wr_l, wr_r, show ((xs.length - 1 : Nat) : Int) = (xs.length : Int) - 1 by omega])
    have HI := Lib.hid (show wrap64 (S0 + mgK xs 0) = S0 by rw [hS0]; show wrap64 (wrap64 _ + 0) = _; rw [wr_l, Int.add_zero])
    clear hS0 hsm
    go_wp2
    rw [HX.out]
    go_loopw [7, 21] (fun t i wr => ∃ k : Nat, k ≤ xs.length ∧ t = .int .i64 (wrap64 (S0 + mgK xs k)) ∧ i = .int .i64 k ∧ Below w1.heap.size w1 wr) (fun _ i _ => xs.length - (intOf i).toNat)
    case atStart => exact ⟨0, Nat.zero_le _, by rw [HI.out], rfl, Below.refl _ _⟩
    case round =>
      obtain ⟨k, hk, rfl, rfl, hb⟩ := hrel
      by_cases hlt : k < xs.length
      · obtain ⟨b, off, rfl, hbl, hrg⟩ := (HZ.out.below hb).look hlt
        have hlo : (0 : Int) ≤ (k : Int) := Int.natCast_nonneg _
        have hhi : (k : Int) < (xs.length : Int) := by omega
        have HT := Lib.hid (show wrap64 (wrap64 (S0 + mgK xs k) + wrap64 ((itD xs k).before + (itD xs k).behind)) = wrap64 (S0 + mgK xs (k + 1)) by rw [wr_l, wr_r, Int.add_assoc]; rfl)
        generalize itD xs k = x at *
        generalize wrap64 (S0 + mgK xs k) = t at *
        have RG := Lib.hid hrg
        clear hrg
        obtain ⟨v, ev⟩ : ∃ v, v = wr.alloc (.cells #[.int .i64 x.base, .int .i64 x.least, .int .i64 x.most, .int .i64 x.grow, .int .i64 x.shrink, .int .i64 x.before, .int .i64 x.behind, .bool x.ab, .bool x.ah] 40) := ⟨_, rfl⟩
        have hown : v.heap[wr.heap.size]? = some (.cells #[.int .i64 x.base, .int .i64 x.least, .int .i64 x.most, .int .i64 x.grow, .int .i64 x.shrink, .int .i64 x.before, .int .i64 x.behind, .bool x.ab, .bool x.ah] 40) := ev ▸ hp_new wr _
        have hbv : Below w1.heap.size w1 v := ev ▸ hb.alloc hb.size (.cells #[.int .i64 x.base, .int .i64 x.least, .int .i64 x.most, .int .i64 x.grow, .int .i64 x.shrink, .int .i64 x.before, .int .i64 x.behind, .bool x.ab, .bool x.ah] 40)
        have N0 : v.cell? ⟨wr.heap.size, 0, none⟩ = some (.int .i64 x.base) := Go.Joins.cell_of_block hown 0
        have N1 : v.cell? ⟨wr.heap.size, 1, none⟩ = some (.int .i64 x.least) := Go.Joins.cell_of_block hown 1
        have N2 : v.cell? ⟨wr.heap.size, 2, none⟩ = some (.int .i64 x.most) := Go.Joins.cell_of_block hown 2
        have N3 : v.cell? ⟨wr.heap.size, 3, none⟩ = some (.int .i64 x.grow) := Go.Joins.cell_of_block hown 3
        have N4 : v.cell? ⟨wr.heap.size, 4, none⟩ = some (.int .i64 x.shrink) := Go.Joins.cell_of_block hown 4
        have N5 : v.cell? ⟨wr.heap.size, 5, none⟩ = some (.int .i64 x.before) := Go.Joins.cell_of_block hown 5
        have N6 : v.cell? ⟨wr.heap.size, 6, none⟩ = some (.int .i64 x.behind) := Go.Joins.cell_of_block hown 6
        have N7 : v.cell? ⟨wr.heap.size, 7, none⟩ = some (.bool x.ab) := Go.Joins.cell_of_block hown 7
        have N8 : v.cell? ⟨wr.heap.size, 8, none⟩ = some (.bool x.ah) := Go.Joins.cell_of_block hown 8
        have EV := Lib.hid ev
        clear ev hown
        have HBV := Lib.hid hbv
        clear hb hbv
        go_wp2_with (first
          | ((with_reducible apply list_load_it); exact rfl; exact rfl; exact rfl; (with_reducible exact RG.out); simp only [Act.put, List.setIfInBounds_toArray, List.set_cons_succ, List.set_cons_zero])
          | (rw [← EV.out])
          | fail)
        go_roundw
        case rel => exact ⟨k + 1, by omega, by rw [← HT.out], by go_num, HBV.out⟩
        case measure => simp [intOf]; omega
      · obtain rfl : k = xs.length := by omega
        go_wp2
        go_ret
        exact ⟨ret_int KEY2.out, hb⟩
set_option maxHeartbeats 2000000 in
theorem souter_any (a : Option Addr) (cap : Nat) (xs : List It) (b : Option Addr) (len cap2 : Nat) (zs : List Int) (gap : Int) (w : World) (hz : Its w a xs) (hl : xs.length ≤ 1048576) (hs : Ints w b len zs) (hsl : len ≤ 1048576) :
    Calls Try.prog 55 #[.slice a xs.length cap, .slice b len cap2, .int .i64 gap] w fun e w' => e = .returned (.int .i64 (ouV xs zs gap)) ∧ Below w.heap.size w w' := by
  have hzl : zs.length = len := hs.1
  have HZ := Lib.hid hz
  have HS := Lib.hid hs
  have HZL := Lib.hid hzl
  clear hz hs hzl
  go_enter Try.func55, Try.ntmps55
  go_wp2
  go_loopw [7, 8] (fun t i wr => ∃ k : Nat, k ≤ xs.length ∧ t = .int .i64 (wrap64 (mgK xs k + gap * ((k - 1 : Nat) : Int))) ∧ i = .int .i64 k ∧ Below w.heap.size w wr) (fun _ i _ => xs.length - (intOf i).toNat)
  case atStart => exact ⟨0, Nat.zero_le _, by simp [mgK, wr_zero], rfl, Below.refl _ _⟩
  case round =>
    obtain ⟨k, hk, rfl, rfl, hb⟩ := hrel
    by_cases hlt : k < xs.length
    · obtain ⟨b, off, rfl, hbl, hrg⟩ := (HZ.out.below hb).look hlt
      have hlo : (0 : Int) ≤ (k : Int) := Int.natCast_nonneg _
      have hhi : (k : Int) < (xs.length : Int) := by omega
      have HB := Lib.hid hb
      obtain ⟨c0, c1, c2, c3, c4, q5, q6, c7, c8⟩ := rg_it hrg
      clear c0 c1 c2 c3 c4 c7 c8
      have c5 := fun d os => cell_regrown q5 d os
      have c6 := fun d os => cell_regrown q6 d os
      clear q5 q6 hrg hb
      by_cases h0 : 0 < k
      · have hk0 : (0 : Int) < (k : Int) := by omega
        have HT := Lib.hid (show wrap64 (wrap64 (wrap64 (wrap64 (mgK xs k + gap * ((k - 1 : Nat) : Int)) + (itD xs k).before) + (itD xs k).behind) + gap) = wrap64 (mgK xs (k + 1) + gap * ((k + 1 - 1 : Nat) : Int)) by
          rw [wr_l, wr_l, wr_l2, gap_succ gap h0]
          congr 1
          show _ = mgK xs k + ((itD xs k).before + (itD xs k).behind) + _
          omega)
        generalize itD xs k = x at *
        generalize wrap64 (mgK xs k + gap * ((k - 1 : Nat) : Int)) = t at *
        go_wp2
        refine wp_region_quiet_below (by kernel_rfl) (by kernel_rfl) ?_
        repeat (go_big_quiet_step (fail))
        refine wpQuiet_nil ?_
        intro _ hw'
        obtain ⟨⟨dq, osq⟩, hw''⟩ := hw'
        subst hw''
        clear c5 c6
        go_wp2
        go_roundw
        case rel => exact ⟨k + 1, by omega, by rw [← HT.out], by go_num, HB.out.trans ((below_regrown wr dq osq).mono HB.out.size)⟩
        case measure => simp [intOf]; omega
      · obtain rfl : k = 0 := by omega
        have HT := Lib.hid (show wrap64 (wrap64 (wrap64 (mgK xs 0 + gap * ((0 - 1 : Nat) : Int)) + (itD xs 0).before) + (itD xs 0).behind) = wrap64 (mgK xs (0 + 1) + gap * ((0 + 1 - 1 : Nat) : Int)) by
          rw [wr_l, wr_l2]
          congr 1
          show _ = mgK xs 0 + ((itD xs 0).before + (itD xs 0).behind) + _
          simp
          omega)
        generalize itD xs 0 = x at *
        generalize wrap64 (mgK xs 0 + gap * ((0 - 1 : Nat) : Int)) = t at *
        go_wp2
        refine wp_region_quiet_below (by kernel_rfl) (by kernel_rfl) ?_
        repeat (go_big_quiet_step (fail))
        refine wpQuiet_nil ?_
        intro _ hw'
        obtain ⟨⟨dq, osq⟩, hw''⟩ := hw'
        subst hw''
        clear c5 c6
        go_wp2
        go_roundw
        case rel => exact ⟨0 + 1, by omega, by rw [← HT.out], by go_num, HB.out.trans ((below_regrown wr dq osq).mono HB.out.size)⟩
        case measure => simp [intOf]; omega
    · obtain rfl : k = xs.length := by omega
      clear hlt
      obtain ⟨T0, hT0⟩ : ∃ T0 : Int, T0 = mgK xs xs.length + gap * ((xs.length - 1 : Nat) : Int) := ⟨_, rfl⟩
      rw [← hT0]
      have HF := Lib.hid (show wrap64 (T0 + wsum zs len) = ouV xs zs gap by
        unfold ouV; rw [hT0, HZL.out]; congr 1; omega)
      clear hT0
      have HI := Lib.hid (show wrap64 (T0 + wsum zs 0) = wrap64 T0 by rw [show wsum zs 0 = 0 from rfl, Int.add_zero])
      have HS2 := Lib.hid (HS.out.below hb)
      go_wp2
      go_loopw [7, 9] (fun t i wr' => ∃ k : Nat, k ≤ len ∧ t = .int .i64 (wrap64 (T0 + wsum zs k)) ∧ i = .int .i64 k ∧ wr' = wr) (fun _ i _ => len - (intOf i).toNat)
      case atStart => exact ⟨0, Nat.zero_le _, by rw [HI.out], rfl, rfl⟩
      case round =>
        obtain ⟨j, hj, rfl, rfl, rfl⟩ := hrel
        by_cases hlt : j < len
        · obtain ⟨b, off, rfl, hbl, hc⟩ := HS2.out.look hlt
          have hlo : (0 : Int) ≤ (j : Int) := Int.natCast_nonneg _
          have hhi : (j : Int) < (len : Int) := by omega
          have HT := Lib.hid (show wrap64 (wrap64 (T0 + wsum zs j) + zs.getD j 0) = wrap64 (T0 + wsum zs (j + 1)) by rw [wr_l, Int.add_assoc]; rfl)
          generalize zs.getD j 0 = z at *
          generalize wrap64 (T0 + wsum zs j) = t at *
          go_wp2
          go_roundw
          case rel => exact ⟨j + 1, by omega, by rw [← HT.out], by go_num, (by first | trivial | rfl)⟩
          case measure => simp [intOf]; omega
        · obtain rfl : j = len := by omega
          go_wp2
          go_ret
          exact ⟨ret_int HF.out, hb⟩

theorem sgrows_any (a : Option Addr) (cap : Nat) (xs : List It) (gap inner : Int) (w : World) (hz : Its w a xs) (hl : xs.length ≤ 1048576) :
    Calls Try.prog 98 #[.slice a xs.length cap, .int .i64 gap, .int .i64 inner] w fun e w' => e = .returned (.bool (decide (ouV xs (hypL xs) gap < inner))) ∧ Below w.heap.size w w' := by
  have hr := hypL_all hz.1
  have HZ := Lib.hid hz
  clear hz
  go_enter Try.func98, Try.ntmps98
  go_wp2_with (fail)
  refine (shyps_any a cap xs w HZ.out hl).mono ?_
  rintro e w1 ⟨v1, rfl, r1, b1⟩
  obtain ⟨a1, cap1, rfl, hi1⟩ := r1.slice hr
  rw [hypL_len] at *
  have HI := Lib.hid hi1
  have B1 := Lib.hid b1
  clear hi1 r1 b1
  go_wp2_with (fail)
  refine (souter_any a cap xs a1 xs.length cap1 (hypL xs) gap w1 (HZ.out.below B1.out) hl HI.out hl).mono ?_
  rintro e w2 ⟨rfl, b2⟩
  generalize hO : ouV xs (hypL xs) gap = o at *
  have HO := Lib.hid hO
  clear hO
  by_cases ho : o < inner <;>
    (go_wp2
     go_ret
     exact ⟨congrArg (fun t => Ending.returned (.bool t)) (by simp [HO.out, ho]), B1.out.trans (b2.mono B1.out.size)⟩)
end Go.Proofs.Ytnncdpkmhpjmbaa
end

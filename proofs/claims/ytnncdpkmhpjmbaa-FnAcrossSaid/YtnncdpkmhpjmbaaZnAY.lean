import Derived.Laws.OwnMore
import Derived.OwnWalk
import Derived.BigQuiet
import Derived.Lib.QuietBelow
import Derived.Test.YtnncdpkmhpjmbaaZnAJ
import Derived.Test.YtnncdpkmhpjmbaaZnAK
import Derived.Test.YtnncdpkmhpjmbaaZnAS
section
namespace Go.Proofs.Ytnncdpkmhpjmbaa
open Go.ChangeShapes Go.WideShapes Go.ChangeAt Go.RowKit
set_option linter.unusedVariables false
set_option linter.unusedSimpArgs false
set_option maxRecDepth 8000

/-- The sum of the margins of the first items. -/
def mgK (xs : List It) : Nat → Int
  | 0 => 0
  | k + 1 => mgK xs k + ((itD xs k).before + (itD xs k).behind)
/-- What the items take up, as an int wraps it. -/
def ouV (xs : List It) (zs : List Int) (gap : Int) : Int := wrap64 (wsum zs zs.length + gap * ((xs.length - 1 : Nat) : Int) + mgK xs xs.length)
theorem gap_succ (gap : Int) {k : Nat} (h : 0 < k) : gap * ((k + 1 - 1 : Nat) : Int) = gap * ((k - 1 : Nat) : Int) + gap := by
  obtain ⟨m, rfl⟩ : ∃ m, k = m + 1 := ⟨k - 1, by omega⟩
  simp only [Nat.add_sub_cancel]
  rw [show ((m + 1 : Nat) : Int) = (m : Int) + 1 by omega, Int.mul_add, Int.mul_one]
set_option maxHeartbeats 400000 in
theorem isum_any (a : Option Addr) (len cap : Nat) (zs : List Int) (w : World) (hz : Ints w a len zs) (hl : len ≤ 1048576) :
    Calls Try.prog 95 #[.slice a len cap] w fun e w' => e = .returned (.int .i64 (wrap64 (wsum zs len))) ∧ w' = w := by
  go_enter Try.func95, Try.ntmps95
  go_wp2
  go_loop [3, 8] (fun t i => ∃ k : Nat, k ≤ len ∧ t = .int .i64 (wrap64 (wsum zs k)) ∧ i = .int .i64 k) (fun _ i => len - (intOf i).toNat)
  case atStart => exact ⟨0, Nat.zero_le _, by rw [show wsum zs 0 = 0 from rfl, wr_zero], rfl⟩
  case round =>
    obtain ⟨k, hk, rfl, rfl⟩ := hrel
    by_cases hlt : k < len
    · obtain ⟨b, off, rfl, hb, hc⟩ := hz.look hlt
      have hlo : (0 : Int) ≤ (k : Int) := Int.natCast_nonneg _
      have hhi : (k : Int) < (len : Int) := by omega
      have HZ := Lib.hid hz
      clear hz
      have hs : wrap64 (wrap64 (wsum zs k) + zs.getD k 0) = wrap64 (wsum zs (k + 1)) := wr_l _ _
      generalize zs.getD k 0 = z at *
      generalize wrap64 (wsum zs k) = t at *
      have HS := Lib.hid hs
      clear hs
      go_wp2
      go_round
      case rel => exact ⟨k + 1, by omega, by rw [HS.out], by go_num⟩
      case measure => simp [intOf]; omega
    · obtain rfl : k = len := by omega
      clear hz
      go_wp2
      go_ret
      exact ⟨rfl, rfl⟩

set_option maxHeartbeats 2000000 in
theorem iouter_any (a : Option Addr) (cap : Nat) (xs : List It) (b : Option Addr) (len cap2 : Nat) (zs : List Int) (gap : Int) (w : World) (hz : Its w a xs) (hl : xs.length ≤ 1048576) (hs : Ints w b len zs) (hsl : len ≤ 1048576) :
    Calls Try.prog 87 #[.slice a xs.length cap, .slice b len cap2, .int .i64 gap] w fun e w' => e = .returned (.int .i64 (ouV xs zs gap)) ∧ Below w.heap.size w w' := by
  have hzl : zs.length = len := hs.1
  have HZ := Lib.hid hz
  have HS := Lib.hid hs
  have HZL := Lib.hid hzl
  clear hz hs hzl
  have key : ∀ (s0 : Int), s0 = wrap64 (wsum zs len + gap * ((xs.length - 1 : Nat) : Int)) → wrap64 (s0 + mgK xs xs.length) = ouV xs zs gap := by
    intro s0 h
    rw [h, wr_l]; unfold ouV; rw [HZL.out]
  have KEY := Lib.hid key
  clear key
  go_enter Try.func87, Try.ntmps87
  go_wp2_with (fail)
  refine (isum_any b len cap2 zs w HS.out hsl).mono ?_
  rintro e w1 ⟨rfl, rfl⟩
  generalize hsm : wrap64 (wsum zs len) = sm at *
  obtain ⟨S0, hS0⟩ : ∃ S0 : Int, S0 = wrap64 (wsum zs len + gap * ((xs.length - 1 : Nat) : Int)) := ⟨_, rfl⟩
  have KEY2 := Lib.hid (KEY.out S0 hS0)
  clear KEY
  by_cases h1 : (xs.length : Int) - 1 < 0
  · obtain rfl : xs = [] := List.eq_nil_of_length_eq_zero (by omega)
    have hS : S0 = sm := by rw [hS0, ← hsm]; simp
    have HX := Lib.hid hS
    clear hS hS0 hsm h1
    go_wp2
    refine wp_loop_rounds 1 ?_
    rw [rounds_succ]
    go_wp2
    go_ret
    exact ⟨ret_int (by have := KEY2.out; rw [← this, HX.out]; simp [mgK, wr_l]), Below.refl _ _⟩
  · have HX := Lib.hid (show wrap64 (sm + wrap64 (gap * ((xs.length : Int) - 1))) = S0 by rw [hS0, ← hsm, wr_l, wr_r, show ((xs.length - 1 : Nat) : Int) = (xs.length : Int) - 1 by omega])
    have HI := Lib.hid (show wrap64 (S0 + mgK xs 0) = S0 by rw [hS0]; show wrap64 (wrap64 _ + 0) = _; rw [wr_l, Int.add_zero])
    clear hS0 hsm
    go_wp2
    rw [HX.out]
    go_loopw [7, 21] (fun t i wr => ∃ k : Nat, k ≤ xs.length ∧ t = .int .i64 (wrap64 (S0 + mgK xs k)) ∧ i = .int .i64 k ∧ Below w1.heap.size w1 wr) (fun _ i _ => xs.length - (intOf i).toNat)
    case atStart => exact ⟨0, Nat.zero_le _, by rw [HI.out], rfl, Below.refl _ _⟩
    case round =>
      obtain ⟨k, hk, rfl, rfl, hb⟩ := hrel
      by_cases hlt : k < xs.length
      · obtain ⟨b, off, rfl, hbl, hrg⟩ := (HZ.out.below hb).look hlt
        have hlo : (0 : Int) ≤ (k : Int) := Int.natCast_nonneg _
        have hhi : (k : Int) < (xs.length : Int) := by omega
        have HT := Lib.hid (show wrap64 (wrap64 (S0 + mgK xs k) + wrap64 ((itD xs k).before + (itD xs k).behind)) = wrap64 (S0 + mgK xs (k + 1)) by rw [wr_l, wr_r, Int.add_assoc]; rfl)
        generalize itD xs k = x at *
        generalize wrap64 (S0 + mgK xs k) = t at *
        have RG := Lib.hid hrg
        clear hrg
        obtain ⟨v, ev⟩ : ∃ v, v = wr.alloc (.cells #[.int .i64 x.base, .int .i64 x.least, .int .i64 x.most, .int .i64 x.grow, .int .i64 x.shrink, .int .i64 x.before, .int .i64 x.behind, .bool x.ab, .bool x.ah] 40) := ⟨_, rfl⟩
        have hown : v.heap[wr.heap.size]? = some (.cells #[.int .i64 x.base, .int .i64 x.least, .int .i64 x.most, .int .i64 x.grow, .int .i64 x.shrink, .int .i64 x.before, .int .i64 x.behind, .bool x.ab, .bool x.ah] 40) := ev ▸ hp_new wr _
        have hbv : Below w1.heap.size w1 v := ev ▸ hb.alloc hb.size (.cells #[.int .i64 x.base, .int .i64 x.least, .int .i64 x.most, .int .i64 x.grow, .int .i64 x.shrink, .int .i64 x.before, .int .i64 x.behind, .bool x.ab, .bool x.ah] 40)
        have N0 : v.cell? ⟨wr.heap.size, 0, none⟩ = some (.int .i64 x.base) := Go.Joins.cell_of_block hown 0
        have N1 : v.cell? ⟨wr.heap.size, 1, none⟩ = some (.int .i64 x.least) := Go.Joins.cell_of_block hown 1
        have N2 : v.cell? ⟨wr.heap.size, 2, none⟩ = some (.int .i64 x.most) := Go.Joins.cell_of_block hown 2
        have N3 : v.cell? ⟨wr.heap.size, 3, none⟩ = some (.int .i64 x.grow) := Go.Joins.cell_of_block hown 3
        have N4 : v.cell? ⟨wr.heap.size, 4, none⟩ = some (.int .i64 x.shrink) := Go.Joins.cell_of_block hown 4
        have N5 : v.cell? ⟨wr.heap.size, 5, none⟩ = some (.int .i64 x.before) := Go.Joins.cell_of_block hown 5
        have N6 : v.cell? ⟨wr.heap.size, 6, none⟩ = some (.int .i64 x.behind) := Go.Joins.cell_of_block hown 6
        have N7 : v.cell? ⟨wr.heap.size, 7, none⟩ = some (.bool x.ab) := Go.Joins.cell_of_block hown 7
        have N8 : v.cell? ⟨wr.heap.size, 8, none⟩ = some (.bool x.ah) := Go.Joins.cell_of_block hown 8
        have EV := Lib.hid ev
        clear ev hown
        have HBV := Lib.hid hbv
        clear hb hbv
        go_wp2_with (first
          | ((with_reducible apply list_load_it); exact rfl; exact rfl; exact rfl; (with_reducible exact RG.out); simp only [Act.put, List.setIfInBounds_toArray, List.set_cons_succ, List.set_cons_zero])
          | (rw [← EV.out])
          | fail)
        go_roundw
        case rel => exact ⟨k + 1, by omega, by rw [← HT.out], by go_num, HBV.out⟩
        case measure => simp [intOf]; omega
      · obtain rfl : k = xs.length := by omega
        go_wp2
        go_ret
        exact ⟨ret_int KEY2.out, hb⟩
end Go.Proofs.Ytnncdpkmhpjmbaa
end

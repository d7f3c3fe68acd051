/-
  The longest line (LongestOf of program and model). Conditions: at most 1048576 items.
-/
import Derived.Test.YtcnmchcleghcgaaLnI
import Derived.Test.YtcnmchcleghcgaaLnS
import Derived.Test.YtcnmchcleghcgaaLnK
namespace Go.Proofs.Ytcnmchcleghcgaa
open Go.ChangeShapes Go.WideShapes Go.ChangeAt Go.RowKit
set_option linter.unusedVariables false
set_option linter.unusedSimpArgs false
set_option maxRecDepth 20000

def pD (ps : List (Nat × Nat)) (j : Nat) : Nat × Nat := ps.getD j (0, 0)
theorem pD_eq {ps : List (Nat × Nat)} {j : Nat} (h : j < ps.length) : ps[j]? = some (pD ps j) := by simp [pD, List.getD, h]
theorem pD_mem {ps : List (Nat × Nat)} {j : Nat} (h : j < ps.length) : pD ps j ∈ ps := List.mem_of_getElem? (pD_eq h)
theorem lnD_map {ps : List (Nat × Nat)} {j : Nat} (h : j < ps.length) : lnD (ps.map lineI) j = lineI (pD ps j) := by
  simp [lnD, pD, List.getD, h]
/-- The greater of 0 and of what the first lines take up. -/
def lgP (xs : List It) (gap : Int) (ps : List (Nat × Nat)) : Nat → Int
  | 0 => 0
  | j + 1 => if lgP xs gap ps j < segO xs gap (pD ps j).1 (pD ps j).2 then segO xs gap (pD ps j).1 (pD ps j).2 else lgP xs gap ps j
set_option maxHeartbeats 4000000 in
theorem ilongest (a : Option Addr) (cap : Nat) (xs : List It) (gap room : Int) (wraps : Bool) (w : World) (hz : Its w a xs) (hl : xs.length ≤ 1048576) (hcap : xs.length ≤ cap) :
    Calls Try.prog 46 #[.slice a xs.length cap, .int .i64 gap, .int .i64 room, .bool wraps] w fun e w' => e = .returned (.int .i64 (lgP xs gap (lnK xs gap room wraps xs.length) (lnK xs gap room wraps xs.length).length)) ∧ Below w.heap.size w w' := by
  have kl := ilines a cap xs gap room wraps w hz hl hcap
  have hpos := lnK_pos (xs := xs) (gap := gap) (room := room) (wraps := wraps) xs.length
  have hpl : (lnK xs gap room wraps xs.length).length ≤ 1048576 := Nat.le_trans (lnK_len _) hl
  (try unfold lnL at kl)
  generalize lnK xs gap room wraps xs.length = PS at *
  have HPOS := Lib.hid hpos
  have HZ := Lib.hid hz
  clear hz hpos
  go_enter Try.func46, Try.ntmps46
  go_wp2_with (fail)
  refine kl.mono ?_
  rintro e w1 ⟨v1, g1, rfl, r1, b1⟩
  obtain ⟨a1, c1, e1, hss⟩ := (r1.read HPOS.out hl).read
  rw [List.length_map] at e1
  subst e1
  have HSS := Lib.hid hss
  have B1 := Lib.hid b1
  clear kl r1 b1 hss
  (try dsimp only)
  go_wp2_with (fail)
  go_loopw [9, 18] (fun q i wr => ∃ j : Nat, j ≤ PS.length ∧ i = .int .i64 j ∧ q = .int .i64 (lgP xs gap PS j) ∧ Below w.heap.size w wr ∧ Below w1.heap.size w1 wr) (fun _ i _ => PS.length - (intOf i).toNat)
  case atStart => exact ⟨0, Nat.zero_le _, rfl, rfl, B1.out, Below.refl _ _⟩
  case round =>
    obtain ⟨j, hj, rfl, rfl, hb0, hb⟩ := hrel
    have HB := Lib.hid hb
    have HB0 := Lib.hid hb0
    by_cases hlt : j < PS.length
    · have hlo : (0 : Int) ≤ (j : Int) := Int.natCast_nonneg _
      have hhi : (j : Int) < (PS.length : Int) := by omega
      obtain ⟨b, off, ak, ck, rfl, hbl, hcell, hi⟩ := (HSS.out.below hb).look (k := j) (by rw [List.length_map]; exact hlt)
      rw [lnD_map hlt] at hcell hi
      have hpos := HPOS.out _ (pD_mem hlt)
      obtain ⟨p, ep⟩ : ∃ q, q = pD PS j := ⟨_, rfl⟩
      have HPD := Lib.hid ep.symm
      rw [← ep] at hcell hi hpos
      rw [lineI_len] at hcell hi
      clear ep hb
      go_wp2_with (fail)
      refine (ilit a cap xs ak (p.2 - p.1) ck (lineI p) wr (HZ.out.below hb0) hl hi (by omega)).mono ?_
      rintro e w2 ⟨v2, rfl, r2, b2⟩
      rw [liV_line (s := p.1) (t := p.2) (by omega) (by omega)] at r2
      obtain ⟨a2, c2, rfl, hz2⟩ := r2.slice (fun x hx => HZ.out.1 x (segT_mem x hx))
      have hsl : (segT xs p.1 p.2).length ≤ 1048576 := by rw [segT_len (by omega)]; omega
      have ko := ihypouter_any a2 c2 (segT xs p.1 p.2) gap w2 hz2 hsl
      obtain ⟨o, eo⟩ : ∃ q, q = segO xs gap p.1 p.2 := ⟨_, rfl⟩
      have ko' : Calls Try.prog 78 #[.slice a2 (segT xs p.1 p.2).length c2, .int .i64 gap] w2 fun e w' => e = .returned (.int .i64 o) ∧ Below w2.heap.size w2 w' := by rw [eo]; exact ko
      have HLG := Lib.hid (show lgP xs gap PS (j + 1) = if lgP xs gap PS j < o then o else lgP xs gap PS j by rw [eo]; show (if _ < segO xs gap (pD PS j).1 (pD PS j).2 then _ else _) = _; rw [HPD.out])
      have B2 := Lib.hid (HB.out.trans (b2.mono HB.out.size))
      have C2 := Lib.hid (HB0.out.trans (b2.mono HB0.out.size))
      clear r2 b2 hz2 ko eo hsl
      generalize (segT xs p.1 p.2).length = m at *
      generalize lgP xs gap PS j = n at *
      have KO := Lib.hid ko'
      clear ko'
      (try dsimp only)
      go_wp2_with (fail)
      refine KO.out.mono ?_
      rintro e w3 ⟨rfl, b3⟩
      have B3 := Lib.hid (B2.out.trans (b3.mono B2.out.size))
      have C3 := Lib.hid (C2.out.trans (b3.mono C2.out.size))
      clear KO b3 hcell B2
      by_cases hno : n < o
      · have HL2 := Lib.hid (show lgP xs gap PS (j + 1) = o by rw [HLG.out, if_pos hno])
        have hno2 : ¬ o ≤ n := by omega
        have hno3 : n ≤ o := by omega
        (try dsimp only)
        go_wp2
        go_roundw
        case rel => exact ⟨j + 1, by omega, by go_num, by rw [HL2.out], C3.out, B3.out⟩
        case measure => simp [intOf]; omega
      · have HL2 := Lib.hid (show lgP xs gap PS (j + 1) = n by rw [HLG.out, if_neg hno])
        have hno2 : o ≤ n := by omega
        (try dsimp only)
        go_wp2
        go_roundw
        case rel => exact ⟨j + 1, by omega, by go_num, by rw [HL2.out], C3.out, B3.out⟩
        case measure => simp [intOf]; omega
    · obtain rfl : j = PS.length := by omega
      clear hb
      go_wp2
      go_ret
      exact ⟨rfl, hb0⟩
set_option maxHeartbeats 4000000 in
theorem slongest (a : Option Addr) (cap : Nat) (xs : List It) (gap room : Int) (wraps : Bool) (w : World) (hz : Its w a xs) (hl : xs.length ≤ 1048576) :
    Calls Try.prog 47 #[.slice a xs.length cap, .int .i64 gap, .int .i64 room, .bool wraps] w fun e w' => e = .returned (.int .i64 (lgP xs gap (lnK xs gap room wraps xs.length) (lnK xs gap room wraps xs.length).length)) ∧ Below w.heap.size w w' := by
  have kl := slines a cap xs gap room wraps w hz hl
  have hpos := lnK_pos (xs := xs) (gap := gap) (room := room) (wraps := wraps) xs.length
  have hpl : (lnK xs gap room wraps xs.length).length ≤ 1048576 := Nat.le_trans (lnK_len _) hl
  (try unfold lnL at kl)
  generalize lnK xs gap room wraps xs.length = PS at *
  have HPOS := Lib.hid hpos
  have HZ := Lib.hid hz
  clear hz hpos
  go_enter Try.func47, Try.ntmps47
  go_wp2_with (fail)
  refine kl.mono ?_
  rintro e w1 ⟨v1, rfl, r1, b1⟩
  obtain ⟨a1, c1, e1, hss⟩ := r1.read
  rw [List.length_map] at e1
  subst e1
  have HSS := Lib.hid hss
  have B1 := Lib.hid b1
  clear kl r1 b1 hss
  (try dsimp only)
  go_wp2_with (fail)
  go_loopw [9, 11] (fun q i wr => ∃ j : Nat, j ≤ PS.length ∧ i = .int .i64 j ∧ q = .int .i64 (lgP xs gap PS j) ∧ Below w.heap.size w wr ∧ Below w1.heap.size w1 wr) (fun _ i _ => PS.length - (intOf i).toNat)
  case atStart => exact ⟨0, Nat.zero_le _, rfl, rfl, B1.out, Below.refl _ _⟩
  case round =>
    obtain ⟨j, hj, rfl, rfl, hb0, hb⟩ := hrel
    have HB := Lib.hid hb
    have HB0 := Lib.hid hb0
    by_cases hlt : j < PS.length
    · have hlo : (0 : Int) ≤ (j : Int) := Int.natCast_nonneg _
      have hhi : (j : Int) < (PS.length : Int) := by omega
      obtain ⟨b, off, ak, ck, rfl, hbl, hcell, hi⟩ := (HSS.out.below hb).look (k := j) (by rw [List.length_map]; exact hlt)
      rw [lnD_map hlt] at hcell hi
      have hpos := HPOS.out _ (pD_mem hlt)
      obtain ⟨p, ep⟩ : ∃ q, q = pD PS j := ⟨_, rfl⟩
      have HPD := Lib.hid ep.symm
      rw [← ep] at hcell hi hpos
      rw [lineI_len] at hcell hi
      clear ep hb
      go_wp2_with (fail)
      have ko := souter14 a cap xs ak (p.2 - p.1) ck (lineI p) gap wr (HZ.out.below hb0) hl hi (by omega)
      rw [liV_line (s := p.1) (t := p.2) (by omega) (by omega)] at ko
      obtain ⟨o, eo⟩ : ∃ q, q = segO xs gap p.1 p.2 := ⟨_, rfl⟩
      have ko' : Calls Try.prog 75 #[.slice a xs.length cap, .slice ak (p.2 - p.1) ck, .int .i64 gap] wr fun e w' => e = .returned (.int .i64 o) ∧ Below wr.heap.size wr w' := by rw [eo]; exact ko
      have HLG := Lib.hid (show lgP xs gap PS (j + 1) = if lgP xs gap PS j < o then o else lgP xs gap PS j by rw [eo]; show (if _ < segO xs gap (pD PS j).1 (pD PS j).2 then _ else _) = _; rw [HPD.out])
      clear ko eo hi
      generalize lgP xs gap PS j = n at *
      have KO := Lib.hid ko'
      clear ko'
      refine KO.out.mono ?_
      rintro e w3 ⟨rfl, b3⟩
      have B3 := Lib.hid (HB.out.trans (b3.mono HB.out.size))
      have C3 := Lib.hid (HB0.out.trans (b3.mono HB0.out.size))
      clear KO b3 hcell
      by_cases hno : n < o
      · have HL2 := Lib.hid (show lgP xs gap PS (j + 1) = o by rw [HLG.out, if_pos hno])
        (try dsimp only)
        go_wp2
        go_roundw
        case rel => exact ⟨j + 1, by omega, by go_num, by rw [HL2.out], C3.out, B3.out⟩
        case measure => simp [intOf]; omega
      · have HL2 := Lib.hid (show lgP xs gap PS (j + 1) = n by rw [HLG.out, if_neg hno])
        (try dsimp only)
        go_wp2
        go_roundw
        case rel => exact ⟨j + 1, by omega, by go_num, by rw [HL2.out], C3.out, B3.out⟩
        case measure => simp [intOf]; omega
    · obtain rfl : j = PS.length := by omega
      clear hb
      go_wp2
      go_ret
      exact ⟨rfl, hb0⟩
end Go.Proofs.Ytcnmchcleghcgaa

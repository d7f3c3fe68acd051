/-
  The drawing of items and of a line of indexes (spec.DrawLineItems). Conditions: the code is whole.
-/
import Derived.Test.YtcnmchcleghcgaaLnD
import Derived.Test.YtcnmchcleghcgaaDrR
namespace Go.Proofs.Ytcnmchcleghcgaa
open Go.ChangeShapes Go.WideShapes Go.ChangeAt Go.RowKit
set_option linter.unusedVariables false
set_option linter.unusedSimpArgs false
set_option maxRecDepth 20000

def LePost (w : World) (e : Ending) (w' : World) : Prop :=
  ∃ (v : Value) (xs : List It) (u : Value) (zs : List Int), e = .returned (.tuple #[v, u]) ∧ xs.length ≤ 13 ∧ (∀ x ∈ xs, x.Dr) ∧ RowT w.heap.size v xs w' ∧ zs.length ≤ 5 ∧ AllI zs ∧ RowI w.heap.size u zs w' ∧ Below w.heap.size w w'
def LeRel (cb : Nat) (a : Option Addr) (len cap : Nat) (w : World) (v i : Value) (wr : World) : Prop :=
  ∃ (k : Nat) (xs : List Int), k ≤ 5 ∧ i = .int .i64 k ∧ xs.length = k ∧ AllI xs ∧ RowI w.heap.size v xs wr ∧ Cur cb a len cap wr ∧ w.grownBy wr (some cb)
set_option maxHeartbeats 4000000 in
theorem draw_lineitems (a : Option Addr) (len cap : Nat) (w : World) (hl : len ≤ 1048576) (hc : Code w a len) :
    Calls Try.prog 45 #[.slice a len cap] w (LePost w) := by
  obtain ⟨i0, hi, hz0, hz1, hz2⟩ := info_parts info_int
  go_enter Try.func45, Try.ntmps45
  go_wp2_with (fail)
  refine (new_cur a len cap w hl hc).mono ?_
  rintro e w1 ⟨rfl, c1, b1, l1⟩
  have hap : 0 < len → ∀ b off, a = some ⟨b, off, none⟩ → b < w1.heap.size := fun h0 b off e => Nat.lt_trans (code_lt hc h0 b off e) l1
  have HAP := Lib.hid hap
  clear hc hap
  obtain ⟨cb, ecb⟩ : ∃ q, q = w.heap.size := ⟨_, rfl⟩
  have hlo : w.heap.size ≤ cb := by omega
  rw [← ecb] at c1 ⊢
  have hcb1 : cb < w1.heap.size := by omega
  clear ecb
  have hr0 : RowI w1.heap.size (.slice (some ⟨w1.heap.size, 0, none⟩) 0 0) [] (w1.alloc (.cells #[] 3)) := World.ownsRow_lit w1 #[] 0 (Nat.le_refl _) (by unfold maxLen; omega) rfl
  have g0 : w1.grownBy (w1.alloc (.cells #[] 3)) (some cb) := World.grownBy_alloc w1 _ _
  have hc0 : Cur cb a len cap (w1.alloc (.cells #[] 3)) := c1.kept hcb1 (World.grownBy_alloc w1 _ none) (fun k hk => by cases hk)
  have HB1 := Lib.hid b1
  have HREL := Lib.hid (show LeRel cb a len cap w1 (.slice (some ⟨w1.heap.size, 0, none⟩) 0 0) (.int .i64 0) (w1.alloc (.cells #[] 3)) from ⟨0, [], by omega, rfl, rfl, (fun z hz => by cases hz), hr0, hc0, g0⟩)
  clear hr0 g0 hc0 c1 b1
  (try dsimp only)
  go_wp2_with (fail)
  go_loopw [5, 6] (LeRel cb a len cap w1) (fun _ i _ => 5 - (intOf i).toNat)
  case atStart => exact HREL.out
  case round =>
    clear HREL
    obtain ⟨k, xs, hk, rfl, hxl, hxa, hr, hcw, hg⟩ := hrel
    have HXL := Lib.hid hxl
    have HR := Lib.hid hr
    have HXA := Lib.hid hxa
    clear hxl hr hxa
    go_wp2_with (fail)
    refine (below_pos 5 cb a len cap wr (by omega) (by omega) hcw).mono ?_
    rintro e w2 ⟨x, rfl, x0, x1, c2, g2, s2⟩
    clear s2 hcw
    have hg2 := gr_trans hg g2
    have HR2 := Lib.hid (HR.out.cur g2 hcb1)
    clear HR g2 hg
    have hcb2 : cb < w2.heap.size := Nat.lt_of_lt_of_le hcb1 hg2.size
    by_cases hlt : (k : Int) < x
    · go_wp2_with (fail)
      refine (below_pos 7 cb a len cap w2 (by omega) (by omega) c2).mono ?_
      rintro e w3 ⟨y, rfl, y0, y1, c3, g3, s3⟩
      clear s3
      have hg3 := gr_trans hg2 g3
      have HR3 := Lib.hid (HR2.out.cur g3 hcb1)
      have HS3 := Lib.hid hg3.size
      have hxl5 : xs.length ≤ 5 := by have := HXL.out; omega
      clear HR2 g3 hg2 c2
      go_wp2_with (at_builtin; refine wpList_append_own _ rfl _ _ 25 rfl w1.heap.size 3 i0 (.int .i64 0) 1 8 Try.underlying25 hi hz0 hz1 hz2 rfl (by decide) _ _ _ rfl (World.ownsRow.alloc HR3.out _) ⟨w3.heap.size, 0, none⟩ 1 1 [.int .i64 (y - 1)] rfl rfl (one_int _ _ _) ?c2 ?c3 ?c4 ?c5 ?_)
      case c2 => intro u hu; simp at hu; subst hu; rfl
      case c3 => unfold maxLen; omega
      case c4 => omega
      case c5 => have := HS3.out; simp; omega
      intro v' w4 hown4 hgr _
      have ga := World.grownBy_alloc w3 (.cells #[Value.int .i64 (y - 1)] 3) none
      have hcA := c3.kept (Nat.lt_of_lt_of_le hcb1 hg3.size) ga (fun k hk => by cases hk)
      have HRA : RowI w1.heap.size u5 xs (w3.alloc (.cells #[Value.int .i64 (y - 1)] 3)) := World.ownsRow.alloc HR3.out _
      have hgA := gr_trans hg3 (gr_none ga (some cb))
      have C4 := Lib.hid (Cur.row hcb1 hcA hgA HRA hgr HAP.out)
      have G4 := Lib.hid (gr_row hgA HRA hgr)
      have R4 := Lib.hid (show RowI w1.heap.size v' (xs ++ [y - 1]) w4 by unfold RowI; simpa using hown4)
      clear hown4 hgr ga hcA HRA hgA HR3 hg3 c3
      go_wp2
      go_roundw
      case rel => exact ⟨k + 1, xs ++ [y - 1], by omega, by go_num, by have := HXL.out; simp; omega, HXA.out.snoc (by omega) (by omega), R4.out, C4.out, G4.out⟩
      case measure => simp [intOf]; omega
    · go_wp2_with (fail)
      refine (drawany cb a len cap w2 hcb2 (fun h0 b off e => Nat.lt_of_lt_of_le (HAP.out h0 b off e) hg2.size) c2).mono ?_
      rintro e w3 ⟨v, ys, rfl, hyl, hy, hry, c3, g3⟩
      have hlr := hg2.size
      have hlw := HB1.out.size
      have HY := Lib.hid hy
      have HRY := Lib.hid (hry.lower (by omega : w.heap.size ≤ w2.heap.size))
      have HR3 := Lib.hid (lowI (HR2.out.cur g3 hcb1) (by omega : w.heap.size ≤ w1.heap.size))
      have hg3 := gr_trans hg2 g3
      have B3 := Lib.hid (HB1.out.grown hg3 HB1.out.size (fun g hg => by simp at hg; omega))
      have hxl5 : xs.length ≤ 5 := by have := HXL.out; omega
      clear hry hy c3 g3 HR2 hg2 c2 hg3
      (try dsimp only)
      go_wp2
      go_ret2
      exact ⟨v, ys, _, xs, rfl, hyl, HY.out, HRY.out, hxl5, HXA.out, HR3.out, B3.out⟩
end Go.Proofs.Ytcnmchcleghcgaa

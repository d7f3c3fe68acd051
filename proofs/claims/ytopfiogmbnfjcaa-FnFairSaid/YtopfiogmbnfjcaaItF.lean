/-
  The drawing of a line's case (spec.l13Case, DrawFlexLine): items in range in a row of their own, a gap, a room. Conditions: the code is whole.
-/
import Derived.Test.YtopfiogmbnfjcaaItE
import Derived.Test.YtopfiogmbnfjcaaOut
namespace Go.Proofs.Ytopfiogmbnfjcaa
open Go.ChangeShapes Go.WideShapes Go.ChangeAt Go.RowKit
set_option linter.unusedVariables false
set_option linter.unusedSimpArgs false
set_option maxRecDepth 20000

/-- Items that were just written down. -/
theorem lit_its (w : World) (xs : List It) (t : TypeId) (hr : ∀ x ∈ xs, x.inr) : Its (w.alloc (.cells (cellsI xs).toArray t)) (some ⟨w.heap.size, 0, none⟩) xs := by
  refine ⟨hr, Or.inr ⟨w.heap.size, 0, rfl, by simp, fun k x hk j v hv => ?_⟩⟩
  have hj : j < 9 := by have := (List.getElem?_eq_some_iff.1 hv).1; simpa [It.L_len] using this
  have h := range_block (hp_new w (.cells (cellsI xs).toArray t)) (k * 9 + j) v (by
    rw [List.toList_toArray, cellsI_at xs k j hj, hk]
    exact hv)
  rw [show 0 + (k * 9 + j) = 0 + k * 9 + j by omega] at h
  exact h
def FlCase (w : World) (e : Ending) (w' : World) : Prop :=
  ∃ (v : Value) (xs : List It) (gap inner : Int), e = .returned (.tuple #[v, .int .i64 gap, .int .i64 inner]) ∧ xs.length ≤ 13 ∧ (∀ x ∈ xs, x.Dr) ∧ RowT w.heap.size v xs w' ∧ (-1 ≤ gap ∧ gap ≤ 1048577) ∧ I64 inner ∧ Below w.heap.size w w'
theorem gr_bel {w w' : World} (h : Below w.heap.size w w') (row : Option Nat) : w.grownBy w' row := ⟨h.os, h.tape, h.output, h.size, fun k hk _ => h.block k hk⟩
theorem Cur.bel {cb : Nat} {a : Option Addr} {len cap : Nat} {w w' : World} (h : Cur cb a len cap w) (hcb : cb < w.heap.size) (hb : Below w.heap.size w w') : Cur cb a len cap w' := h.kept hcb (gr_bel hb none) (fun k hk => by cases hk)
set_option maxHeartbeats 4000000 in
theorem flcase (a : Option Addr) (len cap : Nat) (w : World) (hl : len ≤ 1048576) (hc : Code w a len) :
    Calls Try.prog 60 #[.slice a len cap] w (FlCase w) := by
  go_enter Try.func60, Try.ntmps60
  go_wp2_with (fail)
  refine (new_cur a len cap w hl hc).mono ?_
  rintro e w1 ⟨rfl, c1, b1, l1⟩
  have hap : 0 < len → ∀ b off, a = some ⟨b, off, none⟩ → b < w1.heap.size := fun h0 b off e => Nat.lt_trans (code_lt hc h0 b off e) l1
  clear hc
  obtain ⟨cb, ecb⟩ : ∃ q, q = w.heap.size := ⟨_, rfl⟩
  have hlo : w.heap.size ≤ cb := by omega
  rw [← ecb] at c1 ⊢
  have hcb1 : cb < w1.heap.size := by omega
  have ECB := Lib.hid ecb
  clear ecb
  (try dsimp only)
  go_wp2_with (fail)
  refine (drawany cb a len cap w1 hcb1 hap c1).mono ?_
  rintro e w2 ⟨v, xs, rfl, hxl, hx, hr, c2, g2⟩
  have B2 := b1.grown g2 b1.size (fun g hg => by simp at hg; omega)
  have HX := Lib.hid hx
  have HXI := Lib.hid (fun x hm => (hx x hm).inr : ∀ x ∈ xs, x.inr)
  have hcb2 : cb < w2.heap.size := Nat.lt_of_lt_of_le hcb1 g2.size
  have HR := Lib.hid hr
  clear c1 b1 hx hr g2 hap
  (try dsimp only)
  go_wp2_with (fail)
  refine (pick_r (-1) 1048577 (by omega) (by omega) [0, 0, 10, 64, -1, 1048577] 6 rfl (by omega) (by omega) (by intro z hz; simp at hz; omega) cb a len cap w2 hcb2 c2).mono ?_
  rintro e w3 ⟨gap, rfl, p0, q0, c3, g3⟩
  have B3 := B2.grown g3 B2.size (fun g hg => by simp at hg; omega)
  have HR3 := Lib.hid (HR.out.cur g3 hcb1)
  have hcb3 : cb < w3.heap.size := Nat.lt_of_lt_of_le hcb2 g3.size
  obtain ⟨va, vc, rfl, hits⟩ := HR3.out.slice HXI.out
  have HITS := Lib.hid hits
  clear HR c2 g3 B2 hits
  (try dsimp only)
  go_wp2_with (fail)
  refine (shyps_any va vc xs w3 HITS.out (by omega)).mono ?_
  rintro e w4 ⟨hv, rfl, r4, b4⟩
  obtain ⟨a1, cap1, rfl, hi1⟩ := r4.slice (hypL_all HXI.out)
  rw [hypL_len] at *
  have HI := Lib.hid hi1
  have B4 := B3.trans (b4.mono B3.size)
  have HR4 := Lib.hid (HR3.out.below b4)
  have HITS4 := Lib.hid (HITS.out.below b4)
  have c4 := c3.bel hcb3 b4
  have hcb4 : cb < w4.heap.size := Nat.lt_of_lt_of_le hcb3 b4.size
  clear HR3 HITS c3 B3 b4 hi1 r4
  (try dsimp only)
  go_wp2_with (fail)
  refine (souter_any va vc xs a1 xs.length cap1 (hypL xs) 0 w4 HITS4.out (by omega) HI.out (by omega)).mono ?_
  rintro e w5 ⟨rfl, b5⟩
  have B5 := B4.trans (b5.mono B4.size)
  have HR5 := Lib.hid (HR4.out.below b5)
  have c5 := c4.bel hcb4 b5
  have hcb5 : cb < w5.heap.size := Nat.lt_of_lt_of_le hcb4 b5.size
  have ho := wr_in (wsum (hypL xs) (hypL xs).length + 0 * ((xs.length - 1 : Nat) : Int) + mgK xs xs.length)
  have ho' : -9223372036854775808 ≤ ouV xs (hypL xs) 0 ∧ ouV xs (hypL xs) 0 ≤ 9223372036854775807 := ho
  generalize ouV xs (hypL xs) 0 = o at *
  clear HR4 HITS4 HI c4 B4 b5 ho
  (try dsimp only)
  go_wp2_with (fail)
  refine (pick_r (-9223372036854775808) 9223372036854775807 (by omega) (by omega) [0, 640, 1000, 2000, 3333, o, 1048576, -1] 8 rfl (by omega) (by omega) (by intro z hz; simp at hz; omega) cb a len cap w5 hcb5 c5).mono ?_
  rintro e w6 ⟨inner, rfl, p1, q1, c6, g6⟩
  have B6 := Lib.hid (B5.grown g6 B5.size (fun g hg => by simp at hg; omega))
  have HR6 := Lib.hid ((HR5.out.cur g6 hcb1).lower (by omega : w.heap.size ≤ w1.heap.size))
  clear HR5 c5 g6 B5 c6 ECB
  (try dsimp only)
  go_wp2
  go_ret3
  exact ⟨_, xs, gap, inner, rfl, hxl, HX.out, HR6.out, ⟨p0, q0⟩, ⟨p1, q1⟩, B6.out⟩
theorem draw_flexline (a : Option Addr) (len cap : Nat) (w : World) (hl : len ≤ 1048576) (hc : Code w a len) :
    Calls Try.prog 16 #[.slice a len cap] w (FlCase w) := by
  have k := flcase a len cap w hl hc
  clear hc
  go_enter Try.func16, Try.ntmps16
  go_wp2_with (fail)
  refine k.mono ?_
  rintro e w1 ⟨v, xs, gap, inner, rfl, hxl, hx, hr, hg, hi, hb⟩
  have HALL := Lib.hid (show FlCase w (.returned (.tuple #[v, .int .i64 gap, .int .i64 inner])) w1 from ⟨v, xs, gap, inner, rfl, hxl, hx, hr, hg, hi, hb⟩)
  clear k hxl hx hr hg hi hb
  (try dsimp only)
  go_wp2
  go_ret3
  exact HALL.out
end Go.Proofs.Ytopfiogmbnfjcaa

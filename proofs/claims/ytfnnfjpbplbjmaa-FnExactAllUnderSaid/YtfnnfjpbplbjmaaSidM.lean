/-
  The plain functions that say what chapter 5's functions answer for sides (twelve ints, six values); the contract of laws.toSides (a copy). Conditions: none.
-/
import Derived.Test.YtfnnfjpbplbjmaaValM
import Derived.Test.YtfnnfjpbplbjmaaOpen
namespace Go.Proofs.Ytfnnfjpbplbjmaa
open Go.ChangeShapes Go.WideShapes Go.ChangeAt Go.RowKit

/-- A logical value, or the physical one where it says nothing. -/
def orK (k p : Int) : Int := if k = 0 then p else k
def orN (k n p : Int) : Int := if k = 0 then p else n
/-- The kind (the number) that applies at a side. -/
def sdK (lk tk rk bk sk ek side : Int) (rtl : Bool) : Int :=
  if side = 0 then orK (if rtl = true then ek else sk) lk else if side = 1 then tk else if side = 2 then orK (if rtl = true then sk else ek) rk else if side = 3 then bk else 0
def sdN (ln tn rn bn sk sn ek en side : Int) (rtl : Bool) : Int :=
  if side = 0 then orN (if rtl = true then ek else sk) (if rtl = true then en else sn) ln else if side = 1 then tn else if side = 2 then orN (if rtl = true then sk else ek) (if rtl = true then sn else en) rn else if side = 3 then bn else 0
def sdOk (lk ln tk tn rk rn bk bn sk sn ek en : Int) : Bool := okV lk ln && okV tk tn && okV rk rn && okV bk bn && okV sk sn && okV ek en

set_option maxHeartbeats 1000000 in
theorem toSid (lk ln tk tn rk rn bk bn sk sn ek en : Int) (w : World) :
    Calls Try.prog 165 #[.agg #[.int .i64 lk, .int .i64 ln, .int .i64 tk, .int .i64 tn, .int .i64 rk, .int .i64 rn, .int .i64 bk, .int .i64 bn, .int .i64 sk, .int .i64 sn, .int .i64 ek, .int .i64 en]] w fun e w' => e = .returned (.agg #[.int .i64 lk, .int .i64 ln, .int .i64 tk, .int .i64 tn, .int .i64 rk, .int .i64 rn, .int .i64 bk, .int .i64 bn, .int .i64 sk, .int .i64 sn, .int .i64 ek, .int .i64 en]) ∧ Below w.heap.size w w' := by
  have hA := hp_on (hp_on (hp_new w (.cells #[.int .i64 lk, .int .i64 ln, .int .i64 tk, .int .i64 tn, .int .i64 rk, .int .i64 rn, .int .i64 bk, .int .i64 bn, .int .i64 sk, .int .i64 sn, .int .i64 ek, .int .i64 en] 151)) (.cells #[.int .i64 0, .int .i64 0, .int .i64 0, .int .i64 0, .int .i64 0, .int .i64 0, .int .i64 0, .int .i64 0, .int .i64 0, .int .i64 0, .int .i64 0, .int .i64 0] 37)) (.cells #[.int .i64 0, .int .i64 0, .int .i64 0, .int .i64 0, .int .i64 0, .int .i64 0, .int .i64 0, .int .i64 0, .int .i64 0, .int .i64 0, .int .i64 0, .int .i64 0] 37)
  have hR := hp_on (hp_new (w.alloc (.cells #[.int .i64 lk, .int .i64 ln, .int .i64 tk, .int .i64 tn, .int .i64 rk, .int .i64 rn, .int .i64 bk, .int .i64 bn, .int .i64 sk, .int .i64 sn, .int .i64 ek, .int .i64 en] 151)) (.cells #[.int .i64 0, .int .i64 0, .int .i64 0, .int .i64 0, .int .i64 0, .int .i64 0, .int .i64 0, .int .i64 0, .int .i64 0, .int .i64 0, .int .i64 0, .int .i64 0] 37)) (.cells #[.int .i64 0, .int .i64 0, .int .i64 0, .int .i64 0, .int .i64 0, .int .i64 0, .int .i64 0, .int .i64 0, .int .i64 0, .int .i64 0, .int .i64 0, .int .i64 0] 37)
  have hO := hp_new ((w.alloc (.cells #[.int .i64 lk, .int .i64 ln, .int .i64 tk, .int .i64 tn, .int .i64 rk, .int .i64 rn, .int .i64 bk, .int .i64 bn, .int .i64 sk, .int .i64 sn, .int .i64 ek, .int .i64 en] 151)).alloc (.cells #[.int .i64 0, .int .i64 0, .int .i64 0, .int .i64 0, .int .i64 0, .int .i64 0, .int .i64 0, .int .i64 0, .int .i64 0, .int .i64 0, .int .i64 0, .int .i64 0] 37)) (.cells #[.int .i64 0, .int .i64 0, .int .i64 0, .int .i64 0, .int .i64 0, .int .i64 0, .int .i64 0, .int .i64 0, .int .i64 0, .int .i64 0, .int .i64 0, .int .i64 0] 37)
  have bb := Go.Joins.below_alloc3 w (.cells #[.int .i64 lk, .int .i64 ln, .int .i64 tk, .int .i64 tn, .int .i64 rk, .int .i64 rn, .int .i64 bk, .int .i64 bn, .int .i64 sk, .int .i64 sn, .int .i64 ek, .int .i64 en] 151) (.cells #[.int .i64 0, .int .i64 0, .int .i64 0, .int .i64 0, .int .i64 0, .int .i64 0, .int .i64 0, .int .i64 0, .int .i64 0, .int .i64 0, .int .i64 0, .int .i64 0] 37) (.cells #[.int .i64 0, .int .i64 0, .int .i64 0, .int .i64 0, .int .i64 0, .int .i64 0, .int .i64 0, .int .i64 0, .int .i64 0, .int .i64 0, .int .i64 0, .int .i64 0] 37)
  simp only [World.size_alloc] at hA hR hO
  go_enter Try.func165, Try.ntmps165
  go_wp2_with (fail)
  generalize ((w.alloc (.cells #[.int .i64 lk, .int .i64 ln, .int .i64 tk, .int .i64 tn, .int .i64 rk, .int .i64 rn, .int .i64 bk, .int .i64 bn, .int .i64 sk, .int .i64 sn, .int .i64 ek, .int .i64 en] 151)).alloc (.cells #[.int .i64 0, .int .i64 0, .int .i64 0, .int .i64 0, .int .i64 0, .int .i64 0, .int .i64 0, .int .i64 0, .int .i64 0, .int .i64 0, .int .i64 0, .int .i64 0] 37)).alloc (.cells #[.int .i64 0, .int .i64 0, .int .i64 0, .int .i64 0, .int .i64 0, .int .i64 0, .int .i64 0, .int .i64 0, .int .i64 0, .int .i64 0, .int .i64 0, .int .i64 0] 37) = u0 at *
  refine (toVal lk ln _).mono ?_
  rintro e v0 ⟨rfl, b0⟩
  replace hA := hp_below hA b0
  replace hR := hp_below hR b0
  replace hO := hp_below hO b0
  replace bb := bb.trans (b0.mono bb.size)
  clear b0
  have z0 := Go.Joins.cell_of_block hO 0
  have F0 := Go.Joins.unfrozen_of_block hO 0
  have z1 := Go.Joins.cell_of_block hO 1
  have F1 := Go.Joins.unfrozen_of_block hO 1
  have c2 := Go.Joins.cell_of_block hA 2
  have c3 := Go.Joins.cell_of_block hA 3
  simp at z0 z1 c2 c3
  have HO := Lib.hid hO
  have HR := Lib.hid hR
  have HA := Lib.hid hA
  clear hO hR hA
  go_wp2_with (fail)
  clear z0 F0 z1 F1 c2 c3
  have hO := Go.Joins.block_setCell (Go.Joins.block_setCell HO.out (i := 0) (.int .i64 lk)) (i := 1) (.int .i64 ln)
  have hA := hp_set (g' := w.heap.size + 1 + 1) (hp_set (g' := w.heap.size + 1 + 1) HA.out (by omega) 0 (.int .i64 lk)) (by omega) 1 (.int .i64 ln)
  have hR := hp_set (g' := w.heap.size + 1 + 1) (hp_set (g' := w.heap.size + 1 + 1) HR.out (by omega) 0 (.int .i64 lk)) (by omega) 1 (.int .i64 ln)
  replace bb := bl_set (bl_set bb (g := w.heap.size + 1 + 1) 0 (by omega) (.int .i64 lk)) (g := w.heap.size + 1 + 1) 1 (by omega) (.int .i64 ln)
  clear HO HA HR
  generalize (v0.setCell ⟨w.heap.size + 1 + 1, 0, none⟩ (.int .i64 lk)).setCell ⟨w.heap.size + 1 + 1, 1, none⟩ (.int .i64 ln) = u1 at *
  have hO' : u1.heap[w.heap.size + 1 + 1]? = some (.cells #[.int .i64 lk, .int .i64 ln, .int .i64 0, .int .i64 0, .int .i64 0, .int .i64 0, .int .i64 0, .int .i64 0, .int .i64 0, .int .i64 0, .int .i64 0, .int .i64 0] 37) := by simpa using hO
  clear hO
  have hO := hO'
  clear hO' v0
  refine (toVal tk tn _).mono ?_
  rintro e v1 ⟨rfl, b1⟩
  replace hA := hp_below hA b1
  replace hR := hp_below hR b1
  replace hO := hp_below hO b1
  replace bb := bb.trans (b1.mono bb.size)
  clear b1
  have z2 := Go.Joins.cell_of_block hO 2
  have F2 := Go.Joins.unfrozen_of_block hO 2
  have z3 := Go.Joins.cell_of_block hO 3
  have F3 := Go.Joins.unfrozen_of_block hO 3
  have c4 := Go.Joins.cell_of_block hA 4
  have c5 := Go.Joins.cell_of_block hA 5
  simp at z2 z3 c4 c5
  have HO := Lib.hid hO
  have HR := Lib.hid hR
  have HA := Lib.hid hA
  clear hO hR hA
  go_wp2_with (fail)
  clear z2 F2 z3 F3 c4 c5
  have hO := Go.Joins.block_setCell (Go.Joins.block_setCell HO.out (i := 2) (.int .i64 tk)) (i := 3) (.int .i64 tn)
  have hA := hp_set (g' := w.heap.size + 1 + 1) (hp_set (g' := w.heap.size + 1 + 1) HA.out (by omega) 2 (.int .i64 tk)) (by omega) 3 (.int .i64 tn)
  have hR := hp_set (g' := w.heap.size + 1 + 1) (hp_set (g' := w.heap.size + 1 + 1) HR.out (by omega) 2 (.int .i64 tk)) (by omega) 3 (.int .i64 tn)
  replace bb := bl_set (bl_set bb (g := w.heap.size + 1 + 1) 2 (by omega) (.int .i64 tk)) (g := w.heap.size + 1 + 1) 3 (by omega) (.int .i64 tn)
  clear HO HA HR
  generalize (v1.setCell ⟨w.heap.size + 1 + 1, 2, none⟩ (.int .i64 tk)).setCell ⟨w.heap.size + 1 + 1, 3, none⟩ (.int .i64 tn) = u2 at *
  have hO' : u2.heap[w.heap.size + 1 + 1]? = some (.cells #[.int .i64 lk, .int .i64 ln, .int .i64 tk, .int .i64 tn, .int .i64 0, .int .i64 0, .int .i64 0, .int .i64 0, .int .i64 0, .int .i64 0, .int .i64 0, .int .i64 0] 37) := by simpa using hO
  clear hO
  have hO := hO'
  clear hO' v1
  refine (toVal rk rn _).mono ?_
  rintro e v2 ⟨rfl, b2⟩
  replace hA := hp_below hA b2
  replace hR := hp_below hR b2
  replace hO := hp_below hO b2
  replace bb := bb.trans (b2.mono bb.size)
  clear b2
  have z4 := Go.Joins.cell_of_block hO 4
  have F4 := Go.Joins.unfrozen_of_block hO 4
  have z5 := Go.Joins.cell_of_block hO 5
  have F5 := Go.Joins.unfrozen_of_block hO 5
  have c6 := Go.Joins.cell_of_block hA 6
  have c7 := Go.Joins.cell_of_block hA 7
  simp at z4 z5 c6 c7
  have HO := Lib.hid hO
  have HR := Lib.hid hR
  have HA := Lib.hid hA
  clear hO hR hA
  go_wp2_with (fail)
  clear z4 F4 z5 F5 c6 c7
  have hO := Go.Joins.block_setCell (Go.Joins.block_setCell HO.out (i := 4) (.int .i64 rk)) (i := 5) (.int .i64 rn)
  have hA := hp_set (g' := w.heap.size + 1 + 1) (hp_set (g' := w.heap.size + 1 + 1) HA.out (by omega) 4 (.int .i64 rk)) (by omega) 5 (.int .i64 rn)
  have hR := hp_set (g' := w.heap.size + 1 + 1) (hp_set (g' := w.heap.size + 1 + 1) HR.out (by omega) 4 (.int .i64 rk)) (by omega) 5 (.int .i64 rn)
  replace bb := bl_set (bl_set bb (g := w.heap.size + 1 + 1) 4 (by omega) (.int .i64 rk)) (g := w.heap.size + 1 + 1) 5 (by omega) (.int .i64 rn)
  clear HO HA HR
  generalize (v2.setCell ⟨w.heap.size + 1 + 1, 4, none⟩ (.int .i64 rk)).setCell ⟨w.heap.size + 1 + 1, 5, none⟩ (.int .i64 rn) = u3 at *
  have hO' : u3.heap[w.heap.size + 1 + 1]? = some (.cells #[.int .i64 lk, .int .i64 ln, .int .i64 tk, .int .i64 tn, .int .i64 rk, .int .i64 rn, .int .i64 0, .int .i64 0, .int .i64 0, .int .i64 0, .int .i64 0, .int .i64 0] 37) := by simpa using hO
  clear hO
  have hO := hO'
  clear hO' v2
  refine (toVal bk bn _).mono ?_
  rintro e v3 ⟨rfl, b3⟩
  replace hA := hp_below hA b3
  replace hR := hp_below hR b3
  replace hO := hp_below hO b3
  replace bb := bb.trans (b3.mono bb.size)
  clear b3
  have z6 := Go.Joins.cell_of_block hO 6
  have F6 := Go.Joins.unfrozen_of_block hO 6
  have z7 := Go.Joins.cell_of_block hO 7
  have F7 := Go.Joins.unfrozen_of_block hO 7
  have c8 := Go.Joins.cell_of_block hA 8
  have c9 := Go.Joins.cell_of_block hA 9
  simp at z6 z7 c8 c9
  have HO := Lib.hid hO
  have HR := Lib.hid hR
  have HA := Lib.hid hA
  clear hO hR hA
  go_wp2_with (fail)
  clear z6 F6 z7 F7 c8 c9
  have hO := Go.Joins.block_setCell (Go.Joins.block_setCell HO.out (i := 6) (.int .i64 bk)) (i := 7) (.int .i64 bn)
  have hA := hp_set (g' := w.heap.size + 1 + 1) (hp_set (g' := w.heap.size + 1 + 1) HA.out (by omega) 6 (.int .i64 bk)) (by omega) 7 (.int .i64 bn)
  have hR := hp_set (g' := w.heap.size + 1 + 1) (hp_set (g' := w.heap.size + 1 + 1) HR.out (by omega) 6 (.int .i64 bk)) (by omega) 7 (.int .i64 bn)
  replace bb := bl_set (bl_set bb (g := w.heap.size + 1 + 1) 6 (by omega) (.int .i64 bk)) (g := w.heap.size + 1 + 1) 7 (by omega) (.int .i64 bn)
  clear HO HA HR
  generalize (v3.setCell ⟨w.heap.size + 1 + 1, 6, none⟩ (.int .i64 bk)).setCell ⟨w.heap.size + 1 + 1, 7, none⟩ (.int .i64 bn) = u4 at *
  have hO' : u4.heap[w.heap.size + 1 + 1]? = some (.cells #[.int .i64 lk, .int .i64 ln, .int .i64 tk, .int .i64 tn, .int .i64 rk, .int .i64 rn, .int .i64 bk, .int .i64 bn, .int .i64 0, .int .i64 0, .int .i64 0, .int .i64 0] 37) := by simpa using hO
  clear hO
  have hO := hO'
  clear hO' v3
  refine (toVal sk sn _).mono ?_
  rintro e v4 ⟨rfl, b4⟩
  replace hA := hp_below hA b4
  replace hR := hp_below hR b4
  replace hO := hp_below hO b4
  replace bb := bb.trans (b4.mono bb.size)
  clear b4
  have z8 := Go.Joins.cell_of_block hO 8
  have F8 := Go.Joins.unfrozen_of_block hO 8
  have z9 := Go.Joins.cell_of_block hO 9
  have F9 := Go.Joins.unfrozen_of_block hO 9
  have c10 := Go.Joins.cell_of_block hA 10
  have c11 := Go.Joins.cell_of_block hA 11
  simp at z8 z9 c10 c11
  have HO := Lib.hid hO
  have HR := Lib.hid hR
  have HA := Lib.hid hA
  clear hO hR hA
  go_wp2_with (fail)
  clear z8 F8 z9 F9 c10 c11
  have hO := Go.Joins.block_setCell (Go.Joins.block_setCell HO.out (i := 8) (.int .i64 sk)) (i := 9) (.int .i64 sn)
  have hA := hp_set (g' := w.heap.size + 1 + 1) (hp_set (g' := w.heap.size + 1 + 1) HA.out (by omega) 8 (.int .i64 sk)) (by omega) 9 (.int .i64 sn)
  have hR := hp_set (g' := w.heap.size + 1 + 1) (hp_set (g' := w.heap.size + 1 + 1) HR.out (by omega) 8 (.int .i64 sk)) (by omega) 9 (.int .i64 sn)
  replace bb := bl_set (bl_set bb (g := w.heap.size + 1 + 1) 8 (by omega) (.int .i64 sk)) (g := w.heap.size + 1 + 1) 9 (by omega) (.int .i64 sn)
  clear HO HA HR
  generalize (v4.setCell ⟨w.heap.size + 1 + 1, 8, none⟩ (.int .i64 sk)).setCell ⟨w.heap.size + 1 + 1, 9, none⟩ (.int .i64 sn) = u5 at *
  have hO' : u5.heap[w.heap.size + 1 + 1]? = some (.cells #[.int .i64 lk, .int .i64 ln, .int .i64 tk, .int .i64 tn, .int .i64 rk, .int .i64 rn, .int .i64 bk, .int .i64 bn, .int .i64 sk, .int .i64 sn, .int .i64 0, .int .i64 0] 37) := by simpa using hO
  clear hO
  have hO := hO'
  clear hO' v4
  refine (toVal ek en _).mono ?_
  rintro e v5 ⟨rfl, b5⟩
  replace hA := hp_below hA b5
  replace hR := hp_below hR b5
  replace hO := hp_below hO b5
  replace bb := bb.trans (b5.mono bb.size)
  clear b5
  have z0 := Go.Joins.cell_of_block hO 0
  have y0 := Go.Joins.cell_of_block hR 0
  have G0 := Go.Joins.unfrozen_of_block hR 0
  have z1 := Go.Joins.cell_of_block hO 1
  have y1 := Go.Joins.cell_of_block hR 1
  have G1 := Go.Joins.unfrozen_of_block hR 1
  have z2 := Go.Joins.cell_of_block hO 2
  have y2 := Go.Joins.cell_of_block hR 2
  have G2 := Go.Joins.unfrozen_of_block hR 2
  have z3 := Go.Joins.cell_of_block hO 3
  have y3 := Go.Joins.cell_of_block hR 3
  have G3 := Go.Joins.unfrozen_of_block hR 3
  have z4 := Go.Joins.cell_of_block hO 4
  have y4 := Go.Joins.cell_of_block hR 4
  have G4 := Go.Joins.unfrozen_of_block hR 4
  have z5 := Go.Joins.cell_of_block hO 5
  have y5 := Go.Joins.cell_of_block hR 5
  have G5 := Go.Joins.unfrozen_of_block hR 5
  have z6 := Go.Joins.cell_of_block hO 6
  have y6 := Go.Joins.cell_of_block hR 6
  have G6 := Go.Joins.unfrozen_of_block hR 6
  have z7 := Go.Joins.cell_of_block hO 7
  have y7 := Go.Joins.cell_of_block hR 7
  have G7 := Go.Joins.unfrozen_of_block hR 7
  have z8 := Go.Joins.cell_of_block hO 8
  have y8 := Go.Joins.cell_of_block hR 8
  have G8 := Go.Joins.unfrozen_of_block hR 8
  have z9 := Go.Joins.cell_of_block hO 9
  have y9 := Go.Joins.cell_of_block hR 9
  have G9 := Go.Joins.unfrozen_of_block hR 9
  have z10 := Go.Joins.cell_of_block hO 10
  have y10 := Go.Joins.cell_of_block hR 10
  have G10 := Go.Joins.unfrozen_of_block hR 10
  have z11 := Go.Joins.cell_of_block hO 11
  have y11 := Go.Joins.cell_of_block hR 11
  have G11 := Go.Joins.unfrozen_of_block hR 11
  have F10 := Go.Joins.unfrozen_of_block hO 10
  have F11 := Go.Joins.unfrozen_of_block hO 11
  simp at z0 y0 z1 y1 z2 y2 z3 y3 z4 y4 z5 y5 z6 y6 z7 y7 z8 y8 z9 y9 z10 y10 z11 y11
  have HR := Lib.hid hR
  clear hO hR hA
  go_wp2
  clear z0 y0 G0 z1 y1 G1 z2 y2 G2 z3 y3 G3 z4 y4 G4 z5 y5 G5 z6 y6 G6 z7 y7 G7 z8 y8 G8 z9 y9 G9 z10 y10 G10 z11 y11 G11 F10 F11
  have hR := hp_set (g' := w.heap.size + 1 + 1) (hp_set (g' := w.heap.size + 1 + 1) HR.out (by omega) 10 (.int .i64 ek)) (by omega) 11 (.int .i64 en)
  replace bb := bl_set (bl_set bb (g := w.heap.size + 1 + 1) 10 (by omega) (.int .i64 ek)) (g := w.heap.size + 1 + 1) 11 (by omega) (.int .i64 en)
  have h9 := (Go.Joins.block_setCell (Go.Joins.block_setCell (Go.Joins.block_setCell (Go.Joins.block_setCell (Go.Joins.block_setCell (Go.Joins.block_setCell (Go.Joins.block_setCell (Go.Joins.block_setCell (Go.Joins.block_setCell (Go.Joins.block_setCell (Go.Joins.block_setCell (Go.Joins.block_setCell hR (i := 0) (.int .i64 lk)) (i := 1) (.int .i64 ln)) (i := 2) (.int .i64 tk)) (i := 3) (.int .i64 tn)) (i := 4) (.int .i64 rk)) (i := 5) (.int .i64 rn)) (i := 6) (.int .i64 bk)) (i := 7) (.int .i64 bn)) (i := 8) (.int .i64 sk)) (i := 9) (.int .i64 sn)) (i := 10) (.int .i64 ek)) (i := 11) (.int .i64 en))
  have b9 := (bl_set (bl_set (bl_set (bl_set (bl_set (bl_set (bl_set (bl_set (bl_set (bl_set (bl_set (bl_set bb (g := w.heap.size + 1) 0 (by omega) (.int .i64 lk)) (g := w.heap.size + 1) 1 (by omega) (.int .i64 ln)) (g := w.heap.size + 1) 2 (by omega) (.int .i64 tk)) (g := w.heap.size + 1) 3 (by omega) (.int .i64 tn)) (g := w.heap.size + 1) 4 (by omega) (.int .i64 rk)) (g := w.heap.size + 1) 5 (by omega) (.int .i64 rn)) (g := w.heap.size + 1) 6 (by omega) (.int .i64 bk)) (g := w.heap.size + 1) 7 (by omega) (.int .i64 bn)) (g := w.heap.size + 1) 8 (by omega) (.int .i64 sk)) (g := w.heap.size + 1) 9 (by omega) (.int .i64 sn)) (g := w.heap.size + 1) 10 (by omega) (.int .i64 ek)) (g := w.heap.size + 1) 11 (by omega) (.int .i64 en))
  generalize (((((((((((((v5.setCell ⟨w.heap.size + 1 + 1, 10, none⟩ (.int .i64 ek)).setCell ⟨w.heap.size + 1 + 1, 11, none⟩ (.int .i64 en)).setCell ⟨w.heap.size + 1, 0, none⟩ (.int .i64 lk)).setCell ⟨w.heap.size + 1, 1, none⟩ (.int .i64 ln)).setCell ⟨w.heap.size + 1, 2, none⟩ (.int .i64 tk)).setCell ⟨w.heap.size + 1, 3, none⟩ (.int .i64 tn)).setCell ⟨w.heap.size + 1, 4, none⟩ (.int .i64 rk)).setCell ⟨w.heap.size + 1, 5, none⟩ (.int .i64 rn)).setCell ⟨w.heap.size + 1, 6, none⟩ (.int .i64 bk)).setCell ⟨w.heap.size + 1, 7, none⟩ (.int .i64 bn)).setCell ⟨w.heap.size + 1, 8, none⟩ (.int .i64 sk)).setCell ⟨w.heap.size + 1, 9, none⟩ (.int .i64 sn)).setCell ⟨w.heap.size + 1, 10, none⟩ (.int .i64 ek)).setCell ⟨w.heap.size + 1, 11, none⟩ (.int .i64 en) = u9 at *
  have h9' : u9.heap[w.heap.size + 1]? = some (.cells #[.int .i64 lk, .int .i64 ln, .int .i64 tk, .int .i64 tn, .int .i64 rk, .int .i64 rn, .int .i64 bk, .int .i64 bn, .int .i64 sk, .int .i64 sn, .int .i64 ek, .int .i64 en] 37) := by simpa using h9
  have D0 := Go.Joins.cell_of_block h9' 0
  have D1 := Go.Joins.cell_of_block h9' 1
  have D2 := Go.Joins.cell_of_block h9' 2
  have D3 := Go.Joins.cell_of_block h9' 3
  have D4 := Go.Joins.cell_of_block h9' 4
  have D5 := Go.Joins.cell_of_block h9' 5
  have D6 := Go.Joins.cell_of_block h9' 6
  have D7 := Go.Joins.cell_of_block h9' 7
  have D8 := Go.Joins.cell_of_block h9' 8
  have D9 := Go.Joins.cell_of_block h9' 9
  have D10 := Go.Joins.cell_of_block h9' 10
  have D11 := Go.Joins.cell_of_block h9' 11
  simp at D0 D1 D2 D3 D4 D5 D6 D7 D8 D9 D10 D11
  exact bodyPost_ret (v := .agg #[.int .i64 lk, .int .i64 ln, .int .i64 tk, .int .i64 tn, .int .i64 rk, .int .i64 rn, .int .i64 bk, .int .i64 bn, .int .i64 sk, .int .i64 sn, .int .i64 ek, .int .i64 en]) (by simp [results, Try.results165, go_sem, D0, D1, D2, D3, D4, D5, D6, D7, D8, D9, D10, D11]) rfl ⟨rfl, b9⟩
end Go.Proofs.Ytfnnfjpbplbjmaa

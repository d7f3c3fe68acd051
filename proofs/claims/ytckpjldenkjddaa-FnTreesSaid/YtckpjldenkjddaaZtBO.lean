import Derived.Test.YtckpjldenkjddaaZtBN
section
namespace Go.Proofs.Ytckpjldenkjddaa
open Go.ChangeShapes Go.WideShapes Go.ChangeAt Go.RowKit
set_option linter.unusedVariables false
set_option linter.unusedSimpArgs false

def RA (zs : List Int) : Prop := ∀ j, IsI (zs.getD j 0)
theorem IsI.of64 {x : Int} (h : 0 ≤ x ∧ x ≤ 64) : IsI x := by unfold IsI; omega
theorem VOk.isI {k n : Int} (h : VOk k n) : IsI k ∧ IsI n := by unfold VOk at h; unfold IsI; omega
theorem SVOk.isI {k n : Int} (h : SVOk k n) : IsI k ∧ IsI n := by unfold SVOk VOk at h; unfold IsI; omega
theorem IsI.zero : IsI 0 := by unfold IsI; omega
theorem RA.put {zs : List Int} (h : RA zs) (i : Nat) {x : Int} (hx : IsI x) : RA (zs.set i x) := fun j => by
  have hj := h j
  rw [List.getD_eq_getElem?_getD] at hj ⊢
  rw [List.getElem?_set]
  split
  · split
    · exact hx
    · exact IsI.zero
  · exact hj
theorem ra_nil : RA [] := fun j => by simp; exact IsI.zero
theorem RA.cons {zs : List Int} {x : Int} (hx : IsI x) (h : RA zs) : RA (x :: zs) := fun j => by
  cases j with
  | zero => exact hx
  | succ j => exact h j
theorem ra4 {a b c d : Int} (h0 : IsI a) (h1 : IsI b) (h2 : IsI c) (h3 : IsI d) : RA [a, b, c, d] := .cons h0 (.cons h1 (.cons h2 (.cons h3 ra_nil)))
theorem ra12 {a b c d e f g h i j k l : Int} (h0 : IsI a) (h1 : IsI b) (h2 : IsI c) (h3 : IsI d) (h4 : IsI e) (h5 : IsI f) (h6 : IsI g) (h7 : IsI h) (h8 : IsI i) (h9 : IsI j) (h10 : IsI k) (h11 : IsI l) : RA [a, b, c, d, e, f, g, h, i, j, k, l] :=
  .cons h0 (.cons h1 (.cons h2 (.cons h3 (.cons h4 (.cons h5 (.cons h6 (.cons h7 (.cons h8 (.cons h9 (.cons h10 (.cons h11 ra_nil)))))))))))
theorem ra_sok {a b c d e f g h i j k l : Int} (s : SOk [a, b, c, d, e, f, g, h, i, j, k, l]) : RA [a, b, c, d, e, f, g, h, i, j, k, l] := by
  have h0 : SVOk a b := s 0 (by omega)
  have h1 : SVOk c d := s 1 (by omega)
  have h2 : SVOk e f := s 2 (by omega)
  have h3 : SVOk g h := s 3 (by omega)
  have h4 : SVOk i j := s 4 (by omega)
  have h5 : SVOk k l := s 5 (by omega)
  exact ra12 h0.isI.1 h0.isI.2 h1.isI.1 h1.isI.2 h2.isI.1 h2.isI.2 h3.isI.1 h3.isI.2 h4.isI.1 h4.isI.2 h5.isI.1 h5.isI.2
def SidInP (cb : Nat) (a : Option Addr) (len cap : Nat) (w : World) (e : Ending) (w' : World) : Prop :=
  ∃ lk ln tk tn rk rn bk bn sk sn ek en : Int, e = .returned (.agg #[.int .i64 lk, .int .i64 ln, .int .i64 tk, .int .i64 tn, .int .i64 rk, .int .i64 rn, .int .i64 bk, .int .i64 bn, .int .i64 sk, .int .i64 sn, .int .i64 ek, .int .i64 en]) ∧ RA [lk, ln, tk, tn, rk, rn, bk, bn, sk, sn, ek, en] ∧ Cur cb a len cap w' ∧ w.grownBy w' (some cb)
def EdgInP (cb : Nat) (a : Option Addr) (len cap : Nat) (w : World) (e : Ending) (w' : World) : Prop :=
  ∃ p q r s : Int, e = .returned (.agg #[.int .i64 p, .int .i64 q, .int .i64 r, .int .i64 s]) ∧ RA [p, q, r, s] ∧ Cur cb a len cap w' ∧ w.grownBy w' (some cb)
set_option maxHeartbeats 2000000 in
theorem anysid_in (cb : Nat) (a : Option Addr) (len cap : Nat) (w : World) (hcb : cb < w.heap.size) (hlt : 0 < len → ∀ b off, a = some ⟨b, off, none⟩ → b < w.heap.size) (hc : Cur cb a len cap w) :
    Calls Try.prog 124 #[.pointer (some ⟨cb, 0, none⟩)] w (SidInP cb a len cap w) := by
  have hr0 := hp_new w (.cells #[.int .i64 0, .int .i64 0, .int .i64 0, .int .i64 0, .int .i64 0, .int .i64 0, .int .i64 0, .int .i64 0, .int .i64 0, .int .i64 0, .int .i64 0, .int .i64 0] 37)
  have g0 := gr_new w (.cells #[.int .i64 0, .int .i64 0, .int .i64 0, .int .i64 0, .int .i64 0, .int .i64 0, .int .i64 0, .int .i64 0, .int .i64 0, .int .i64 0, .int .i64 0, .int .i64 0] 37) cb
  have c0 := hc.kept hcb (World.grownBy_alloc w (.cells #[.int .i64 0, .int .i64 0, .int .i64 0, .int .i64 0, .int .i64 0, .int .i64 0, .int .i64 0, .int .i64 0, .int .i64 0, .int .i64 0, .int .i64 0, .int .i64 0] 37) none) (fun k hk => by cases hk)
  have hs0 : w.heap.size < (w.alloc (.cells #[.int .i64 0, .int .i64 0, .int .i64 0, .int .i64 0, .int .i64 0, .int .i64 0, .int .i64 0, .int .i64 0, .int .i64 0, .int .i64 0, .int .i64 0, .int .i64 0] 37)).heap.size := by simp
  go_enter Try.func124, Try.ntmps124
  go_wp2_with (fail)
  generalize w.alloc (.cells #[.int .i64 0, .int .i64 0, .int .i64 0, .int .i64 0, .int .i64 0, .int .i64 0, .int .i64 0, .int .i64 0, .int .i64 0, .int .i64 0, .int .i64 0, .int .i64 0] 37) = u0 at *
  refine (sides_ok cb a len cap u0 (by omega) (fun h b off e => by have := hlt h b off e; omega) c0).mono ?_
  rintro e w1 ⟨lk, ln, tk, tn, rk, rn, bk, bn, sk, sn, ek, en, rfl, s0, s1, s2, s3, s4, s5, c1, g1⟩
  have hr1 := blk_kept hr0 g1 (by omega)
  have WW := Lib.hid (show SDw w cb a len w.heap.size w1.heap.size from ⟨hcb, Nat.le_refl _, by have := g1.size; omega, by have := g1.size; omega, hlt⟩)
  have G1 := gr_trans g0 g1
  have hl1 : cb < w1.heap.size := by have := g1.size; omega
  have S1 := Lib.hid (show SD w cb a len cap w.heap.size w1.heap.size [lk, ln, tk, tn, rk, rn, bk, bn, sk, sn, ek, en] (w1.alloc (.cells #[.int .i64 lk, .int .i64 ln, .int .i64 tk, .int .i64 tn, .int .i64 rk, .int .i64 rn, .int .i64 bk, .int .i64 bn, .int .i64 sk, .int .i64 sn, .int .i64 ek, .int .i64 en] 37)) from
    ⟨rfl, hp_new w1 _, hp_on hr1 _, c1.kept hl1 (World.grownBy_alloc w1 _ none) (fun k hk => by cases hk), gr_trans G1 (gr_new w1 _ cb)⟩)
  clear G1 g1 c1 hr1 hr0 g0 c0 hc hlt hcb
  go_wp2_with (fail)
  generalize w1.alloc (.cells #[.int .i64 lk, .int .i64 ln, .int .i64 tk, .int .i64 tn, .int .i64 rk, .int .i64 rn, .int .i64 bk, .int .i64 bn, .int .i64 sk, .int .i64 sn, .int .i64 ek, .int .i64 en] 37) = u1 at *
  have R0 : RA [lk, ln, tk, tn, rk, rn, bk, bn, sk, sn, ek, en] := ra_sok (sok12 s0 s1 s2 s3 s4 s5)
  clear s0 s1 s2 s3 s4 s5
  generalize [lk, ln, tk, tn, rk, rn, bk, bn, sk, sn, ek, en] = zs0 at *
  generalize w1.heap.size = gs at *
  refine (once_any 8 cb a len cap _ (by omega) (by omega) S1.out.cur).mono ?_
  rintro e w2 ⟨t, rfl, c2, g2⟩
  have S2 := Lib.hid (S1.out.kept WW.out g2 c2)
  clear S1 g2 c2
  cases t
  · go_wp2_with (fail)
    refine (once_any 8 cb a len cap _ (by omega) (by omega) S2.out.cur).mono ?_
    rintro e w4 ⟨t, rfl, c4, g4⟩
    have S5 := Lib.hid (S2.out.kept WW.out g4 c4)
    clear g4 c4
    cases t
    · generalize hzs : zs0 = zs at *
      have z0 := S5.out.cell 0 (by omega)
      have z1 := S5.out.cell 1 (by omega)
      have z2 := S5.out.cell 2 (by omega)
      have z3 := S5.out.cell 3 (by omega)
      have z4 := S5.out.cell 4 (by omega)
      have z5 := S5.out.cell 5 (by omega)
      have z6 := S5.out.cell 6 (by omega)
      have z7 := S5.out.cell 7 (by omega)
      have z8 := S5.out.cell 8 (by omega)
      have z9 := S5.out.cell 9 (by omega)
      have z10 := S5.out.cell 10 (by omega)
      have z11 := S5.out.cell 11 (by omega)
      have hR := S5.out.res
      have y0 := Go.Joins.cell_of_block hR 0
      have G0 := Go.Joins.unfrozen_of_block hR 0
      have y1 := Go.Joins.cell_of_block hR 1
      have G1 := Go.Joins.unfrozen_of_block hR 1
      have y2 := Go.Joins.cell_of_block hR 2
      have G2 := Go.Joins.unfrozen_of_block hR 2
      have y3 := Go.Joins.cell_of_block hR 3
      have G3 := Go.Joins.unfrozen_of_block hR 3
      have y4 := Go.Joins.cell_of_block hR 4
      have G4 := Go.Joins.unfrozen_of_block hR 4
      have y5 := Go.Joins.cell_of_block hR 5
      have G5 := Go.Joins.unfrozen_of_block hR 5
      have y6 := Go.Joins.cell_of_block hR 6
      have G6 := Go.Joins.unfrozen_of_block hR 6
      have y7 := Go.Joins.cell_of_block hR 7
      have G7 := Go.Joins.unfrozen_of_block hR 7
      have y8 := Go.Joins.cell_of_block hR 8
      have G8 := Go.Joins.unfrozen_of_block hR 8
      have y9 := Go.Joins.cell_of_block hR 9
      have G9 := Go.Joins.unfrozen_of_block hR 9
      have y10 := Go.Joins.cell_of_block hR 10
      have G10 := Go.Joins.unfrozen_of_block hR 10
      have y11 := Go.Joins.cell_of_block hR 11
      have G11 := Go.Joins.unfrozen_of_block hR 11
      simp at y0 y1 y2 y3 y4 y5 y6 y7 y8 y9 y10 y11
      clear hR
      have r0 := R0 0
      generalize zs.getD 0 0 = Z0 at z0 r0
      have r1 := R0 1
      generalize zs.getD 1 0 = Z1 at z1 r1
      have r2 := R0 2
      generalize zs.getD 2 0 = Z2 at z2 r2
      have r3 := R0 3
      generalize zs.getD 3 0 = Z3 at z3 r3
      have r4 := R0 4
      generalize zs.getD 4 0 = Z4 at z4 r4
      have r5 := R0 5
      generalize zs.getD 5 0 = Z5 at z5 r5
      have r6 := R0 6
      generalize zs.getD 6 0 = Z6 at z6 r6
      have r7 := R0 7
      generalize zs.getD 7 0 = Z7 at z7 r7
      have r8 := R0 8
      generalize zs.getD 8 0 = Z8 at z8 r8
      have r9 := R0 9
      generalize zs.getD 9 0 = Z9 at z9 r9
      have r10 := R0 10
      generalize zs.getD 10 0 = Z10 at z10 r10
      have r11 := R0 11
      generalize zs.getD 11 0 = Z11 at z11 r11
      have hgg := WW.out.ne
      have hgg2 := hgg.symm
      go_wp2
      clear z0 y0 G0 z1 y1 G1 z2 y2 G2 z3 y3 G3 z4 y4 G4 z5 y5 G5 z6 y6 G6 z7 y7 G7 z8 y8 G8 z9 y9 G9 z10 y10 G10 z11 y11 G11
      have h9 := (Go.Joins.block_setCell (Go.Joins.block_setCell (Go.Joins.block_setCell (Go.Joins.block_setCell (Go.Joins.block_setCell (Go.Joins.block_setCell (Go.Joins.block_setCell (Go.Joins.block_setCell (Go.Joins.block_setCell (Go.Joins.block_setCell (Go.Joins.block_setCell (Go.Joins.block_setCell S5.out.res (i := 0) (.int .i64 Z0)) (i := 1) (.int .i64 Z1)) (i := 2) (.int .i64 Z2)) (i := 3) (.int .i64 Z3)) (i := 4) (.int .i64 Z4)) (i := 5) (.int .i64 Z5)) (i := 6) (.int .i64 Z6)) (i := 7) (.int .i64 Z7)) (i := 8) (.int .i64 Z8)) (i := 9) (.int .i64 Z9)) (i := 10) (.int .i64 Z10)) (i := 11) (.int .i64 Z11))
      have g9 := (gr_store (j := 11) (u := .int .i64 Z11) (gr_store (j := 10) (u := .int .i64 Z10) (gr_store (j := 9) (u := .int .i64 Z9) (gr_store (j := 8) (u := .int .i64 Z8) (gr_store (j := 7) (u := .int .i64 Z7) (gr_store (j := 6) (u := .int .i64 Z6) (gr_store (j := 5) (u := .int .i64 Z5) (gr_store (j := 4) (u := .int .i64 Z4) (gr_store (j := 3) (u := .int .i64 Z3) (gr_store (j := 2) (u := .int .i64 Z2) (gr_store (j := 1) (u := .int .i64 Z1) (gr_store (j := 0) (u := .int .i64 Z0) S5.out.gro (Nat.le_refl _)) (Nat.le_refl _)) (Nat.le_refl _)) (Nat.le_refl _)) (Nat.le_refl _)) (Nat.le_refl _)) (Nat.le_refl _)) (Nat.le_refl _)) (Nat.le_refl _)) (Nat.le_refl _)) (Nat.le_refl _)) (Nat.le_refl _))
      have c9 := (Cur.stored (Cur.stored (Cur.stored (Cur.stored (Cur.stored (Cur.stored (Cur.stored (Cur.stored (Cur.stored (Cur.stored (Cur.stored (Cur.stored S5.out.cur (S5.out.lt WW.out) (j := 0) WW.out.ltc WW.out.code (.int .i64 Z0)) (by rw [size_set]; exact S5.out.lt WW.out) (j := 1) WW.out.ltc WW.out.code (.int .i64 Z1)) (by rw [size_set, size_set]; exact S5.out.lt WW.out) (j := 2) WW.out.ltc WW.out.code (.int .i64 Z2)) (by rw [size_set, size_set, size_set]; exact S5.out.lt WW.out) (j := 3) WW.out.ltc WW.out.code (.int .i64 Z3)) (by rw [size_set, size_set, size_set, size_set]; exact S5.out.lt WW.out) (j := 4) WW.out.ltc WW.out.code (.int .i64 Z4)) (by rw [size_set, size_set, size_set, size_set, size_set]; exact S5.out.lt WW.out) (j := 5) WW.out.ltc WW.out.code (.int .i64 Z5)) (by rw [size_set, size_set, size_set, size_set, size_set, size_set]; exact S5.out.lt WW.out) (j := 6) WW.out.ltc WW.out.code (.int .i64 Z6)) (by rw [size_set, size_set, size_set, size_set, size_set, size_set, size_set]; exact S5.out.lt WW.out) (j := 7) WW.out.ltc WW.out.code (.int .i64 Z7)) (by rw [size_set, size_set, size_set, size_set, size_set, size_set, size_set, size_set]; exact S5.out.lt WW.out) (j := 8) WW.out.ltc WW.out.code (.int .i64 Z8)) (by rw [size_set, size_set, size_set, size_set, size_set, size_set, size_set, size_set, size_set]; exact S5.out.lt WW.out) (j := 9) WW.out.ltc WW.out.code (.int .i64 Z9)) (by rw [size_set, size_set, size_set, size_set, size_set, size_set, size_set, size_set, size_set, size_set]; exact S5.out.lt WW.out) (j := 10) WW.out.ltc WW.out.code (.int .i64 Z10)) (by rw [size_set, size_set, size_set, size_set, size_set, size_set, size_set, size_set, size_set, size_set, size_set]; exact S5.out.lt WW.out) (j := 11) WW.out.ltc WW.out.code (.int .i64 Z11))
      generalize ((((((((((((w4.setCell ⟨w.heap.size, 0, none⟩ (.int .i64 Z0)).setCell ⟨w.heap.size, 1, none⟩ (.int .i64 Z1)).setCell ⟨w.heap.size, 2, none⟩ (.int .i64 Z2)).setCell ⟨w.heap.size, 3, none⟩ (.int .i64 Z3)).setCell ⟨w.heap.size, 4, none⟩ (.int .i64 Z4)).setCell ⟨w.heap.size, 5, none⟩ (.int .i64 Z5)).setCell ⟨w.heap.size, 6, none⟩ (.int .i64 Z6)).setCell ⟨w.heap.size, 7, none⟩ (.int .i64 Z7)).setCell ⟨w.heap.size, 8, none⟩ (.int .i64 Z8)).setCell ⟨w.heap.size, 9, none⟩ (.int .i64 Z9)).setCell ⟨w.heap.size, 10, none⟩ (.int .i64 Z10)).setCell ⟨w.heap.size, 11, none⟩ (.int .i64 Z11)) = u9 at *
      have h9' : u9.heap[w.heap.size]? = some (.cells #[.int .i64 Z0, .int .i64 Z1, .int .i64 Z2, .int .i64 Z3, .int .i64 Z4, .int .i64 Z5, .int .i64 Z6, .int .i64 Z7, .int .i64 Z8, .int .i64 Z9, .int .i64 Z10, .int .i64 Z11] 37) := by simpa using h9
      have D0 := Go.Joins.cell_of_block h9' 0
      have D1 := Go.Joins.cell_of_block h9' 1
      have D2 := Go.Joins.cell_of_block h9' 2
      have D3 := Go.Joins.cell_of_block h9' 3
      have D4 := Go.Joins.cell_of_block h9' 4
      have D5 := Go.Joins.cell_of_block h9' 5
      have D6 := Go.Joins.cell_of_block h9' 6
      have D7 := Go.Joins.cell_of_block h9' 7
      have D8 := Go.Joins.cell_of_block h9' 8
      have D9 := Go.Joins.cell_of_block h9' 9
      have D10 := Go.Joins.cell_of_block h9' 10
      have D11 := Go.Joins.cell_of_block h9' 11
      simp at D0 D1 D2 D3 D4 D5 D6 D7 D8 D9 D10 D11
      exact bodyPost_ret (v := .agg #[.int .i64 Z0, .int .i64 Z1, .int .i64 Z2, .int .i64 Z3, .int .i64 Z4, .int .i64 Z5, .int .i64 Z6, .int .i64 Z7, .int .i64 Z8, .int .i64 Z9, .int .i64 Z10, .int .i64 Z11]) (by simp [results, Try.results124, go_sem, D0, D1, D2, D3, D4, D5, D6, D7, D8, D9, D10, D11]) rfl ⟨Z0, Z1, Z2, Z3, Z4, Z5, Z6, Z7, Z8, Z9, Z10, Z11, rfl, ra12 r0 r1 r2 r3 r4 r5 r6 r7 r8 r9 r10 r11, c9, g9⟩
    · go_wp2_with (fail)
      refine (anyval cb a len cap _ (S5.out.lt WW.out) (fun h b off e => by have := WW.out.code h b off e; have := S5.out.gro.size; omega) S5.out.cur).mono ?_
      rintro e w5 ⟨vk, vn, rfl, iv, ivn, c5, g5⟩
      have S6 := Lib.hid (S5.out.kept WW.out g5 c5)
      clear g5 c5 S5
      generalize hzs : zs0 = zs at *
      have z0 := S6.out.cell 0 (by omega)
      have z1 := S6.out.cell 1 (by omega)
      have z2 := S6.out.cell 2 (by omega)
      have z3 := S6.out.cell 3 (by omega)
      have z4 := S6.out.cell 4 (by omega)
      have z5 := S6.out.cell 5 (by omega)
      have z6 := S6.out.cell 6 (by omega)
      have z7 := S6.out.cell 7 (by omega)
      have z8 := S6.out.cell 8 (by omega)
      have z9 := S6.out.cell 9 (by omega)
      have z10 := S6.out.cell 10 (by omega)
      have z11 := S6.out.cell 11 (by omega)
      have F8 := S6.out.fz 8
      have F9 := S6.out.fz 9
      have SA := Lib.hid ((S6.out.store WW.out 8 vk).store WW.out 9 vn)
      have hR := S6.out.res
      have y0 := Go.Joins.cell_of_block hR 0
      have G0 := Go.Joins.unfrozen_of_block hR 0
      have y1 := Go.Joins.cell_of_block hR 1
      have G1 := Go.Joins.unfrozen_of_block hR 1
      have y2 := Go.Joins.cell_of_block hR 2
      have G2 := Go.Joins.unfrozen_of_block hR 2
      have y3 := Go.Joins.cell_of_block hR 3
      have G3 := Go.Joins.unfrozen_of_block hR 3
      have y4 := Go.Joins.cell_of_block hR 4
      have G4 := Go.Joins.unfrozen_of_block hR 4
      have y5 := Go.Joins.cell_of_block hR 5
      have G5 := Go.Joins.unfrozen_of_block hR 5
      have y6 := Go.Joins.cell_of_block hR 6
      have G6 := Go.Joins.unfrozen_of_block hR 6
      have y7 := Go.Joins.cell_of_block hR 7
      have G7 := Go.Joins.unfrozen_of_block hR 7
      have y8 := Go.Joins.cell_of_block hR 8
      have G8 := Go.Joins.unfrozen_of_block hR 8
      have y9 := Go.Joins.cell_of_block hR 9
      have G9 := Go.Joins.unfrozen_of_block hR 9
      have y10 := Go.Joins.cell_of_block hR 10
      have G10 := Go.Joins.unfrozen_of_block hR 10
      have y11 := Go.Joins.cell_of_block hR 11
      have G11 := Go.Joins.unfrozen_of_block hR 11
      simp at y0 y1 y2 y3 y4 y5 y6 y7 y8 y9 y10 y11
      clear hR
      have r0 := R0 0
      generalize zs.getD 0 0 = Z0 at z0 r0
      have r1 := R0 1
      generalize zs.getD 1 0 = Z1 at z1 r1
      have r2 := R0 2
      generalize zs.getD 2 0 = Z2 at z2 r2
      have r3 := R0 3
      generalize zs.getD 3 0 = Z3 at z3 r3
      have r4 := R0 4
      generalize zs.getD 4 0 = Z4 at z4 r4
      have r5 := R0 5
      generalize zs.getD 5 0 = Z5 at z5 r5
      have r6 := R0 6
      generalize zs.getD 6 0 = Z6 at z6 r6
      have r7 := R0 7
      generalize zs.getD 7 0 = Z7 at z7 r7
      have r8 := R0 8
      generalize zs.getD 8 0 = Z8 at z8 r8
      have r9 := R0 9
      generalize zs.getD 9 0 = Z9 at z9 r9
      have r10 := R0 10
      generalize zs.getD 10 0 = Z10 at z10 r10
      have r11 := R0 11
      generalize zs.getD 11 0 = Z11 at z11 r11
      have hgg := WW.out.ne
      have hgg2 := hgg.symm
      go_wp2
      clear z0 y0 G0 z1 y1 G1 z2 y2 G2 z3 y3 G3 z4 y4 G4 z5 y5 G5 z6 y6 G6 z7 y7 G7 z8 y8 G8 z9 y9 G9 z10 y10 G10 z11 y11 G11
      have h9 := (Go.Joins.block_setCell (Go.Joins.block_setCell (Go.Joins.block_setCell (Go.Joins.block_setCell (Go.Joins.block_setCell (Go.Joins.block_setCell (Go.Joins.block_setCell (Go.Joins.block_setCell (Go.Joins.block_setCell (Go.Joins.block_setCell (Go.Joins.block_setCell (Go.Joins.block_setCell SA.out.res (i := 0) (.int .i64 Z0)) (i := 1) (.int .i64 Z1)) (i := 2) (.int .i64 Z2)) (i := 3) (.int .i64 Z3)) (i := 4) (.int .i64 Z4)) (i := 5) (.int .i64 Z5)) (i := 6) (.int .i64 Z6)) (i := 7) (.int .i64 Z7)) (i := 8) (.int .i64 vk)) (i := 9) (.int .i64 vn)) (i := 10) (.int .i64 Z10)) (i := 11) (.int .i64 Z11))
      have g9 := (gr_store (j := 11) (u := .int .i64 Z11) (gr_store (j := 10) (u := .int .i64 Z10) (gr_store (j := 9) (u := .int .i64 vn) (gr_store (j := 8) (u := .int .i64 vk) (gr_store (j := 7) (u := .int .i64 Z7) (gr_store (j := 6) (u := .int .i64 Z6) (gr_store (j := 5) (u := .int .i64 Z5) (gr_store (j := 4) (u := .int .i64 Z4) (gr_store (j := 3) (u := .int .i64 Z3) (gr_store (j := 2) (u := .int .i64 Z2) (gr_store (j := 1) (u := .int .i64 Z1) (gr_store (j := 0) (u := .int .i64 Z0) SA.out.gro (Nat.le_refl _)) (Nat.le_refl _)) (Nat.le_refl _)) (Nat.le_refl _)) (Nat.le_refl _)) (Nat.le_refl _)) (Nat.le_refl _)) (Nat.le_refl _)) (Nat.le_refl _)) (Nat.le_refl _)) (Nat.le_refl _)) (Nat.le_refl _))
      have c9 := (Cur.stored (Cur.stored (Cur.stored (Cur.stored (Cur.stored (Cur.stored (Cur.stored (Cur.stored (Cur.stored (Cur.stored (Cur.stored (Cur.stored SA.out.cur (SA.out.lt WW.out) (j := 0) WW.out.ltc WW.out.code (.int .i64 Z0)) (by rw [size_set]; exact SA.out.lt WW.out) (j := 1) WW.out.ltc WW.out.code (.int .i64 Z1)) (by rw [size_set, size_set]; exact SA.out.lt WW.out) (j := 2) WW.out.ltc WW.out.code (.int .i64 Z2)) (by rw [size_set, size_set, size_set]; exact SA.out.lt WW.out) (j := 3) WW.out.ltc WW.out.code (.int .i64 Z3)) (by rw [size_set, size_set, size_set, size_set]; exact SA.out.lt WW.out) (j := 4) WW.out.ltc WW.out.code (.int .i64 Z4)) (by rw [size_set, size_set, size_set, size_set, size_set]; exact SA.out.lt WW.out) (j := 5) WW.out.ltc WW.out.code (.int .i64 Z5)) (by rw [size_set, size_set, size_set, size_set, size_set, size_set]; exact SA.out.lt WW.out) (j := 6) WW.out.ltc WW.out.code (.int .i64 Z6)) (by rw [size_set, size_set, size_set, size_set, size_set, size_set, size_set]; exact SA.out.lt WW.out) (j := 7) WW.out.ltc WW.out.code (.int .i64 Z7)) (by rw [size_set, size_set, size_set, size_set, size_set, size_set, size_set, size_set]; exact SA.out.lt WW.out) (j := 8) WW.out.ltc WW.out.code (.int .i64 vk)) (by rw [size_set, size_set, size_set, size_set, size_set, size_set, size_set, size_set, size_set]; exact SA.out.lt WW.out) (j := 9) WW.out.ltc WW.out.code (.int .i64 vn)) (by rw [size_set, size_set, size_set, size_set, size_set, size_set, size_set, size_set, size_set, size_set]; exact SA.out.lt WW.out) (j := 10) WW.out.ltc WW.out.code (.int .i64 Z10)) (by rw [size_set, size_set, size_set, size_set, size_set, size_set, size_set, size_set, size_set, size_set, size_set]; exact SA.out.lt WW.out) (j := 11) WW.out.ltc WW.out.code (.int .i64 Z11))
      generalize ((((((((((((((w5.setCell ⟨gs, 8, none⟩ (.int .i64 vk)).setCell ⟨gs, 9, none⟩ (.int .i64 vn)).setCell ⟨w.heap.size, 0, none⟩ (.int .i64 Z0)).setCell ⟨w.heap.size, 1, none⟩ (.int .i64 Z1)).setCell ⟨w.heap.size, 2, none⟩ (.int .i64 Z2)).setCell ⟨w.heap.size, 3, none⟩ (.int .i64 Z3)).setCell ⟨w.heap.size, 4, none⟩ (.int .i64 Z4)).setCell ⟨w.heap.size, 5, none⟩ (.int .i64 Z5)).setCell ⟨w.heap.size, 6, none⟩ (.int .i64 Z6)).setCell ⟨w.heap.size, 7, none⟩ (.int .i64 Z7)).setCell ⟨w.heap.size, 8, none⟩ (.int .i64 vk)).setCell ⟨w.heap.size, 9, none⟩ (.int .i64 vn)).setCell ⟨w.heap.size, 10, none⟩ (.int .i64 Z10)).setCell ⟨w.heap.size, 11, none⟩ (.int .i64 Z11)) = u9 at *
      have h9' : u9.heap[w.heap.size]? = some (.cells #[.int .i64 Z0, .int .i64 Z1, .int .i64 Z2, .int .i64 Z3, .int .i64 Z4, .int .i64 Z5, .int .i64 Z6, .int .i64 Z7, .int .i64 vk, .int .i64 vn, .int .i64 Z10, .int .i64 Z11] 37) := by simpa using h9
      have D0 := Go.Joins.cell_of_block h9' 0
      have D1 := Go.Joins.cell_of_block h9' 1
      have D2 := Go.Joins.cell_of_block h9' 2
      have D3 := Go.Joins.cell_of_block h9' 3
      have D4 := Go.Joins.cell_of_block h9' 4
      have D5 := Go.Joins.cell_of_block h9' 5
      have D6 := Go.Joins.cell_of_block h9' 6
      have D7 := Go.Joins.cell_of_block h9' 7
      have D8 := Go.Joins.cell_of_block h9' 8
      have D9 := Go.Joins.cell_of_block h9' 9
      have D10 := Go.Joins.cell_of_block h9' 10
      have D11 := Go.Joins.cell_of_block h9' 11
      simp at D0 D1 D2 D3 D4 D5 D6 D7 D8 D9 D10 D11
      exact bodyPost_ret (v := .agg #[.int .i64 Z0, .int .i64 Z1, .int .i64 Z2, .int .i64 Z3, .int .i64 Z4, .int .i64 Z5, .int .i64 Z6, .int .i64 Z7, .int .i64 vk, .int .i64 vn, .int .i64 Z10, .int .i64 Z11]) (by simp [results, Try.results124, go_sem, D0, D1, D2, D3, D4, D5, D6, D7, D8, D9, D10, D11]) rfl ⟨Z0, Z1, Z2, Z3, Z4, Z5, Z6, Z7, vk, vn, Z10, Z11, rfl, ra12 r0 r1 r2 r3 r4 r5 r6 r7 iv ivn r10 r11, c9, g9⟩
  · go_wp2_with (fail)
    refine (anyval cb a len cap _ (S2.out.lt WW.out) (fun h b off e => by have := WW.out.code h b off e; have := S2.out.gro.size; omega) S2.out.cur).mono ?_
    rintro e w3 ⟨uk, un, rfl, iu, iun, c3, g3⟩
    have S3 := Lib.hid (S2.out.kept WW.out g3 c3)
    clear S2 g3 c3
    have B0 := S3.out.cell 2 (by omega)
    have B1 := S3.out.cell 3 (by omega)
    have F0 := S3.out.fz 2
    have F1 := S3.out.fz 3
    have S4 := Lib.hid ((S3.out.store WW.out 2 uk).store WW.out 3 un)
    clear S3
    go_wp2_with (fail)
    clear B0 B1 F0 F1
    generalize (w3.setCell ⟨gs, 2, none⟩ (.int .i64 uk)).setCell ⟨gs, 3, none⟩ (.int .i64 un) = u3 at *
    have R1 : RA ((zs0.set 2 uk).set 3 un) := (R0.put 2 iu).put 3 iun
    generalize (zs0.set 2 uk).set 3 un = zs1 at *
    refine (once_any 8 cb a len cap _ (by omega) (by omega) S4.out.cur).mono ?_
    rintro e w4 ⟨t, rfl, c4, g4⟩
    have S5 := Lib.hid (S4.out.kept WW.out g4 c4)
    clear g4 c4
    cases t
    · generalize hzs : zs1 = zs at *
      have z0 := S5.out.cell 0 (by omega)
      have z1 := S5.out.cell 1 (by omega)
      have z2 := S5.out.cell 2 (by omega)
      have z3 := S5.out.cell 3 (by omega)
      have z4 := S5.out.cell 4 (by omega)
      have z5 := S5.out.cell 5 (by omega)
      have z6 := S5.out.cell 6 (by omega)
      have z7 := S5.out.cell 7 (by omega)
      have z8 := S5.out.cell 8 (by omega)
      have z9 := S5.out.cell 9 (by omega)
      have z10 := S5.out.cell 10 (by omega)
      have z11 := S5.out.cell 11 (by omega)
      have hR := S5.out.res
      have y0 := Go.Joins.cell_of_block hR 0
      have G0 := Go.Joins.unfrozen_of_block hR 0
      have y1 := Go.Joins.cell_of_block hR 1
      have G1 := Go.Joins.unfrozen_of_block hR 1
      have y2 := Go.Joins.cell_of_block hR 2
      have G2 := Go.Joins.unfrozen_of_block hR 2
      have y3 := Go.Joins.cell_of_block hR 3
      have G3 := Go.Joins.unfrozen_of_block hR 3
      have y4 := Go.Joins.cell_of_block hR 4
      have G4 := Go.Joins.unfrozen_of_block hR 4
      have y5 := Go.Joins.cell_of_block hR 5
      have G5 := Go.Joins.unfrozen_of_block hR 5
      have y6 := Go.Joins.cell_of_block hR 6
      have G6 := Go.Joins.unfrozen_of_block hR 6
      have y7 := Go.Joins.cell_of_block hR 7
      have G7 := Go.Joins.unfrozen_of_block hR 7
      have y8 := Go.Joins.cell_of_block hR 8
      have G8 := Go.Joins.unfrozen_of_block hR 8
      have y9 := Go.Joins.cell_of_block hR 9
      have G9 := Go.Joins.unfrozen_of_block hR 9
      have y10 := Go.Joins.cell_of_block hR 10
      have G10 := Go.Joins.unfrozen_of_block hR 10
      have y11 := Go.Joins.cell_of_block hR 11
      have G11 := Go.Joins.unfrozen_of_block hR 11
      simp at y0 y1 y2 y3 y4 y5 y6 y7 y8 y9 y10 y11
      clear hR
      have r0 := R1 0
      generalize zs.getD 0 0 = Z0 at z0 r0
      have r1 := R1 1
      generalize zs.getD 1 0 = Z1 at z1 r1
      have r2 := R1 2
      generalize zs.getD 2 0 = Z2 at z2 r2
      have r3 := R1 3
      generalize zs.getD 3 0 = Z3 at z3 r3
      have r4 := R1 4
      generalize zs.getD 4 0 = Z4 at z4 r4
      have r5 := R1 5
      generalize zs.getD 5 0 = Z5 at z5 r5
      have r6 := R1 6
      generalize zs.getD 6 0 = Z6 at z6 r6
      have r7 := R1 7
      generalize zs.getD 7 0 = Z7 at z7 r7
      have r8 := R1 8
      generalize zs.getD 8 0 = Z8 at z8 r8
      have r9 := R1 9
      generalize zs.getD 9 0 = Z9 at z9 r9
      have r10 := R1 10
      generalize zs.getD 10 0 = Z10 at z10 r10
      have r11 := R1 11
      generalize zs.getD 11 0 = Z11 at z11 r11
      have hgg := WW.out.ne
      have hgg2 := hgg.symm
      go_wp2
      clear z0 y0 G0 z1 y1 G1 z2 y2 G2 z3 y3 G3 z4 y4 G4 z5 y5 G5 z6 y6 G6 z7 y7 G7 z8 y8 G8 z9 y9 G9 z10 y10 G10 z11 y11 G11
      have h9 := (Go.Joins.block_setCell (Go.Joins.block_setCell (Go.Joins.block_setCell (Go.Joins.block_setCell (Go.Joins.block_setCell (Go.Joins.block_setCell (Go.Joins.block_setCell (Go.Joins.block_setCell (Go.Joins.block_setCell (Go.Joins.block_setCell (Go.Joins.block_setCell (Go.Joins.block_setCell S5.out.res (i := 0) (.int .i64 Z0)) (i := 1) (.int .i64 Z1)) (i := 2) (.int .i64 Z2)) (i := 3) (.int .i64 Z3)) (i := 4) (.int .i64 Z4)) (i := 5) (.int .i64 Z5)) (i := 6) (.int .i64 Z6)) (i := 7) (.int .i64 Z7)) (i := 8) (.int .i64 Z8)) (i := 9) (.int .i64 Z9)) (i := 10) (.int .i64 Z10)) (i := 11) (.int .i64 Z11))
      have g9 := (gr_store (j := 11) (u := .int .i64 Z11) (gr_store (j := 10) (u := .int .i64 Z10) (gr_store (j := 9) (u := .int .i64 Z9) (gr_store (j := 8) (u := .int .i64 Z8) (gr_store (j := 7) (u := .int .i64 Z7) (gr_store (j := 6) (u := .int .i64 Z6) (gr_store (j := 5) (u := .int .i64 Z5) (gr_store (j := 4) (u := .int .i64 Z4) (gr_store (j := 3) (u := .int .i64 Z3) (gr_store (j := 2) (u := .int .i64 Z2) (gr_store (j := 1) (u := .int .i64 Z1) (gr_store (j := 0) (u := .int .i64 Z0) S5.out.gro (Nat.le_refl _)) (Nat.le_refl _)) (Nat.le_refl _)) (Nat.le_refl _)) (Nat.le_refl _)) (Nat.le_refl _)) (Nat.le_refl _)) (Nat.le_refl _)) (Nat.le_refl _)) (Nat.le_refl _)) (Nat.le_refl _)) (Nat.le_refl _))
      have c9 := (Cur.stored (Cur.stored (Cur.stored (Cur.stored (Cur.stored (Cur.stored (Cur.stored (Cur.stored (Cur.stored (Cur.stored (Cur.stored (Cur.stored S5.out.cur (S5.out.lt WW.out) (j := 0) WW.out.ltc WW.out.code (.int .i64 Z0)) (by rw [size_set]; exact S5.out.lt WW.out) (j := 1) WW.out.ltc WW.out.code (.int .i64 Z1)) (by rw [size_set, size_set]; exact S5.out.lt WW.out) (j := 2) WW.out.ltc WW.out.code (.int .i64 Z2)) (by rw [size_set, size_set, size_set]; exact S5.out.lt WW.out) (j := 3) WW.out.ltc WW.out.code (.int .i64 Z3)) (by rw [size_set, size_set, size_set, size_set]; exact S5.out.lt WW.out) (j := 4) WW.out.ltc WW.out.code (.int .i64 Z4)) (by rw [size_set, size_set, size_set, size_set, size_set]; exact S5.out.lt WW.out) (j := 5) WW.out.ltc WW.out.code (.int .i64 Z5)) (by rw [size_set, size_set, size_set, size_set, size_set, size_set]; exact S5.out.lt WW.out) (j := 6) WW.out.ltc WW.out.code (.int .i64 Z6)) (by rw [size_set, size_set, size_set, size_set, size_set, size_set, size_set]; exact S5.out.lt WW.out) (j := 7) WW.out.ltc WW.out.code (.int .i64 Z7)) (by rw [size_set, size_set, size_set, size_set, size_set, size_set, size_set, size_set]; exact S5.out.lt WW.out) (j := 8) WW.out.ltc WW.out.code (.int .i64 Z8)) (by rw [size_set, size_set, size_set, size_set, size_set, size_set, size_set, size_set, size_set]; exact S5.out.lt WW.out) (j := 9) WW.out.ltc WW.out.code (.int .i64 Z9)) (by rw [size_set, size_set, size_set, size_set, size_set, size_set, size_set, size_set, size_set, size_set]; exact S5.out.lt WW.out) (j := 10) WW.out.ltc WW.out.code (.int .i64 Z10)) (by rw [size_set, size_set, size_set, size_set, size_set, size_set, size_set, size_set, size_set, size_set, size_set]; exact S5.out.lt WW.out) (j := 11) WW.out.ltc WW.out.code (.int .i64 Z11))
      generalize ((((((((((((w4.setCell ⟨w.heap.size, 0, none⟩ (.int .i64 Z0)).setCell ⟨w.heap.size, 1, none⟩ (.int .i64 Z1)).setCell ⟨w.heap.size, 2, none⟩ (.int .i64 Z2)).setCell ⟨w.heap.size, 3, none⟩ (.int .i64 Z3)).setCell ⟨w.heap.size, 4, none⟩ (.int .i64 Z4)).setCell ⟨w.heap.size, 5, none⟩ (.int .i64 Z5)).setCell ⟨w.heap.size, 6, none⟩ (.int .i64 Z6)).setCell ⟨w.heap.size, 7, none⟩ (.int .i64 Z7)).setCell ⟨w.heap.size, 8, none⟩ (.int .i64 Z8)).setCell ⟨w.heap.size, 9, none⟩ (.int .i64 Z9)).setCell ⟨w.heap.size, 10, none⟩ (.int .i64 Z10)).setCell ⟨w.heap.size, 11, none⟩ (.int .i64 Z11)) = u9 at *
      have h9' : u9.heap[w.heap.size]? = some (.cells #[.int .i64 Z0, .int .i64 Z1, .int .i64 Z2, .int .i64 Z3, .int .i64 Z4, .int .i64 Z5, .int .i64 Z6, .int .i64 Z7, .int .i64 Z8, .int .i64 Z9, .int .i64 Z10, .int .i64 Z11] 37) := by simpa using h9
      have D0 := Go.Joins.cell_of_block h9' 0
      have D1 := Go.Joins.cell_of_block h9' 1
      have D2 := Go.Joins.cell_of_block h9' 2
      have D3 := Go.Joins.cell_of_block h9' 3
      have D4 := Go.Joins.cell_of_block h9' 4
      have D5 := Go.Joins.cell_of_block h9' 5
      have D6 := Go.Joins.cell_of_block h9' 6
      have D7 := Go.Joins.cell_of_block h9' 7
      have D8 := Go.Joins.cell_of_block h9' 8
      have D9 := Go.Joins.cell_of_block h9' 9
      have D10 := Go.Joins.cell_of_block h9' 10
      have D11 := Go.Joins.cell_of_block h9' 11
      simp at D0 D1 D2 D3 D4 D5 D6 D7 D8 D9 D10 D11
      exact bodyPost_ret (v := .agg #[.int .i64 Z0, .int .i64 Z1, .int .i64 Z2, .int .i64 Z3, .int .i64 Z4, .int .i64 Z5, .int .i64 Z6, .int .i64 Z7, .int .i64 Z8, .int .i64 Z9, .int .i64 Z10, .int .i64 Z11]) (by simp [results, Try.results124, go_sem, D0, D1, D2, D3, D4, D5, D6, D7, D8, D9, D10, D11]) rfl ⟨Z0, Z1, Z2, Z3, Z4, Z5, Z6, Z7, Z8, Z9, Z10, Z11, rfl, ra12 r0 r1 r2 r3 r4 r5 r6 r7 r8 r9 r10 r11, c9, g9⟩
    · go_wp2_with (fail)
      refine (anyval cb a len cap _ (S5.out.lt WW.out) (fun h b off e => by have := WW.out.code h b off e; have := S5.out.gro.size; omega) S5.out.cur).mono ?_
      rintro e w5 ⟨vk, vn, rfl, iv, ivn, c5, g5⟩
      have S6 := Lib.hid (S5.out.kept WW.out g5 c5)
      clear g5 c5 S5
      generalize hzs : zs1 = zs at *
      have z0 := S6.out.cell 0 (by omega)
      have z1 := S6.out.cell 1 (by omega)
      have z2 := S6.out.cell 2 (by omega)
      have z3 := S6.out.cell 3 (by omega)
      have z4 := S6.out.cell 4 (by omega)
      have z5 := S6.out.cell 5 (by omega)
      have z6 := S6.out.cell 6 (by omega)
      have z7 := S6.out.cell 7 (by omega)
      have z8 := S6.out.cell 8 (by omega)
      have z9 := S6.out.cell 9 (by omega)
      have z10 := S6.out.cell 10 (by omega)
      have z11 := S6.out.cell 11 (by omega)
      have F8 := S6.out.fz 8
      have F9 := S6.out.fz 9
      have SA := Lib.hid ((S6.out.store WW.out 8 vk).store WW.out 9 vn)
      have hR := S6.out.res
      have y0 := Go.Joins.cell_of_block hR 0
      have G0 := Go.Joins.unfrozen_of_block hR 0
      have y1 := Go.Joins.cell_of_block hR 1
      have G1 := Go.Joins.unfrozen_of_block hR 1
      have y2 := Go.Joins.cell_of_block hR 2
      have G2 := Go.Joins.unfrozen_of_block hR 2
      have y3 := Go.Joins.cell_of_block hR 3
      have G3 := Go.Joins.unfrozen_of_block hR 3
      have y4 := Go.Joins.cell_of_block hR 4
      have G4 := Go.Joins.unfrozen_of_block hR 4
      have y5 := Go.Joins.cell_of_block hR 5
      have G5 := Go.Joins.unfrozen_of_block hR 5
      have y6 := Go.Joins.cell_of_block hR 6
      have G6 := Go.Joins.unfrozen_of_block hR 6
      have y7 := Go.Joins.cell_of_block hR 7
      have G7 := Go.Joins.unfrozen_of_block hR 7
      have y8 := Go.Joins.cell_of_block hR 8
      have G8 := Go.Joins.unfrozen_of_block hR 8
      have y9 := Go.Joins.cell_of_block hR 9
      have G9 := Go.Joins.unfrozen_of_block hR 9
      have y10 := Go.Joins.cell_of_block hR 10
      have G10 := Go.Joins.unfrozen_of_block hR 10
      have y11 := Go.Joins.cell_of_block hR 11
      have G11 := Go.Joins.unfrozen_of_block hR 11
      simp at y0 y1 y2 y3 y4 y5 y6 y7 y8 y9 y10 y11
      clear hR
      have r0 := R1 0
      generalize zs.getD 0 0 = Z0 at z0 r0
      have r1 := R1 1
      generalize zs.getD 1 0 = Z1 at z1 r1
      have r2 := R1 2
      generalize zs.getD 2 0 = Z2 at z2 r2
      have r3 := R1 3
      generalize zs.getD 3 0 = Z3 at z3 r3
      have r4 := R1 4
      generalize zs.getD 4 0 = Z4 at z4 r4
      have r5 := R1 5
      generalize zs.getD 5 0 = Z5 at z5 r5
      have r6 := R1 6
      generalize zs.getD 6 0 = Z6 at z6 r6
      have r7 := R1 7
      generalize zs.getD 7 0 = Z7 at z7 r7
      have r8 := R1 8
      generalize zs.getD 8 0 = Z8 at z8 r8
      have r9 := R1 9
      generalize zs.getD 9 0 = Z9 at z9 r9
      have r10 := R1 10
      generalize zs.getD 10 0 = Z10 at z10 r10
      have r11 := R1 11
      generalize zs.getD 11 0 = Z11 at z11 r11
      have hgg := WW.out.ne
      have hgg2 := hgg.symm
      go_wp2
      clear z0 y0 G0 z1 y1 G1 z2 y2 G2 z3 y3 G3 z4 y4 G4 z5 y5 G5 z6 y6 G6 z7 y7 G7 z8 y8 G8 z9 y9 G9 z10 y10 G10 z11 y11 G11
      have h9 := (Go.Joins.block_setCell (Go.Joins.block_setCell (Go.Joins.block_setCell (Go.Joins.block_setCell (Go.Joins.block_setCell (Go.Joins.block_setCell (Go.Joins.block_setCell (Go.Joins.block_setCell (Go.Joins.block_setCell (Go.Joins.block_setCell (Go.Joins.block_setCell (Go.Joins.block_setCell SA.out.res (i := 0) (.int .i64 Z0)) (i := 1) (.int .i64 Z1)) (i := 2) (.int .i64 Z2)) (i := 3) (.int .i64 Z3)) (i := 4) (.int .i64 Z4)) (i := 5) (.int .i64 Z5)) (i := 6) (.int .i64 Z6)) (i := 7) (.int .i64 Z7)) (i := 8) (.int .i64 vk)) (i := 9) (.int .i64 vn)) (i := 10) (.int .i64 Z10)) (i := 11) (.int .i64 Z11))
      have g9 := (gr_store (j := 11) (u := .int .i64 Z11) (gr_store (j := 10) (u := .int .i64 Z10) (gr_store (j := 9) (u := .int .i64 vn) (gr_store (j := 8) (u := .int .i64 vk) (gr_store (j := 7) (u := .int .i64 Z7) (gr_store (j := 6) (u := .int .i64 Z6) (gr_store (j := 5) (u := .int .i64 Z5) (gr_store (j := 4) (u := .int .i64 Z4) (gr_store (j := 3) (u := .int .i64 Z3) (gr_store (j := 2) (u := .int .i64 Z2) (gr_store (j := 1) (u := .int .i64 Z1) (gr_store (j := 0) (u := .int .i64 Z0) SA.out.gro (Nat.le_refl _)) (Nat.le_refl _)) (Nat.le_refl _)) (Nat.le_refl _)) (Nat.le_refl _)) (Nat.le_refl _)) (Nat.le_refl _)) (Nat.le_refl _)) (Nat.le_refl _)) (Nat.le_refl _)) (Nat.le_refl _)) (Nat.le_refl _))
      have c9 := (Cur.stored (Cur.stored (Cur.stored (Cur.stored (Cur.stored (Cur.stored (Cur.stored (Cur.stored (Cur.stored (Cur.stored (Cur.stored (Cur.stored SA.out.cur (SA.out.lt WW.out) (j := 0) WW.out.ltc WW.out.code (.int .i64 Z0)) (by rw [size_set]; exact SA.out.lt WW.out) (j := 1) WW.out.ltc WW.out.code (.int .i64 Z1)) (by rw [size_set, size_set]; exact SA.out.lt WW.out) (j := 2) WW.out.ltc WW.out.code (.int .i64 Z2)) (by rw [size_set, size_set, size_set]; exact SA.out.lt WW.out) (j := 3) WW.out.ltc WW.out.code (.int .i64 Z3)) (by rw [size_set, size_set, size_set, size_set]; exact SA.out.lt WW.out) (j := 4) WW.out.ltc WW.out.code (.int .i64 Z4)) (by rw [size_set, size_set, size_set, size_set, size_set]; exact SA.out.lt WW.out) (j := 5) WW.out.ltc WW.out.code (.int .i64 Z5)) (by rw [size_set, size_set, size_set, size_set, size_set, size_set]; exact SA.out.lt WW.out) (j := 6) WW.out.ltc WW.out.code (.int .i64 Z6)) (by rw [size_set, size_set, size_set, size_set, size_set, size_set, size_set]; exact SA.out.lt WW.out) (j := 7) WW.out.ltc WW.out.code (.int .i64 Z7)) (by rw [size_set, size_set, size_set, size_set, size_set, size_set, size_set, size_set]; exact SA.out.lt WW.out) (j := 8) WW.out.ltc WW.out.code (.int .i64 vk)) (by rw [size_set, size_set, size_set, size_set, size_set, size_set, size_set, size_set, size_set]; exact SA.out.lt WW.out) (j := 9) WW.out.ltc WW.out.code (.int .i64 vn)) (by rw [size_set, size_set, size_set, size_set, size_set, size_set, size_set, size_set, size_set, size_set]; exact SA.out.lt WW.out) (j := 10) WW.out.ltc WW.out.code (.int .i64 Z10)) (by rw [size_set, size_set, size_set, size_set, size_set, size_set, size_set, size_set, size_set, size_set, size_set]; exact SA.out.lt WW.out) (j := 11) WW.out.ltc WW.out.code (.int .i64 Z11))
      generalize ((((((((((((((w5.setCell ⟨gs, 8, none⟩ (.int .i64 vk)).setCell ⟨gs, 9, none⟩ (.int .i64 vn)).setCell ⟨w.heap.size, 0, none⟩ (.int .i64 Z0)).setCell ⟨w.heap.size, 1, none⟩ (.int .i64 Z1)).setCell ⟨w.heap.size, 2, none⟩ (.int .i64 Z2)).setCell ⟨w.heap.size, 3, none⟩ (.int .i64 Z3)).setCell ⟨w.heap.size, 4, none⟩ (.int .i64 Z4)).setCell ⟨w.heap.size, 5, none⟩ (.int .i64 Z5)).setCell ⟨w.heap.size, 6, none⟩ (.int .i64 Z6)).setCell ⟨w.heap.size, 7, none⟩ (.int .i64 Z7)).setCell ⟨w.heap.size, 8, none⟩ (.int .i64 vk)).setCell ⟨w.heap.size, 9, none⟩ (.int .i64 vn)).setCell ⟨w.heap.size, 10, none⟩ (.int .i64 Z10)).setCell ⟨w.heap.size, 11, none⟩ (.int .i64 Z11)) = u9 at *
      have h9' : u9.heap[w.heap.size]? = some (.cells #[.int .i64 Z0, .int .i64 Z1, .int .i64 Z2, .int .i64 Z3, .int .i64 Z4, .int .i64 Z5, .int .i64 Z6, .int .i64 Z7, .int .i64 vk, .int .i64 vn, .int .i64 Z10, .int .i64 Z11] 37) := by simpa using h9
      have D0 := Go.Joins.cell_of_block h9' 0
      have D1 := Go.Joins.cell_of_block h9' 1
      have D2 := Go.Joins.cell_of_block h9' 2
      have D3 := Go.Joins.cell_of_block h9' 3
      have D4 := Go.Joins.cell_of_block h9' 4
      have D5 := Go.Joins.cell_of_block h9' 5
      have D6 := Go.Joins.cell_of_block h9' 6
      have D7 := Go.Joins.cell_of_block h9' 7
      have D8 := Go.Joins.cell_of_block h9' 8
      have D9 := Go.Joins.cell_of_block h9' 9
      have D10 := Go.Joins.cell_of_block h9' 10
      have D11 := Go.Joins.cell_of_block h9' 11
      simp at D0 D1 D2 D3 D4 D5 D6 D7 D8 D9 D10 D11
      exact bodyPost_ret (v := .agg #[.int .i64 Z0, .int .i64 Z1, .int .i64 Z2, .int .i64 Z3, .int .i64 Z4, .int .i64 Z5, .int .i64 Z6, .int .i64 Z7, .int .i64 vk, .int .i64 vn, .int .i64 Z10, .int .i64 Z11]) (by simp [results, Try.results124, go_sem, D0, D1, D2, D3, D4, D5, D6, D7, D8, D9, D10, D11]) rfl ⟨Z0, Z1, Z2, Z3, Z4, Z5, Z6, Z7, vk, vn, Z10, Z11, rfl, ra12 r0 r1 r2 r3 r4 r5 r6 r7 iv ivn r10 r11, c9, g9⟩
set_option maxHeartbeats 1000000 in
theorem anyedg_in (cb : Nat) (a : Option Addr) (len cap : Nat) (w : World) (hcb : cb < w.heap.size) (hlt : 0 < len → ∀ b off, a = some ⟨b, off, none⟩ → b < w.heap.size) (hc : Cur cb a len cap w) :
    Calls Try.prog 125 #[.pointer (some ⟨cb, 0, none⟩)] w (EdgInP cb a len cap w) := by
  have hr0 := hp_new w (.cells #[.int .i64 0, .int .i64 0, .int .i64 0, .int .i64 0] 39)
  have g0 := gr_new w (.cells #[.int .i64 0, .int .i64 0, .int .i64 0, .int .i64 0] 39) cb
  have c0 := hc.kept hcb (World.grownBy_alloc w (.cells #[.int .i64 0, .int .i64 0, .int .i64 0, .int .i64 0] 39) none) (fun k hk => by cases hk)
  have hs0 : w.heap.size < (w.alloc (.cells #[.int .i64 0, .int .i64 0, .int .i64 0, .int .i64 0] 39)).heap.size := by simp
  go_enter Try.func125, Try.ntmps125
  go_wp2_with (fail)
  generalize w.alloc (.cells #[.int .i64 0, .int .i64 0, .int .i64 0, .int .i64 0] 39) = u0 at *
  refine (edges_ok cb a len cap u0 (by omega) (fun h b off e => by have := hlt h b off e; omega) c0).mono ?_
  rintro e w1 ⟨p, q, r, s, rfl, s0, s1, s2, s3, c1, g1⟩
  have hr1 := blk_kept hr0 g1 (by omega)
  have WW := Lib.hid (show SDw w cb a len w.heap.size w1.heap.size from ⟨hcb, Nat.le_refl _, by have := g1.size; omega, by have := g1.size; omega, hlt⟩)
  have G1 := gr_trans g0 g1
  have hl1 : cb < w1.heap.size := by have := g1.size; omega
  have S1 := Lib.hid (show ED w cb a len cap w.heap.size w1.heap.size [p, q, r, s] (w1.alloc (.cells #[.int .i64 p, .int .i64 q, .int .i64 r, .int .i64 s] 39)) from
    ⟨rfl, hp_new w1 _, hp_on hr1 _, c1.kept hl1 (World.grownBy_alloc w1 _ none) (fun k hk => by cases hk), gr_trans G1 (gr_new w1 _ cb)⟩)
  clear G1 g1 c1 hr1 hr0 g0 c0 hc hlt hcb
  go_wp2_with (fail)
  generalize w1.alloc (.cells #[.int .i64 p, .int .i64 q, .int .i64 r, .int .i64 s] 39) = u1 at *
  have R0 : RA [p, q, r, s] := ra4 (IsI.of64 s0) (IsI.of64 s1) (IsI.of64 s2) (IsI.of64 s3)
  clear s0 s1 s2 s3
  generalize [p, q, r, s] = zs0 at *
  generalize w1.heap.size = gs at *
  refine (once_any 6 cb a len cap _ (by omega) (by omega) S1.out.cur).mono ?_
  rintro e w2 ⟨t, rfl, c2, g2⟩
  have S2 := Lib.hid (S1.out.kept WW.out g2 c2)
  clear S1 g2 c2
  cases t
  · generalize hzs : zs0 = zs at *
    have z0 := S2.out.cell 0 (by omega)
    have z1 := S2.out.cell 1 (by omega)
    have z2 := S2.out.cell 2 (by omega)
    have z3 := S2.out.cell 3 (by omega)
    have hR := S2.out.res
    have y0 := Go.Joins.cell_of_block hR 0
    have G0 := Go.Joins.unfrozen_of_block hR 0
    have y1 := Go.Joins.cell_of_block hR 1
    have G1 := Go.Joins.unfrozen_of_block hR 1
    have y2 := Go.Joins.cell_of_block hR 2
    have G2 := Go.Joins.unfrozen_of_block hR 2
    have y3 := Go.Joins.cell_of_block hR 3
    have G3 := Go.Joins.unfrozen_of_block hR 3
    simp at y0 y1 y2 y3
    clear hR
    have r0 := R0 0
    generalize zs.getD 0 0 = Z0 at z0 r0
    have r1 := R0 1
    generalize zs.getD 1 0 = Z1 at z1 r1
    have r2 := R0 2
    generalize zs.getD 2 0 = Z2 at z2 r2
    have r3 := R0 3
    generalize zs.getD 3 0 = Z3 at z3 r3
    have hgg := WW.out.ne
    have hgg2 := hgg.symm
    go_wp2
    clear z0 y0 G0 z1 y1 G1 z2 y2 G2 z3 y3 G3
    have h9 := (Go.Joins.block_setCell (Go.Joins.block_setCell (Go.Joins.block_setCell (Go.Joins.block_setCell S2.out.res (i := 0) (.int .i64 Z0)) (i := 1) (.int .i64 Z1)) (i := 2) (.int .i64 Z2)) (i := 3) (.int .i64 Z3))
    have g9 := (gr_store (j := 3) (u := .int .i64 Z3) (gr_store (j := 2) (u := .int .i64 Z2) (gr_store (j := 1) (u := .int .i64 Z1) (gr_store (j := 0) (u := .int .i64 Z0) S2.out.gro (Nat.le_refl _)) (Nat.le_refl _)) (Nat.le_refl _)) (Nat.le_refl _))
    have c9 := (Cur.stored (Cur.stored (Cur.stored (Cur.stored S2.out.cur (S2.out.lt WW.out) (j := 0) WW.out.ltc WW.out.code (.int .i64 Z0)) (by rw [size_set]; exact S2.out.lt WW.out) (j := 1) WW.out.ltc WW.out.code (.int .i64 Z1)) (by rw [size_set, size_set]; exact S2.out.lt WW.out) (j := 2) WW.out.ltc WW.out.code (.int .i64 Z2)) (by rw [size_set, size_set, size_set]; exact S2.out.lt WW.out) (j := 3) WW.out.ltc WW.out.code (.int .i64 Z3))
    generalize ((((w2.setCell ⟨w.heap.size, 0, none⟩ (.int .i64 Z0)).setCell ⟨w.heap.size, 1, none⟩ (.int .i64 Z1)).setCell ⟨w.heap.size, 2, none⟩ (.int .i64 Z2)).setCell ⟨w.heap.size, 3, none⟩ (.int .i64 Z3)) = u9 at *
    have h9' : u9.heap[w.heap.size]? = some (.cells #[.int .i64 Z0, .int .i64 Z1, .int .i64 Z2, .int .i64 Z3] 39) := by simpa using h9
    have D0 := Go.Joins.cell_of_block h9' 0
    have D1 := Go.Joins.cell_of_block h9' 1
    have D2 := Go.Joins.cell_of_block h9' 2
    have D3 := Go.Joins.cell_of_block h9' 3
    simp at D0 D1 D2 D3
    exact bodyPost_ret (v := .agg #[.int .i64 Z0, .int .i64 Z1, .int .i64 Z2, .int .i64 Z3]) (by simp [results, Try.results125, go_sem, D0, D1, D2, D3]) rfl ⟨Z0, Z1, Z2, Z3, rfl, ra4 r0 r1 r2 r3, c9, g9⟩
  · go_wp2_with (fail)
    refine (l02_any cb a len cap _ (S2.out.lt WW.out) S2.out.cur).mono ?_
    rintro e w3 ⟨y, rfl, iy0, iy1, c3, g3⟩
    have S3 := Lib.hid (S2.out.kept WW.out g3 c3)
    clear S2 g3 c3
    generalize hzs : zs0 = zs at *
    have z0 := S3.out.cell 0 (by omega)
    have z1 := S3.out.cell 1 (by omega)
    have z2 := S3.out.cell 2 (by omega)
    have z3 := S3.out.cell 3 (by omega)
    have F2 := S3.out.fz 2
    have SA := Lib.hid (S3.out.store WW.out 2 y)
    have hR := S3.out.res
    have y0 := Go.Joins.cell_of_block hR 0
    have G0 := Go.Joins.unfrozen_of_block hR 0
    have y1 := Go.Joins.cell_of_block hR 1
    have G1 := Go.Joins.unfrozen_of_block hR 1
    have y2 := Go.Joins.cell_of_block hR 2
    have G2 := Go.Joins.unfrozen_of_block hR 2
    have y3 := Go.Joins.cell_of_block hR 3
    have G3 := Go.Joins.unfrozen_of_block hR 3
    simp at y0 y1 y2 y3
    clear hR
    have r0 := R0 0
    generalize zs.getD 0 0 = Z0 at z0 r0
    have r1 := R0 1
    generalize zs.getD 1 0 = Z1 at z1 r1
    have r2 := R0 2
    generalize zs.getD 2 0 = Z2 at z2 r2
    have r3 := R0 3
    generalize zs.getD 3 0 = Z3 at z3 r3
    have hgg := WW.out.ne
    have hgg2 := hgg.symm
    go_wp2
    clear z0 y0 G0 z1 y1 G1 z2 y2 G2 z3 y3 G3
    have h9 := (Go.Joins.block_setCell (Go.Joins.block_setCell (Go.Joins.block_setCell (Go.Joins.block_setCell SA.out.res (i := 0) (.int .i64 Z0)) (i := 1) (.int .i64 Z1)) (i := 2) (.int .i64 y)) (i := 3) (.int .i64 Z3))
    have g9 := (gr_store (j := 3) (u := .int .i64 Z3) (gr_store (j := 2) (u := .int .i64 y) (gr_store (j := 1) (u := .int .i64 Z1) (gr_store (j := 0) (u := .int .i64 Z0) SA.out.gro (Nat.le_refl _)) (Nat.le_refl _)) (Nat.le_refl _)) (Nat.le_refl _))
    have c9 := (Cur.stored (Cur.stored (Cur.stored (Cur.stored SA.out.cur (SA.out.lt WW.out) (j := 0) WW.out.ltc WW.out.code (.int .i64 Z0)) (by rw [size_set]; exact SA.out.lt WW.out) (j := 1) WW.out.ltc WW.out.code (.int .i64 Z1)) (by rw [size_set, size_set]; exact SA.out.lt WW.out) (j := 2) WW.out.ltc WW.out.code (.int .i64 y)) (by rw [size_set, size_set, size_set]; exact SA.out.lt WW.out) (j := 3) WW.out.ltc WW.out.code (.int .i64 Z3))
    generalize (((((w3.setCell ⟨gs, 2, none⟩ (.int .i64 y)).setCell ⟨w.heap.size, 0, none⟩ (.int .i64 Z0)).setCell ⟨w.heap.size, 1, none⟩ (.int .i64 Z1)).setCell ⟨w.heap.size, 2, none⟩ (.int .i64 y)).setCell ⟨w.heap.size, 3, none⟩ (.int .i64 Z3)) = u9 at *
    have h9' : u9.heap[w.heap.size]? = some (.cells #[.int .i64 Z0, .int .i64 Z1, .int .i64 y, .int .i64 Z3] 39) := by simpa using h9
    have D0 := Go.Joins.cell_of_block h9' 0
    have D1 := Go.Joins.cell_of_block h9' 1
    have D2 := Go.Joins.cell_of_block h9' 2
    have D3 := Go.Joins.cell_of_block h9' 3
    simp at D0 D1 D2 D3
    exact bodyPost_ret (v := .agg #[.int .i64 Z0, .int .i64 Z1, .int .i64 y, .int .i64 Z3]) (by simp [results, Try.results125, go_sem, D0, D1, D2, D3]) rfl ⟨Z0, Z1, y, Z3, rfl, ra4 r0 r1 ⟨iy0, iy1⟩ r3, c9, g9⟩
end Go.Proofs.Ytckpjldenkjddaa
end

import Derived.Test.YtckpjldenkjddaaZtAH
import Derived.Test.YtckpjldenkjddaaZtBJ
section
namespace Go.Proofs.Ytckpjldenkjddaa
open Go.ChangeShapes Go.WideShapes Go.ChangeAt Go.RowKit
set_option linter.unusedVariables false
set_option linter.unusedSimpArgs false

/-- A valid value of a side, as it is drawn. -/
def SVOk (k n : Int) : Prop := VOk k n ∨ (k = 3 ∧ n = 0)
def SOk (zs : List Int) : Prop := ∀ q, q < 6 → SVOk (zs.getD (2 * q) 0) (zs.getD (2 * q + 1) 0)
theorem SOk.zero : SOk [0, 0, 0, 0, 0, 0, 0, 0, 0, 0, 0, 0] := fun q hq => by
  have : q = 0 ∨ q = 1 ∨ q = 2 ∨ q = 3 ∨ q = 4 ∨ q = 5 := by omega
  rcases this with rfl | rfl | rfl | rfl | rfl | rfl <;> exact Or.inl (Or.inl ⟨rfl, rfl⟩)
theorem getD_set2 {zs : List Int} {i j r : Nat} {x y : Int} (hl : i < zs.length ∧ j < zs.length) : ((zs.set i x).set j y).getD r 0 = if r = j then y else if r = i then x else zs.getD r 0 := by
  simp only [List.getD_eq_getElem?_getD]
  by_cases h1 : r = j
  · subst h1; rw [List.getElem?_set_self (by simpa using hl.2), if_pos rfl]; rfl
  · rw [List.getElem?_set_ne (Ne.symm h1), if_neg h1]
    by_cases h2 : r = i
    · subst h2; rw [List.getElem?_set_self hl.1, if_pos rfl]; rfl
    · rw [List.getElem?_set_ne (Ne.symm h2), if_neg h2]
theorem SOk.put {zs : List Int} (h : SOk zs) (hl : zs.length = 12) {k n : Int} (hv : SVOk k n) (q i j : Nat) (hi : i = 2 * q) (hj : j = 2 * q + 1) (hq : q < 6) : SOk ((zs.set i k).set j n) := fun r hr => by
  subst hi hj
  rw [getD_set2 (by omega), getD_set2 (by omega)]
  by_cases e : r = q
  · subst e
    rw [if_neg (by omega), if_pos rfl, if_pos rfl]
    exact hv
  · rw [if_neg (by omega), if_neg (by omega), if_neg (by omega), if_neg (by omega)]
    exact h r hr
def SidOkP (cb : Nat) (a : Option Addr) (len cap : Nat) (w : World) (e : Ending) (w' : World) : Prop :=
  ∃ lk ln tk tn rk rn bk bn sk sn ek en : Int, e = .returned (.agg #[.int .i64 lk, .int .i64 ln, .int .i64 tk, .int .i64 tn, .int .i64 rk, .int .i64 rn, .int .i64 bk, .int .i64 bn, .int .i64 sk, .int .i64 sn, .int .i64 ek, .int .i64 en]) ∧ SVOk lk ln ∧ SVOk tk tn ∧ SVOk rk rn ∧ SVOk bk bn ∧ SVOk sk sn ∧ SVOk ek en ∧ Cur cb a len cap w' ∧ w.grownBy w' (some cb)
def SRelV (w : World) (cb : Nat) (a : Option Addr) (len cap : Nat) (i : Value) (wr : World) : Prop :=
  ∃ (k : Nat) (zs : List Int), k ≤ 4 ∧ i = .int .i64 k ∧ SD w cb a len cap w.heap.size (w.heap.size + 1) zs wr ∧ SOk zs
set_option maxHeartbeats 2000000 in
theorem sides_ok (cb : Nat) (a : Option Addr) (len cap : Nat) (w : World) (hcb : cb < w.heap.size) (hlt : 0 < len → ∀ b off, a = some ⟨b, off, none⟩ → b < w.heap.size) (hc : Cur cb a len cap w) :
    Calls Try.prog 104 #[.pointer (some ⟨cb, 0, none⟩)] w (SidOkP cb a len cap w) := by
  have WW := Lib.hid (show SDw w cb a len w.heap.size (w.heap.size + 1) from ⟨hcb, Nat.le_refl _, Nat.le_succ _, by omega, hlt⟩)
  have h0 : SD w cb a len cap w.heap.size (w.heap.size + 1) [0, 0, 0, 0, 0, 0, 0, 0, 0, 0, 0, 0] ((w.alloc (.cells #[.int .i64 0, .int .i64 0, .int .i64 0, .int .i64 0, .int .i64 0, .int .i64 0, .int .i64 0, .int .i64 0, .int .i64 0, .int .i64 0, .int .i64 0, .int .i64 0] 37)).alloc (.cells #[.int .i64 0, .int .i64 0, .int .i64 0, .int .i64 0, .int .i64 0, .int .i64 0, .int .i64 0, .int .i64 0, .int .i64 0, .int .i64 0, .int .i64 0, .int .i64 0] 37)) := by
    refine ⟨rfl, ?_, hp_on (hp_new w _) _, ?_, gr_trans (gr_new w (.cells #[.int .i64 0, .int .i64 0, .int .i64 0, .int .i64 0, .int .i64 0, .int .i64 0, .int .i64 0, .int .i64 0, .int .i64 0, .int .i64 0, .int .i64 0, .int .i64 0] 37) cb) (gr_new _ (.cells #[.int .i64 0, .int .i64 0, .int .i64 0, .int .i64 0, .int .i64 0, .int .i64 0, .int .i64 0, .int .i64 0, .int .i64 0, .int .i64 0, .int .i64 0, .int .i64 0] 37) cb)⟩
    · have := hp_new (w.alloc (.cells #[.int .i64 0, .int .i64 0, .int .i64 0, .int .i64 0, .int .i64 0, .int .i64 0, .int .i64 0, .int .i64 0, .int .i64 0, .int .i64 0, .int .i64 0, .int .i64 0] 37)) (.cells #[.int .i64 0, .int .i64 0, .int .i64 0, .int .i64 0, .int .i64 0, .int .i64 0, .int .i64 0, .int .i64 0, .int .i64 0, .int .i64 0, .int .i64 0, .int .i64 0] 37)
      rwa [World.size_alloc] at this
    · exact (hc.kept hcb (World.grownBy_alloc w (.cells #[.int .i64 0, .int .i64 0, .int .i64 0, .int .i64 0, .int .i64 0, .int .i64 0, .int .i64 0, .int .i64 0, .int .i64 0, .int .i64 0, .int .i64 0, .int .i64 0] 37) none) (fun k hk => by cases hk)).kept (by simp; omega) (World.grownBy_alloc _ (.cells #[.int .i64 0, .int .i64 0, .int .i64 0, .int .i64 0, .int .i64 0, .int .i64 0, .int .i64 0, .int .i64 0, .int .i64 0, .int .i64 0, .int .i64 0, .int .i64 0] 37) none) (fun k hk => by cases hk)
  have H0 := Lib.hid h0
  have HZ0 := Lib.hid SOk.zero
  clear h0 hlt hc hcb
  go_enter Try.func104, Try.ntmps104
  go_wp2_with (fail)
  generalize (w.alloc (.cells #[.int .i64 0, .int .i64 0, .int .i64 0, .int .i64 0, .int .i64 0, .int .i64 0, .int .i64 0, .int .i64 0, .int .i64 0, .int .i64 0, .int .i64 0, .int .i64 0] 37)).alloc (.cells #[.int .i64 0, .int .i64 0, .int .i64 0, .int .i64 0, .int .i64 0, .int .i64 0, .int .i64 0, .int .i64 0, .int .i64 0, .int .i64 0, .int .i64 0, .int .i64 0] 37) = u0 at *
  go_loopw [4] (SRelV w cb a len cap) (fun i _ => 4 - (intOf i).toNat)
  case atStart => exact ⟨0, _, by omega, rfl, H0.out, HZ0.out⟩
  case round =>
    obtain ⟨k, zs, hk, rfl, hs, hz⟩ := hrel
    have SZ := Lib.hid hz
    clear hz
    have HS := Lib.hid hs
    have hcw := hs.cur
    clear H0 hs
    go_wp2_with (fail)
    refine (below_pos 4 cb a len cap wr (by omega) (by omega) hcw).mono ?_
    rintro e w1 ⟨x, rfl, x0, x1, c1, g1, s1⟩
    have S1 := Lib.hid (HS.out.kept WW.out g1 c1)
    clear s1 hcw g1 HS
    by_cases hkx : (k : Int) < x
    · go_wp2_with (fail)
      refine (val_ok cb a len cap w1 (S1.out.lt WW.out) (fun h b off e => by have := WW.out.code h b off e; have := S1.out.gro.size; omega) c1).mono ?_
      rintro e w2 ⟨vk, vn, rfl, hv0, c2, g2⟩
      have HV := Lib.hid (Or.inl hv0 : SVOk vk vn)
      clear hv0
      have S2 := Lib.hid (S1.out.kept WW.out g2 c2)
      clear c1 S1 g2 c2
      have hgv := (show w.heap.size + 2 ≤ w2.heap.size from by have := hp_lt S2.out.here; omega)
      have S3 := Lib.hid (S2.out.new WW.out (.cells #[.int .i64 vk, .int .i64 vn] 35))
      have hv := hp_new w2 (.cells #[.int .i64 vk, .int .i64 vn] 35)
      clear S2
      go_wp2_with (fail)
      refine (once_any 4 cb a len cap _ (by omega) (by omega) S3.out.cur).mono ?_
      rintro e w3 ⟨t, rfl, c3, g3⟩
      have S4 := Lib.hid (S3.out.kept WW.out g3 c3)
      have hv4 := blk_kept hv g3 (by have := WW.out.ltc; omega)
      clear S3 g3 c3 hv
      generalize w2.heap.size = gv at *
      have hn1 : w.heap.size + 1 ≠ gv := by omega
      have hn2 : w.heap.size ≠ gv := by omega
      have hn3 := hn1.symm
      have hn4 := hn2.symm
      cases t

      · go_wp2_with (fail)
        refine (below_pos 6 cb a len cap _ (by omega) (by omega) S4.out.cur).mono ?_
        rintro e w5 ⟨y, rfl, y0, y1, c5, g5, s5⟩
        have S6 := Lib.hid (S4.out.kept WW.out g5 c5)
        have hv6 := blk_kept hv4 g5 (by have := WW.out.ltc; omega)
        clear S4 hv4 g5 c5 s5
        have C0 := Go.Joins.cell_of_block hv6 0
        have C1 := Go.Joins.cell_of_block hv6 1
        simp at C0 C1
        clear hv6
        by_cases e0 : y = 0
        · subst e0
          have B0 := S6.out.cell 0 (by omega)
          have B1 := S6.out.cell 1 (by omega)
          have F0 := S6.out.fz 0
          have F1 := S6.out.fz 1
          have S7 := Lib.hid ((S6.out.store WW.out 0 vk).store WW.out 1 vn)
          have Z7 := Lib.hid (SOk.put SZ.out S6.out.size (k := vk) (n := vn) HV.out 0 0 1 rfl rfl (by omega))
          go_wp2
          go_roundw
          case rel => exact ⟨k + 1, _, by omega, by go_num, S7.out, Z7.out⟩
          case measure => simp [intOf]; omega
        by_cases e1 : y = 1
        · subst e1
          have B0 := S6.out.cell 2 (by omega)
          have B1 := S6.out.cell 3 (by omega)
          have F0 := S6.out.fz 2
          have F1 := S6.out.fz 3
          have S7 := Lib.hid ((S6.out.store WW.out 2 vk).store WW.out 3 vn)
          have Z7 := Lib.hid (SOk.put SZ.out S6.out.size (k := vk) (n := vn) HV.out 1 2 3 rfl rfl (by omega))
          go_wp2
          go_roundw
          case rel => exact ⟨k + 1, _, by omega, by go_num, S7.out, Z7.out⟩
          case measure => simp [intOf]; omega
        by_cases e2 : y = 2
        · subst e2
          have B0 := S6.out.cell 4 (by omega)
          have B1 := S6.out.cell 5 (by omega)
          have F0 := S6.out.fz 4
          have F1 := S6.out.fz 5
          have S7 := Lib.hid ((S6.out.store WW.out 4 vk).store WW.out 5 vn)
          have Z7 := Lib.hid (SOk.put SZ.out S6.out.size (k := vk) (n := vn) HV.out 2 4 5 rfl rfl (by omega))
          go_wp2
          go_roundw
          case rel => exact ⟨k + 1, _, by omega, by go_num, S7.out, Z7.out⟩
          case measure => simp [intOf]; omega
        by_cases e3 : y = 3
        · subst e3
          have B0 := S6.out.cell 6 (by omega)
          have B1 := S6.out.cell 7 (by omega)
          have F0 := S6.out.fz 6
          have F1 := S6.out.fz 7
          have S7 := Lib.hid ((S6.out.store WW.out 6 vk).store WW.out 7 vn)
          have Z7 := Lib.hid (SOk.put SZ.out S6.out.size (k := vk) (n := vn) HV.out 3 6 7 rfl rfl (by omega))
          go_wp2
          go_roundw
          case rel => exact ⟨k + 1, _, by omega, by go_num, S7.out, Z7.out⟩
          case measure => simp [intOf]; omega
        by_cases e4 : y = 4
        · subst e4
          have B0 := S6.out.cell 8 (by omega)
          have B1 := S6.out.cell 9 (by omega)
          have F0 := S6.out.fz 8
          have F1 := S6.out.fz 9
          have S7 := Lib.hid ((S6.out.store WW.out 8 vk).store WW.out 9 vn)
          have Z7 := Lib.hid (SOk.put SZ.out S6.out.size (k := vk) (n := vn) HV.out 4 8 9 rfl rfl (by omega))
          go_wp2
          go_roundw
          case rel => exact ⟨k + 1, _, by omega, by go_num, S7.out, Z7.out⟩
          case measure => simp [intOf]; omega
        · have f0 : (y == 0) = false := by simp [e0]
          have f1 : (y == 1) = false := by simp [e1]
          have f2 : (y == 2) = false := by simp [e2]
          have f3 : (y == 3) = false := by simp [e3]
          have f4 : (y == 4) = false := by simp [e4]
          have B0 := S6.out.cell 10 (by omega)
          have B1 := S6.out.cell 11 (by omega)
          have F0 := S6.out.fz 10
          have F1 := S6.out.fz 11
          have S7 := Lib.hid ((S6.out.store WW.out 10 vk).store WW.out 11 vn)
          have Z7 := Lib.hid (SOk.put SZ.out S6.out.size (k := vk) (n := vn) HV.out 5 10 11 rfl rfl (by omega))
          go_wp2
          go_roundw
          case rel => exact ⟨k + 1, _, by omega, by go_num, S7.out, Z7.out⟩
          case measure => simp [intOf]; omega
      · have C0 := Go.Joins.cell_of_block hv4 0
        have C1 := Go.Joins.cell_of_block hv4 1
        have G0 := Go.Joins.unfrozen_of_block hv4 0
        have G1 := Go.Joins.unfrozen_of_block hv4 1
        simp at C0 C1
        have S5 := Lib.hid ((S4.out.other WW.out (by omega) hn1 hn2 0 (.int .i64 3)).other WW.out (by omega) hn1 hn2 1 (.int .i64 0))
        have hv5 := blk_two (x' := .int .i64 3) (y' := .int .i64 0) hv4
        clear S4 hv4
        go_wp2_with (fail)
        clear C0 C1 G0 G1
        refine (below_pos 6 cb a len cap _ (by omega) (by omega) S5.out.cur).mono ?_
        rintro e w5 ⟨y, rfl, y0, y1, c5, g5, s5⟩
        have S6 := Lib.hid (S5.out.kept WW.out g5 c5)
        have hv6 := blk_kept hv5 g5 (by have := WW.out.ltc; omega)
        clear S5 hv5 g5 c5 s5
        have C0 := Go.Joins.cell_of_block hv6 0
        have C1 := Go.Joins.cell_of_block hv6 1
        simp at C0 C1
        clear hv6
        by_cases e0 : y = 0
        · subst e0
          have B0 := S6.out.cell 0 (by omega)
          have B1 := S6.out.cell 1 (by omega)
          have F0 := S6.out.fz 0
          have F1 := S6.out.fz 1
          have S7 := Lib.hid ((S6.out.store WW.out 0 3).store WW.out 1 0)
          have Z7 := Lib.hid (SOk.put SZ.out S6.out.size (k := 3) (n := 0) (Or.inr ⟨rfl, rfl⟩) 0 0 1 rfl rfl (by omega))
          go_wp2
          go_roundw
          case rel => exact ⟨k + 1, _, by omega, by go_num, S7.out, Z7.out⟩
          case measure => simp [intOf]; omega
        by_cases e1 : y = 1
        · subst e1
          have B0 := S6.out.cell 2 (by omega)
          have B1 := S6.out.cell 3 (by omega)
          have F0 := S6.out.fz 2
          have F1 := S6.out.fz 3
          have S7 := Lib.hid ((S6.out.store WW.out 2 3).store WW.out 3 0)
          have Z7 := Lib.hid (SOk.put SZ.out S6.out.size (k := 3) (n := 0) (Or.inr ⟨rfl, rfl⟩) 1 2 3 rfl rfl (by omega))
          go_wp2
          go_roundw
          case rel => exact ⟨k + 1, _, by omega, by go_num, S7.out, Z7.out⟩
          case measure => simp [intOf]; omega
        by_cases e2 : y = 2
        · subst e2
          have B0 := S6.out.cell 4 (by omega)
          have B1 := S6.out.cell 5 (by omega)
          have F0 := S6.out.fz 4
          have F1 := S6.out.fz 5
          have S7 := Lib.hid ((S6.out.store WW.out 4 3).store WW.out 5 0)
          have Z7 := Lib.hid (SOk.put SZ.out S6.out.size (k := 3) (n := 0) (Or.inr ⟨rfl, rfl⟩) 2 4 5 rfl rfl (by omega))
          go_wp2
          go_roundw
          case rel => exact ⟨k + 1, _, by omega, by go_num, S7.out, Z7.out⟩
          case measure => simp [intOf]; omega
        by_cases e3 : y = 3
        · subst e3
          have B0 := S6.out.cell 6 (by omega)
          have B1 := S6.out.cell 7 (by omega)
          have F0 := S6.out.fz 6
          have F1 := S6.out.fz 7
          have S7 := Lib.hid ((S6.out.store WW.out 6 3).store WW.out 7 0)
          have Z7 := Lib.hid (SOk.put SZ.out S6.out.size (k := 3) (n := 0) (Or.inr ⟨rfl, rfl⟩) 3 6 7 rfl rfl (by omega))
          go_wp2
          go_roundw
          case rel => exact ⟨k + 1, _, by omega, by go_num, S7.out, Z7.out⟩
          case measure => simp [intOf]; omega
        by_cases e4 : y = 4
        · subst e4
          have B0 := S6.out.cell 8 (by omega)
          have B1 := S6.out.cell 9 (by omega)
          have F0 := S6.out.fz 8
          have F1 := S6.out.fz 9
          have S7 := Lib.hid ((S6.out.store WW.out 8 3).store WW.out 9 0)
          have Z7 := Lib.hid (SOk.put SZ.out S6.out.size (k := 3) (n := 0) (Or.inr ⟨rfl, rfl⟩) 4 8 9 rfl rfl (by omega))
          go_wp2
          go_roundw
          case rel => exact ⟨k + 1, _, by omega, by go_num, S7.out, Z7.out⟩
          case measure => simp [intOf]; omega
        · have f0 : (y == 0) = false := by simp [e0]
          have f1 : (y == 1) = false := by simp [e1]
          have f2 : (y == 2) = false := by simp [e2]
          have f3 : (y == 3) = false := by simp [e3]
          have f4 : (y == 4) = false := by simp [e4]
          have B0 := S6.out.cell 10 (by omega)
          have B1 := S6.out.cell 11 (by omega)
          have F0 := S6.out.fz 10
          have F1 := S6.out.fz 11
          have S7 := Lib.hid ((S6.out.store WW.out 10 3).store WW.out 11 0)
          have Z7 := Lib.hid (SOk.put SZ.out S6.out.size (k := 3) (n := 0) (Or.inr ⟨rfl, rfl⟩) 5 10 11 rfl rfl (by omega))
          go_wp2
          go_roundw
          case rel => exact ⟨k + 1, _, by omega, by go_num, S7.out, Z7.out⟩
          case measure => simp [intOf]; omega
    · have z0 := S1.out.cell 0 (by omega)
      have z1 := S1.out.cell 1 (by omega)
      have z2 := S1.out.cell 2 (by omega)
      have z3 := S1.out.cell 3 (by omega)
      have z4 := S1.out.cell 4 (by omega)
      have z5 := S1.out.cell 5 (by omega)
      have z6 := S1.out.cell 6 (by omega)
      have z7 := S1.out.cell 7 (by omega)
      have z8 := S1.out.cell 8 (by omega)
      have z9 := S1.out.cell 9 (by omega)
      have z10 := S1.out.cell 10 (by omega)
      have z11 := S1.out.cell 11 (by omega)
      have hR := S1.out.res
      have y0 := Go.Joins.cell_of_block hR 0
      have G0 := Go.Joins.unfrozen_of_block hR 0
      have y1 := Go.Joins.cell_of_block hR 1
      have G1 := Go.Joins.unfrozen_of_block hR 1
      have y2 := Go.Joins.cell_of_block hR 2
      have G2 := Go.Joins.unfrozen_of_block hR 2
      have y3 := Go.Joins.cell_of_block hR 3
      have G3 := Go.Joins.unfrozen_of_block hR 3
      have y4 := Go.Joins.cell_of_block hR 4
      have G4 := Go.Joins.unfrozen_of_block hR 4
      have y5 := Go.Joins.cell_of_block hR 5
      have G5 := Go.Joins.unfrozen_of_block hR 5
      have y6 := Go.Joins.cell_of_block hR 6
      have G6 := Go.Joins.unfrozen_of_block hR 6
      have y7 := Go.Joins.cell_of_block hR 7
      have G7 := Go.Joins.unfrozen_of_block hR 7
      have y8 := Go.Joins.cell_of_block hR 8
      have G8 := Go.Joins.unfrozen_of_block hR 8
      have y9 := Go.Joins.cell_of_block hR 9
      have G9 := Go.Joins.unfrozen_of_block hR 9
      have y10 := Go.Joins.cell_of_block hR 10
      have G10 := Go.Joins.unfrozen_of_block hR 10
      have y11 := Go.Joins.cell_of_block hR 11
      have G11 := Go.Joins.unfrozen_of_block hR 11
      simp at y0 y1 y2 y3 y4 y5 y6 y7 y8 y9 y10 y11
      have q0 : SVOk (zs.getD 0 0) (zs.getD 1 0) := SZ.out 0 (by omega)
      have q1 : SVOk (zs.getD 2 0) (zs.getD 3 0) := SZ.out 1 (by omega)
      have q2 : SVOk (zs.getD 4 0) (zs.getD 5 0) := SZ.out 2 (by omega)
      have q3 : SVOk (zs.getD 6 0) (zs.getD 7 0) := SZ.out 3 (by omega)
      have q4 : SVOk (zs.getD 8 0) (zs.getD 9 0) := SZ.out 4 (by omega)
      have q5 : SVOk (zs.getD 10 0) (zs.getD 11 0) := SZ.out 5 (by omega)
      clear SZ
      generalize zs.getD 0 0 = Z0 at *
      generalize zs.getD 1 0 = Z1 at *
      generalize zs.getD 2 0 = Z2 at *
      generalize zs.getD 3 0 = Z3 at *
      generalize zs.getD 4 0 = Z4 at *
      generalize zs.getD 5 0 = Z5 at *
      generalize zs.getD 6 0 = Z6 at *
      generalize zs.getD 7 0 = Z7 at *
      generalize zs.getD 8 0 = Z8 at *
      generalize zs.getD 9 0 = Z9 at *
      generalize zs.getD 10 0 = Z10 at *
      generalize zs.getD 11 0 = Z11 at *
      clear hR
      go_wp2
      clear z0 y0 G0 z1 y1 G1 z2 y2 G2 z3 y3 G3 z4 y4 G4 z5 y5 G5 z6 y6 G6 z7 y7 G7 z8 y8 G8 z9 y9 G9 z10 y10 G10 z11 y11 G11
      have h9 := (Go.Joins.block_setCell (Go.Joins.block_setCell (Go.Joins.block_setCell (Go.Joins.block_setCell (Go.Joins.block_setCell (Go.Joins.block_setCell (Go.Joins.block_setCell (Go.Joins.block_setCell (Go.Joins.block_setCell (Go.Joins.block_setCell (Go.Joins.block_setCell (Go.Joins.block_setCell S1.out.res (i := 0) (.int .i64 Z0)) (i := 1) (.int .i64 Z1)) (i := 2) (.int .i64 Z2)) (i := 3) (.int .i64 Z3)) (i := 4) (.int .i64 Z4)) (i := 5) (.int .i64 Z5)) (i := 6) (.int .i64 Z6)) (i := 7) (.int .i64 Z7)) (i := 8) (.int .i64 Z8)) (i := 9) (.int .i64 Z9)) (i := 10) (.int .i64 Z10)) (i := 11) (.int .i64 Z11))
      have g9 := (gr_store (j := 11) (u := .int .i64 Z11) (gr_store (j := 10) (u := .int .i64 Z10) (gr_store (j := 9) (u := .int .i64 Z9) (gr_store (j := 8) (u := .int .i64 Z8) (gr_store (j := 7) (u := .int .i64 Z7) (gr_store (j := 6) (u := .int .i64 Z6) (gr_store (j := 5) (u := .int .i64 Z5) (gr_store (j := 4) (u := .int .i64 Z4) (gr_store (j := 3) (u := .int .i64 Z3) (gr_store (j := 2) (u := .int .i64 Z2) (gr_store (j := 1) (u := .int .i64 Z1) (gr_store (j := 0) (u := .int .i64 Z0) S1.out.gro (Nat.le_refl _)) (Nat.le_refl _)) (Nat.le_refl _)) (Nat.le_refl _)) (Nat.le_refl _)) (Nat.le_refl _)) (Nat.le_refl _)) (Nat.le_refl _)) (Nat.le_refl _)) (Nat.le_refl _)) (Nat.le_refl _)) (Nat.le_refl _))
      have c9 := (Cur.stored (Cur.stored (Cur.stored (Cur.stored (Cur.stored (Cur.stored (Cur.stored (Cur.stored (Cur.stored (Cur.stored (Cur.stored (Cur.stored S1.out.cur (S1.out.lt WW.out) (j := 0) WW.out.ltc WW.out.code (.int .i64 Z0)) (by rw [size_set]; exact S1.out.lt WW.out) (j := 1) WW.out.ltc WW.out.code (.int .i64 Z1)) (by rw [size_set, size_set]; exact S1.out.lt WW.out) (j := 2) WW.out.ltc WW.out.code (.int .i64 Z2)) (by rw [size_set, size_set, size_set]; exact S1.out.lt WW.out) (j := 3) WW.out.ltc WW.out.code (.int .i64 Z3)) (by rw [size_set, size_set, size_set, size_set]; exact S1.out.lt WW.out) (j := 4) WW.out.ltc WW.out.code (.int .i64 Z4)) (by rw [size_set, size_set, size_set, size_set, size_set]; exact S1.out.lt WW.out) (j := 5) WW.out.ltc WW.out.code (.int .i64 Z5)) (by rw [size_set, size_set, size_set, size_set, size_set, size_set]; exact S1.out.lt WW.out) (j := 6) WW.out.ltc WW.out.code (.int .i64 Z6)) (by rw [size_set, size_set, size_set, size_set, size_set, size_set, size_set]; exact S1.out.lt WW.out) (j := 7) WW.out.ltc WW.out.code (.int .i64 Z7)) (by rw [size_set, size_set, size_set, size_set, size_set, size_set, size_set, size_set]; exact S1.out.lt WW.out) (j := 8) WW.out.ltc WW.out.code (.int .i64 Z8)) (by rw [size_set, size_set, size_set, size_set, size_set, size_set, size_set, size_set, size_set]; exact S1.out.lt WW.out) (j := 9) WW.out.ltc WW.out.code (.int .i64 Z9)) (by rw [size_set, size_set, size_set, size_set, size_set, size_set, size_set, size_set, size_set, size_set]; exact S1.out.lt WW.out) (j := 10) WW.out.ltc WW.out.code (.int .i64 Z10)) (by rw [size_set, size_set, size_set, size_set, size_set, size_set, size_set, size_set, size_set, size_set, size_set]; exact S1.out.lt WW.out) (j := 11) WW.out.ltc WW.out.code (.int .i64 Z11))
      generalize ((((((((((((w1.setCell ⟨w.heap.size, 0, none⟩ (.int .i64 Z0)).setCell ⟨w.heap.size, 1, none⟩ (.int .i64 Z1)).setCell ⟨w.heap.size, 2, none⟩ (.int .i64 Z2)).setCell ⟨w.heap.size, 3, none⟩ (.int .i64 Z3)).setCell ⟨w.heap.size, 4, none⟩ (.int .i64 Z4)).setCell ⟨w.heap.size, 5, none⟩ (.int .i64 Z5)).setCell ⟨w.heap.size, 6, none⟩ (.int .i64 Z6)).setCell ⟨w.heap.size, 7, none⟩ (.int .i64 Z7)).setCell ⟨w.heap.size, 8, none⟩ (.int .i64 Z8)).setCell ⟨w.heap.size, 9, none⟩ (.int .i64 Z9)).setCell ⟨w.heap.size, 10, none⟩ (.int .i64 Z10)).setCell ⟨w.heap.size, 11, none⟩ (.int .i64 Z11)) = u9 at *
      have h9' : u9.heap[w.heap.size]? = some (.cells #[.int .i64 Z0, .int .i64 Z1, .int .i64 Z2, .int .i64 Z3, .int .i64 Z4, .int .i64 Z5, .int .i64 Z6, .int .i64 Z7, .int .i64 Z8, .int .i64 Z9, .int .i64 Z10, .int .i64 Z11] 37) := by simpa using h9
      have D0 := Go.Joins.cell_of_block h9' 0
      have D1 := Go.Joins.cell_of_block h9' 1
      have D2 := Go.Joins.cell_of_block h9' 2
      have D3 := Go.Joins.cell_of_block h9' 3
      have D4 := Go.Joins.cell_of_block h9' 4
      have D5 := Go.Joins.cell_of_block h9' 5
      have D6 := Go.Joins.cell_of_block h9' 6
      have D7 := Go.Joins.cell_of_block h9' 7
      have D8 := Go.Joins.cell_of_block h9' 8
      have D9 := Go.Joins.cell_of_block h9' 9
      have D10 := Go.Joins.cell_of_block h9' 10
      have D11 := Go.Joins.cell_of_block h9' 11
      simp at D0 D1 D2 D3 D4 D5 D6 D7 D8 D9 D10 D11
      exact bodyPost_ret (v := .agg #[.int .i64 Z0, .int .i64 Z1, .int .i64 Z2, .int .i64 Z3, .int .i64 Z4, .int .i64 Z5, .int .i64 Z6, .int .i64 Z7, .int .i64 Z8, .int .i64 Z9, .int .i64 Z10, .int .i64 Z11]) (by simp [results, Try.results104, go_sem, D0, D1, D2, D3, D4, D5, D6, D7, D8, D9, D10, D11]) rfl ⟨Z0, Z1, Z2, Z3, Z4, Z5, Z6, Z7, Z8, Z9, Z10, Z11, rfl, q0, q1, q2, q3, q4, q5, c9, g9⟩
def EOk (zs : List Int) : Prop := ∀ j, 0 ≤ zs.getD j 0 ∧ zs.getD j 0 ≤ 64
theorem EOk.zero : EOk [0, 0, 0, 0] := fun j => by
  match j with
  | 0 | 1 | 2 | 3 => exact ⟨by decide, by decide⟩
  | j + 4 => exact ⟨by simp, by simp⟩
theorem EOk.put {zs : List Int} (h : EOk zs) (i : Nat) {x : Int} (hx : 0 ≤ x ∧ x ≤ 64) : EOk (zs.set i x) := fun j => by
  have hj := h j
  rw [List.getD_eq_getElem?_getD] at hj ⊢
  rw [List.getElem?_set]
  split
  · split
    · exact hx
    · exact ⟨by decide, by decide⟩
  · exact hj
def EdgOkP (cb : Nat) (a : Option Addr) (len cap : Nat) (w : World) (e : Ending) (w' : World) : Prop :=
  ∃ p q r s : Int, e = .returned (.agg #[.int .i64 p, .int .i64 q, .int .i64 r, .int .i64 s]) ∧ (0 ≤ p ∧ p ≤ 64) ∧ (0 ≤ q ∧ q ≤ 64) ∧ (0 ≤ r ∧ r ≤ 64) ∧ (0 ≤ s ∧ s ≤ 64) ∧ Cur cb a len cap w' ∧ w.grownBy w' (some cb)
set_option maxHeartbeats 1000000 in
theorem edges_ok (cb : Nat) (a : Option Addr) (len cap : Nat) (w : World) (hcb : cb < w.heap.size) (hlt : 0 < len → ∀ b off, a = some ⟨b, off, none⟩ → b < w.heap.size) (hc : Cur cb a len cap w) :
    Calls Try.prog 105 #[.pointer (some ⟨cb, 0, none⟩)] w (EdgOkP cb a len cap w) := by
  have WW := Lib.hid (show SDw w cb a len w.heap.size (w.heap.size + 1) from ⟨hcb, Nat.le_refl _, Nat.le_succ _, by omega, hlt⟩)
  have h0 : ED w cb a len cap w.heap.size (w.heap.size + 1) [0, 0, 0, 0] ((w.alloc (.cells #[.int .i64 0, .int .i64 0, .int .i64 0, .int .i64 0] 39)).alloc (.cells #[.int .i64 0, .int .i64 0, .int .i64 0, .int .i64 0] 39)) := by
    refine ⟨rfl, ?_, hp_on (hp_new w _) _, ?_, gr_trans (gr_new w (.cells #[.int .i64 0, .int .i64 0, .int .i64 0, .int .i64 0] 39) cb) (gr_new _ (.cells #[.int .i64 0, .int .i64 0, .int .i64 0, .int .i64 0] 39) cb)⟩
    · have := hp_new (w.alloc (.cells #[.int .i64 0, .int .i64 0, .int .i64 0, .int .i64 0] 39)) (.cells #[.int .i64 0, .int .i64 0, .int .i64 0, .int .i64 0] 39)
      rwa [World.size_alloc] at this
    · exact (hc.kept hcb (World.grownBy_alloc w (.cells #[.int .i64 0, .int .i64 0, .int .i64 0, .int .i64 0] 39) none) (fun k hk => by cases hk)).kept (by simp; omega) (World.grownBy_alloc _ (.cells #[.int .i64 0, .int .i64 0, .int .i64 0, .int .i64 0] 39) none) (fun k hk => by cases hk)
  have H0 := Lib.hid h0
  have E0 : EOk [0, 0, 0, 0] := EOk.zero
  clear h0 hlt hc hcb
  go_enter Try.func105, Try.ntmps105
  go_wp2_with (fail)
  generalize (w.alloc (.cells #[.int .i64 0, .int .i64 0, .int .i64 0, .int .i64 0] 39)).alloc (.cells #[.int .i64 0, .int .i64 0, .int .i64 0, .int .i64 0] 39) = u0 at *
  generalize ([0, 0, 0, 0] : List Int) = zs0 at *
  refine (once_any 2 cb a len cap _ (by omega) (by omega) H0.out.cur).mono ?_
  rintro e w1 ⟨t, rfl, c1, g1⟩
  have S1 := Lib.hid (H0.out.kept WW.out g1 c1)
  clear g1 c1 H0
  cases t
  · go_wp2_with (fail)
    refine (pick_r 0 64 (by decide) (by decide) [0, 64, 10, 33] 4 rfl (by omega) (by omega) (by decide) cb a len cap w1 (S1.out.lt WW.out) S1.out.cur).mono ?_
    rintro e x0 ⟨y0, rfl, p0, q0, c0, g0⟩
    have T0 := Lib.hid (S1.out.kept WW.out g0 c0)
    clear g0 c0 S1
    have B := T0.out.cell 0 (by omega)
    have F := T0.out.fz 0
    have S2 := Lib.hid (T0.out.store WW.out 0 y0)
    clear T0
    go_wp2_with (fail)
    clear B F
    have P := pick_r 0 64 (by decide) (by decide) [0, 64, 10, 33] 4 rfl (by omega) (by omega) (by decide) cb a len cap (x0.setCell ⟨w.heap.size + 1, 0, none⟩ (.int .i64 y0)) (S2.out.lt WW.out) S2.out.cur
    rw [size_set] at P
    generalize x0.setCell ⟨w.heap.size + 1, 0, none⟩ (.int .i64 y0) = v1 at *
    have E1 : EOk (zs0.set 0 y0) := E0.put 0 ⟨p0, q0⟩
    generalize zs0.set 0 y0 = zs1 at *
    refine P.mono ?_
    clear P
    rintro e x1 ⟨y1, rfl, p1, q1, c1, g1⟩
    have T1 := Lib.hid (S2.out.kept WW.out g1 c1)
    clear g1 c1 S2
    have B := T1.out.cell 1 (by omega)
    have F := T1.out.fz 1
    have S3 := Lib.hid (T1.out.store WW.out 1 y1)
    clear T1
    go_wp2_with (fail)
    clear B F
    have P := pick_r 0 64 (by decide) (by decide) [0, 64, 10] 3 rfl (by omega) (by omega) (by decide) cb a len cap (x1.setCell ⟨w.heap.size + 1, 1, none⟩ (.int .i64 y1)) (S3.out.lt WW.out) S3.out.cur
    rw [size_set] at P
    generalize x1.setCell ⟨w.heap.size + 1, 1, none⟩ (.int .i64 y1) = v2 at *
    have E2 : EOk (zs1.set 1 y1) := E1.put 1 ⟨p1, q1⟩
    generalize zs1.set 1 y1 = zs2 at *
    refine P.mono ?_
    clear P
    rintro e x2 ⟨y2, rfl, p2, q2, c2, g2⟩
    have T2 := Lib.hid (S3.out.kept WW.out g2 c2)
    clear g2 c2 S3
    have B := T2.out.cell 2 (by omega)
    have F := T2.out.fz 2
    have S4 := Lib.hid (T2.out.store WW.out 2 y2)
    clear T2
    go_wp2_with (fail)
    clear B F
    have P := pick_r 0 64 (by decide) (by decide) [0, 64, 10] 3 rfl (by omega) (by omega) (by decide) cb a len cap (x2.setCell ⟨w.heap.size + 1, 2, none⟩ (.int .i64 y2)) (S4.out.lt WW.out) S4.out.cur
    rw [size_set] at P
    generalize x2.setCell ⟨w.heap.size + 1, 2, none⟩ (.int .i64 y2) = v3 at *
    have E3 : EOk (zs2.set 2 y2) := E2.put 2 ⟨p2, q2⟩
    generalize zs2.set 2 y2 = zs3 at *
    refine P.mono ?_
    clear P
    rintro e x3 ⟨y3, rfl, p3, q3, c3, g3⟩
    have T3 := Lib.hid (S4.out.kept WW.out g3 c3)
    clear g3 c3 S4
    generalize hzs : zs3 = zs at *
    have z0 := T3.out.cell 0 (by omega)
    have z1 := T3.out.cell 1 (by omega)
    have z2 := T3.out.cell 2 (by omega)
    have z3 := T3.out.cell 3 (by omega)
    have F3 := T3.out.fz 3
    have SA := Lib.hid (T3.out.store WW.out 3 y3)
    have hR := T3.out.res
    have y0 := Go.Joins.cell_of_block hR 0
    have G0 := Go.Joins.unfrozen_of_block hR 0
    have y1 := Go.Joins.cell_of_block hR 1
    have G1 := Go.Joins.unfrozen_of_block hR 1
    have y2 := Go.Joins.cell_of_block hR 2
    have G2 := Go.Joins.unfrozen_of_block hR 2
    have y3 := Go.Joins.cell_of_block hR 3
    have G3 := Go.Joins.unfrozen_of_block hR 3
    simp at y0 y1 y2 y3
    clear hR
    have r0 := E3 0
    generalize zs.getD 0 0 = Z0 at z0 r0
    have r1 := E3 1
    generalize zs.getD 1 0 = Z1 at z1 r1
    have r2 := E3 2
    generalize zs.getD 2 0 = Z2 at z2 r2
    generalize zs.getD 3 0 = Z3 at z3
    have hgg := WW.out.ne
    have hgg2 := hgg.symm
    go_wp2
    clear z0 y0 G0 z1 y1 G1 z2 y2 G2 z3 y3 G3
    have h9 := (Go.Joins.block_setCell (Go.Joins.block_setCell (Go.Joins.block_setCell (Go.Joins.block_setCell SA.out.res (i := 0) (.int .i64 Z0)) (i := 1) (.int .i64 Z1)) (i := 2) (.int .i64 Z2)) (i := 3) (.int .i64 y3))
    have g9 := (gr_store (j := 3) (u := .int .i64 y3) (gr_store (j := 2) (u := .int .i64 Z2) (gr_store (j := 1) (u := .int .i64 Z1) (gr_store (j := 0) (u := .int .i64 Z0) SA.out.gro (Nat.le_refl _)) (Nat.le_refl _)) (Nat.le_refl _)) (Nat.le_refl _))
    have c9 := (Cur.stored (Cur.stored (Cur.stored (Cur.stored SA.out.cur (SA.out.lt WW.out) (j := 0) WW.out.ltc WW.out.code (.int .i64 Z0)) (by rw [size_set]; exact SA.out.lt WW.out) (j := 1) WW.out.ltc WW.out.code (.int .i64 Z1)) (by rw [size_set, size_set]; exact SA.out.lt WW.out) (j := 2) WW.out.ltc WW.out.code (.int .i64 Z2)) (by rw [size_set, size_set, size_set]; exact SA.out.lt WW.out) (j := 3) WW.out.ltc WW.out.code (.int .i64 y3))
    generalize (((((x3.setCell ⟨w.heap.size + 1, 3, none⟩ (.int .i64 y3)).setCell ⟨w.heap.size, 0, none⟩ (.int .i64 Z0)).setCell ⟨w.heap.size, 1, none⟩ (.int .i64 Z1)).setCell ⟨w.heap.size, 2, none⟩ (.int .i64 Z2)).setCell ⟨w.heap.size, 3, none⟩ (.int .i64 y3)) = u9 at *
    have h9' : u9.heap[w.heap.size]? = some (.cells #[.int .i64 Z0, .int .i64 Z1, .int .i64 Z2, .int .i64 y3] 39) := by simpa using h9
    have D0 := Go.Joins.cell_of_block h9' 0
    have D1 := Go.Joins.cell_of_block h9' 1
    have D2 := Go.Joins.cell_of_block h9' 2
    have D3 := Go.Joins.cell_of_block h9' 3
    simp at D0 D1 D2 D3
    exact bodyPost_ret (v := .agg #[.int .i64 Z0, .int .i64 Z1, .int .i64 Z2, .int .i64 y3]) (by simp [results, Try.results105, go_sem, D0, D1, D2, D3]) rfl ⟨Z0, Z1, Z2, y3, rfl, r0, r1, r2, ⟨p3, q3⟩, c9, g9⟩
  · generalize hzs : zs0 = zs at *
    have z0 := S1.out.cell 0 (by omega)
    have z1 := S1.out.cell 1 (by omega)
    have z2 := S1.out.cell 2 (by omega)
    have z3 := S1.out.cell 3 (by omega)
    have hR := S1.out.res
    have y0 := Go.Joins.cell_of_block hR 0
    have G0 := Go.Joins.unfrozen_of_block hR 0
    have y1 := Go.Joins.cell_of_block hR 1
    have G1 := Go.Joins.unfrozen_of_block hR 1
    have y2 := Go.Joins.cell_of_block hR 2
    have G2 := Go.Joins.unfrozen_of_block hR 2
    have y3 := Go.Joins.cell_of_block hR 3
    have G3 := Go.Joins.unfrozen_of_block hR 3
    simp at y0 y1 y2 y3
    clear hR
    have r0 := E0 0
    generalize zs.getD 0 0 = Z0 at z0 r0
    have r1 := E0 1
    generalize zs.getD 1 0 = Z1 at z1 r1
    have r2 := E0 2
    generalize zs.getD 2 0 = Z2 at z2 r2
    have r3 := E0 3
    generalize zs.getD 3 0 = Z3 at z3 r3
    have hgg := WW.out.ne
    have hgg2 := hgg.symm
    go_wp2
    clear z0 y0 G0 z1 y1 G1 z2 y2 G2 z3 y3 G3
    have h9 := (Go.Joins.block_setCell (Go.Joins.block_setCell (Go.Joins.block_setCell (Go.Joins.block_setCell S1.out.res (i := 0) (.int .i64 Z0)) (i := 1) (.int .i64 Z1)) (i := 2) (.int .i64 Z2)) (i := 3) (.int .i64 Z3))
    have g9 := (gr_store (j := 3) (u := .int .i64 Z3) (gr_store (j := 2) (u := .int .i64 Z2) (gr_store (j := 1) (u := .int .i64 Z1) (gr_store (j := 0) (u := .int .i64 Z0) S1.out.gro (Nat.le_refl _)) (Nat.le_refl _)) (Nat.le_refl _)) (Nat.le_refl _))
    have c9 := (Cur.stored (Cur.stored (Cur.stored (Cur.stored S1.out.cur (S1.out.lt WW.out) (j := 0) WW.out.ltc WW.out.code (.int .i64 Z0)) (by rw [size_set]; exact S1.out.lt WW.out) (j := 1) WW.out.ltc WW.out.code (.int .i64 Z1)) (by rw [size_set, size_set]; exact S1.out.lt WW.out) (j := 2) WW.out.ltc WW.out.code (.int .i64 Z2)) (by rw [size_set, size_set, size_set]; exact S1.out.lt WW.out) (j := 3) WW.out.ltc WW.out.code (.int .i64 Z3))
    generalize ((((w1.setCell ⟨w.heap.size, 0, none⟩ (.int .i64 Z0)).setCell ⟨w.heap.size, 1, none⟩ (.int .i64 Z1)).setCell ⟨w.heap.size, 2, none⟩ (.int .i64 Z2)).setCell ⟨w.heap.size, 3, none⟩ (.int .i64 Z3)) = u9 at *
    have h9' : u9.heap[w.heap.size]? = some (.cells #[.int .i64 Z0, .int .i64 Z1, .int .i64 Z2, .int .i64 Z3] 39) := by simpa using h9
    have D0 := Go.Joins.cell_of_block h9' 0
    have D1 := Go.Joins.cell_of_block h9' 1
    have D2 := Go.Joins.cell_of_block h9' 2
    have D3 := Go.Joins.cell_of_block h9' 3
    simp at D0 D1 D2 D3
    exact bodyPost_ret (v := .agg #[.int .i64 Z0, .int .i64 Z1, .int .i64 Z2, .int .i64 Z3]) (by simp [results, Try.results105, go_sem, D0, D1, D2, D3]) rfl ⟨Z0, Z1, Z2, Z3, rfl, r0, r1, r2, r3, c9, g9⟩

end Go.Proofs.Ytckpjldenkjddaa
end

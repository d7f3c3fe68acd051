/-
  The drawing of sides (spec.l05Sides): twelve ints; it turns nothing but its cursor. Conditions: those of the cursor.
-/
import Derived.Test.YtpmfijaclncfhaaAny
import Derived.Test.YtpmfijaclncfhaaOnce
import Derived.Test.YtpmfijaclncfhaaOpen
namespace Go.Proofs.Ytpmfijaclncfhaa
open Go.ChangeShapes Go.WideShapes Go.ChangeAt Go.RowKit

/-- What a draw of sides leaves. -/
def SidPost (cb : Nat) (a : Option Addr) (len cap : Nat) (w : World) (e : Ending) (w' : World) : Prop :=
  ∃ lk ln tk tn rk rn bk bn sk sn ek en : Int, e = .returned (.agg #[.int .i64 lk, .int .i64 ln, .int .i64 tk, .int .i64 tn, .int .i64 rk, .int .i64 rn, .int .i64 bk, .int .i64 bn, .int .i64 sk, .int .i64 sn, .int .i64 ek, .int .i64 en]) ∧ Cur cb a len cap w' ∧ w.grownBy w' (some cb)
/-- What stands while sides are drawn: the sides so far in block gs, the result's block gr, the cursor. -/
structure SD (w : World) (cb : Nat) (a : Option Addr) (len cap gr gs : Nat) (zs : List Int) (wr : World) : Prop where
  size : zs.length = 12
  here : wr.heap[gs]? = some (.cells (zs.map (Value.int .i64)).toArray 27 (0, 0))
  res : wr.heap[gr]? = some (.cells #[.int .i64 0, .int .i64 0, .int .i64 0, .int .i64 0, .int .i64 0, .int .i64 0, .int .i64 0, .int .i64 0, .int .i64 0, .int .i64 0, .int .i64 0, .int .i64 0] 27 (0, 0))
  cur : Cur cb a len cap wr
  gro : w.grownBy wr (some cb)
/-- Where the blocks lie. -/
structure SDw (w : World) (cb : Nat) (a : Option Addr) (len gr gs : Nat) : Prop where
  ltc : cb < w.heap.size
  ger : w.heap.size ≤ gr
  ges : w.heap.size ≤ gs
  ne : gr ≠ gs
  code : 0 < len → ∀ b off, a = some ⟨b, off, none⟩ → b < w.heap.size
theorem SD.kept {w wr w' : World} {cb : Nat} {a : Option Addr} {len cap gr gs : Nat} {zs : List Int} (h : SD w cb a len cap gr gs zs wr) (W : SDw w cb a len gr gs) (g : wr.grownBy w' (some cb)) (c : Cur cb a len cap w') : SD w cb a len cap gr gs zs w' :=
  ⟨h.size, blk_kept h.here g (by have := W.ltc; have := W.ges; omega), blk_kept h.res g (by have := W.ltc; have := W.ger; omega), c, gr_trans h.gro g⟩
theorem SD.lt {w wr : World} {cb : Nat} {a : Option Addr} {len cap gr gs : Nat} {zs : List Int} (h : SD w cb a len cap gr gs zs wr) (W : SDw w cb a len gr gs) : cb < wr.heap.size := Nat.lt_of_lt_of_le W.ltc h.gro.size
theorem SD.new {w wr : World} {cb : Nat} {a : Option Addr} {len cap gr gs : Nat} {zs : List Int} (h : SD w cb a len cap gr gs zs wr) (W : SDw w cb a len gr gs) (o : Obj) : SD w cb a len cap gr gs zs (wr.alloc o) :=
  h.kept W (gr_new wr o cb) (h.cur.kept (h.lt W) (World.grownBy_alloc wr o none) (fun k hk => by cases hk))
/-- A store into a block of the draw's own that is neither. -/
theorem SD.other {w wr : World} {cb : Nat} {a : Option Addr} {len cap gr gs gv : Nat} {zs : List Int} (h : SD w cb a len cap gr gs zs wr) (W : SDw w cb a len gr gs) (hv : w.heap.size ≤ gv) (h1 : gs ≠ gv) (h2 : gr ≠ gv) (j : Nat) (u : Value) : SD w cb a len cap gr gs zs (wr.setCell ⟨gv, j, none⟩ u) :=
  ⟨h.size, hp_set h.here h1 j u, hp_set h.res h2 j u, h.cur.stored (h.lt W) (by have := W.ltc; omega) (fun h0 b off e => by have := W.code h0 b off e; omega) u, gr_store h.gro hv⟩
theorem SD.store {w wr : World} {cb : Nat} {a : Option Addr} {len cap gr gs : Nat} {zs : List Int} (h : SD w cb a len cap gr gs zs wr) (W : SDw w cb a len gr gs) (j : Nat) (x : Int) : SD w cb a len cap gr gs (zs.set j x) (wr.setCell ⟨gs, j, none⟩ (.int .i64 x)) := by
  refine ⟨by simp [h.size], ?_, hp_set h.res W.ne j _, h.cur.stored (h.lt W) (by have := W.ltc; have := W.ges; omega) (fun h0 b off e => by have := W.code h0 b off e; have := W.ges; omega) _, gr_store h.gro W.ges⟩
  rw [Go.Joins.block_setCell h.here (.int .i64 x)]
  simp [List.map_set]
theorem SD.cell {w wr : World} {cb : Nat} {a : Option Addr} {len cap gr gs : Nat} {zs : List Int} (h : SD w cb a len cap gr gs zs wr) (j : Nat) (hj : j < 12) : wr.cell? ⟨gs, j, none⟩ = some (.int .i64 (zs.getD j 0)) := by
  rw [Go.Joins.cell_of_block h.here j]
  have : j < zs.length := by rw [h.size]; exact hj
  simp [this]
theorem SD.fz {w wr : World} {cb : Nat} {a : Option Addr} {len cap gr gs : Nat} {zs : List Int} (h : SD w cb a len cap gr gs zs wr) (j : Nat) : wr.frozen? ⟨gs, j, none⟩ = false := Go.Joins.unfrozen_of_block h.here j
/-- The loop's round: as many as the counter says; sides that were drawn so far. -/
def SRel (w : World) (cb : Nat) (a : Option Addr) (len cap : Nat) (i : Value) (wr : World) : Prop :=
  ∃ (k : Nat) (zs : List Int), k ≤ 4 ∧ i = .int .i64 k ∧ SD w cb a len cap w.heap.size (w.heap.size + 1) zs wr

set_option maxHeartbeats 2000000 in
theorem sides_any (cb : Nat) (a : Option Addr) (len cap : Nat) (w : World) (hcb : cb < w.heap.size) (hlt : 0 < len → ∀ b off, a = some ⟨b, off, none⟩ → b < w.heap.size) (hc : Cur cb a len cap w) :
    Calls Try.prog 81 #[.pointer (some ⟨cb, 0, none⟩)] w (SidPost cb a len cap w) := by
  have WW := Lib.hid (show SDw w cb a len w.heap.size (w.heap.size + 1) from ⟨hcb, Nat.le_refl _, Nat.le_succ _, by omega, hlt⟩)
  have h0 : SD w cb a len cap w.heap.size (w.heap.size + 1) [0, 0, 0, 0, 0, 0, 0, 0, 0, 0, 0, 0] ((w.alloc (.cells #[.int .i64 0, .int .i64 0, .int .i64 0, .int .i64 0, .int .i64 0, .int .i64 0, .int .i64 0, .int .i64 0, .int .i64 0, .int .i64 0, .int .i64 0, .int .i64 0] 27)).alloc (.cells #[.int .i64 0, .int .i64 0, .int .i64 0, .int .i64 0, .int .i64 0, .int .i64 0, .int .i64 0, .int .i64 0, .int .i64 0, .int .i64 0, .int .i64 0, .int .i64 0] 27)) := by
    refine ⟨rfl, ?_, hp_on (hp_new w _) _, ?_, gr_trans (gr_new w (.cells #[.int .i64 0, .int .i64 0, .int .i64 0, .int .i64 0, .int .i64 0, .int .i64 0, .int .i64 0, .int .i64 0, .int .i64 0, .int .i64 0, .int .i64 0, .int .i64 0] 27) cb) (gr_new _ (.cells #[.int .i64 0, .int .i64 0, .int .i64 0, .int .i64 0, .int .i64 0, .int .i64 0, .int .i64 0, .int .i64 0, .int .i64 0, .int .i64 0, .int .i64 0, .int .i64 0] 27) cb)⟩
    · have := hp_new (w.alloc (.cells #[.int .i64 0, .int .i64 0, .int .i64 0, .int .i64 0, .int .i64 0, .int .i64 0, .int .i64 0, .int .i64 0, .int .i64 0, .int .i64 0, .int .i64 0, .int .i64 0] 27)) (.cells #[.int .i64 0, .int .i64 0, .int .i64 0, .int .i64 0, .int .i64 0, .int .i64 0, .int .i64 0, .int .i64 0, .int .i64 0, .int .i64 0, .int .i64 0, .int .i64 0] 27)
      rwa [World.size_alloc] at this
    · exact (hc.kept hcb (World.grownBy_alloc w (.cells #[.int .i64 0, .int .i64 0, .int .i64 0, .int .i64 0, .int .i64 0, .int .i64 0, .int .i64 0, .int .i64 0, .int .i64 0, .int .i64 0, .int .i64 0, .int .i64 0] 27) none) (fun k hk => by cases hk)).kept (by simp; omega) (World.grownBy_alloc _ (.cells #[.int .i64 0, .int .i64 0, .int .i64 0, .int .i64 0, .int .i64 0, .int .i64 0, .int .i64 0, .int .i64 0, .int .i64 0, .int .i64 0, .int .i64 0, .int .i64 0] 27) none) (fun k hk => by cases hk)
  have H0 := Lib.hid h0
  clear h0 hlt hc hcb
  go_enter Try.func81, Try.ntmps81
  go_wp2_with (fail)
  generalize (w.alloc (.cells #[.int .i64 0, .int .i64 0, .int .i64 0, .int .i64 0, .int .i64 0, .int .i64 0, .int .i64 0, .int .i64 0, .int .i64 0, .int .i64 0, .int .i64 0, .int .i64 0] 27)).alloc (.cells #[.int .i64 0, .int .i64 0, .int .i64 0, .int .i64 0, .int .i64 0, .int .i64 0, .int .i64 0, .int .i64 0, .int .i64 0, .int .i64 0, .int .i64 0, .int .i64 0] 27) = u0 at *
  go_loopw [4] (SRel w cb a len cap) (fun i _ => 4 - (intOf i).toNat)
  case atStart => exact ⟨0, _, by omega, rfl, H0.out⟩
  case round =>
    obtain ⟨k, zs, hk, rfl, hs⟩ := hrel
    have HS := Lib.hid hs
    have hcw := hs.cur
    clear H0 hs
    go_wp2_with (fail)
    refine (below_pos 4 cb a len cap wr (by omega) (by omega) hcw).mono ?_
    rintro e w1 ⟨x, rfl, x0, x1, c1, g1, s1⟩
    have S1 := Lib.hid (HS.out.kept WW.out g1 c1)
    clear s1 hcw g1 HS
    by_cases hkx : (k : Int) < x
    · go_wp2_with (fail)
      refine (val_any cb a len cap w1 (S1.out.lt WW.out) (fun h b off e => by have := WW.out.code h b off e; have := S1.out.gro.size; omega) c1).mono ?_
      rintro e w2 ⟨vk, vn, rfl, _, _, c2, g2⟩
      have S2 := Lib.hid (S1.out.kept WW.out g2 c2)
      clear c1 S1 g2 c2
      have hgv := (show w.heap.size + 2 ≤ w2.heap.size from by have := hp_lt S2.out.here; omega)
      have S3 := Lib.hid (S2.out.new WW.out (.cells #[.int .i64 vk, .int .i64 vn] 25))
      have hv := hp_new w2 (.cells #[.int .i64 vk, .int .i64 vn] 25)
      clear S2
      go_wp2_with (fail)
      refine (once_any 4 cb a len cap _ (by omega) (by omega) S3.out.cur).mono ?_
      rintro e w3 ⟨t, rfl, c3, g3⟩
      have S4 := Lib.hid (S3.out.kept WW.out g3 c3)
      have hv4 := blk_kept hv g3 (by have := WW.out.ltc; omega)
      clear S3 g3 c3 hv
      generalize w2.heap.size = gv at *
      have hn1 : w.heap.size + 1 ≠ gv := by omega
      have hn2 : w.heap.size ≠ gv := by omega
      have hn3 := hn1.symm
      have hn4 := hn2.symm
      cases t

      · go_wp2_with (fail)
        refine (below_pos 6 cb a len cap _ (by omega) (by omega) S4.out.cur).mono ?_
        rintro e w5 ⟨y, rfl, y0, y1, c5, g5, s5⟩
        have S6 := Lib.hid (S4.out.kept WW.out g5 c5)
        have hv6 := blk_kept hv4 g5 (by have := WW.out.ltc; omega)
        clear S4 hv4 g5 c5 s5
        have C0 := Go.Joins.cell_of_block hv6 0
        have C1 := Go.Joins.cell_of_block hv6 1
        simp at C0 C1
        clear hv6
        by_cases e0 : y = 0
        · subst e0
          have B0 := S6.out.cell 0 (by omega)
          have B1 := S6.out.cell 1 (by omega)
          have F0 := S6.out.fz 0
          have F1 := S6.out.fz 1
          have S7 := Lib.hid ((S6.out.store WW.out 0 vk).store WW.out 1 vn)
          go_wp2
          go_roundw
          case rel => exact ⟨k + 1, _, by omega, by go_num, S7.out⟩
          case measure => simp [intOf]; omega
        by_cases e1 : y = 1
        · subst e1
          have B0 := S6.out.cell 2 (by omega)
          have B1 := S6.out.cell 3 (by omega)
          have F0 := S6.out.fz 2
          have F1 := S6.out.fz 3
          have S7 := Lib.hid ((S6.out.store WW.out 2 vk).store WW.out 3 vn)
          go_wp2
          go_roundw
          case rel => exact ⟨k + 1, _, by omega, by go_num, S7.out⟩
          case measure => simp [intOf]; omega
        by_cases e2 : y = 2
        · subst e2
          have B0 := S6.out.cell 4 (by omega)
          have B1 := S6.out.cell 5 (by omega)
          have F0 := S6.out.fz 4
          have F1 := S6.out.fz 5
          have S7 := Lib.hid ((S6.out.store WW.out 4 vk).store WW.out 5 vn)
          go_wp2
          go_roundw
          case rel => exact ⟨k + 1, _, by omega, by go_num, S7.out⟩
          case measure => simp [intOf]; omega
        by_cases e3 : y = 3
        · subst e3
          have B0 := S6.out.cell 6 (by omega)
          have B1 := S6.out.cell 7 (by omega)
          have F0 := S6.out.fz 6
          have F1 := S6.out.fz 7
          have S7 := Lib.hid ((S6.out.store WW.out 6 vk).store WW.out 7 vn)
          go_wp2
          go_roundw
          case rel => exact ⟨k + 1, _, by omega, by go_num, S7.out⟩
          case measure => simp [intOf]; omega
        by_cases e4 : y = 4
        · subst e4
          have B0 := S6.out.cell 8 (by omega)
          have B1 := S6.out.cell 9 (by omega)
          have F0 := S6.out.fz 8
          have F1 := S6.out.fz 9
          have S7 := Lib.hid ((S6.out.store WW.out 8 vk).store WW.out 9 vn)
          go_wp2
          go_roundw
          case rel => exact ⟨k + 1, _, by omega, by go_num, S7.out⟩
          case measure => simp [intOf]; omega
        · have f0 : (y == 0) = false := by simp [e0]
          have f1 : (y == 1) = false := by simp [e1]
          have f2 : (y == 2) = false := by simp [e2]
          have f3 : (y == 3) = false := by simp [e3]
          have f4 : (y == 4) = false := by simp [e4]
          have B0 := S6.out.cell 10 (by omega)
          have B1 := S6.out.cell 11 (by omega)
          have F0 := S6.out.fz 10
          have F1 := S6.out.fz 11
          have S7 := Lib.hid ((S6.out.store WW.out 10 vk).store WW.out 11 vn)
          go_wp2
          go_roundw
          case rel => exact ⟨k + 1, _, by omega, by go_num, S7.out⟩
          case measure => simp [intOf]; omega
      · have C0 := Go.Joins.cell_of_block hv4 0
        have C1 := Go.Joins.cell_of_block hv4 1
        have G0 := Go.Joins.unfrozen_of_block hv4 0
        have G1 := Go.Joins.unfrozen_of_block hv4 1
        simp at C0 C1
        have S5 := Lib.hid ((S4.out.other WW.out (by omega) hn1 hn2 0 (.int .i64 3)).other WW.out (by omega) hn1 hn2 1 (.int .i64 0))
        have hv5 := blk_two (x' := .int .i64 3) (y' := .int .i64 0) hv4
        clear S4 hv4
        go_wp2_with (fail)
        clear C0 C1 G0 G1
        refine (below_pos 6 cb a len cap _ (by omega) (by omega) S5.out.cur).mono ?_
        rintro e w5 ⟨y, rfl, y0, y1, c5, g5, s5⟩
        have S6 := Lib.hid (S5.out.kept WW.out g5 c5)
        have hv6 := blk_kept hv5 g5 (by have := WW.out.ltc; omega)
        clear S5 hv5 g5 c5 s5
        have C0 := Go.Joins.cell_of_block hv6 0
        have C1 := Go.Joins.cell_of_block hv6 1
        simp at C0 C1
        clear hv6
        by_cases e0 : y = 0
        · subst e0
          have B0 := S6.out.cell 0 (by omega)
          have B1 := S6.out.cell 1 (by omega)
          have F0 := S6.out.fz 0
          have F1 := S6.out.fz 1
          have S7 := Lib.hid ((S6.out.store WW.out 0 3).store WW.out 1 0)
          go_wp2
          go_roundw
          case rel => exact ⟨k + 1, _, by omega, by go_num, S7.out⟩
          case measure => simp [intOf]; omega
        by_cases e1 : y = 1
        · subst e1
          have B0 := S6.out.cell 2 (by omega)
          have B1 := S6.out.cell 3 (by omega)
          have F0 := S6.out.fz 2
          have F1 := S6.out.fz 3
          have S7 := Lib.hid ((S6.out.store WW.out 2 3).store WW.out 3 0)
          go_wp2
          go_roundw
          case rel => exact ⟨k + 1, _, by omega, by go_num, S7.out⟩
          case measure => simp [intOf]; omega
        by_cases e2 : y = 2
        · subst e2
          have B0 := S6.out.cell 4 (by omega)
          have B1 := S6.out.cell 5 (by omega)
          have F0 := S6.out.fz 4
          have F1 := S6.out.fz 5
          have S7 := Lib.hid ((S6.out.store WW.out 4 3).store WW.out 5 0)
          go_wp2
          go_roundw
          case rel => exact ⟨k + 1, _, by omega, by go_num, S7.out⟩
          case measure => simp [intOf]; omega
        by_cases e3 : y = 3
        · subst e3
          have B0 := S6.out.cell 6 (by omega)
          have B1 := S6.out.cell 7 (by omega)
          have F0 := S6.out.fz 6
          have F1 := S6.out.fz 7
          have S7 := Lib.hid ((S6.out.store WW.out 6 3).store WW.out 7 0)
          go_wp2
          go_roundw
          case rel => exact ⟨k + 1, _, by omega, by go_num, S7.out⟩
          case measure => simp [intOf]; omega
        by_cases e4 : y = 4
        · subst e4
          have B0 := S6.out.cell 8 (by omega)
          have B1 := S6.out.cell 9 (by omega)
          have F0 := S6.out.fz 8
          have F1 := S6.out.fz 9
          have S7 := Lib.hid ((S6.out.store WW.out 8 3).store WW.out 9 0)
          go_wp2
          go_roundw
          case rel => exact ⟨k + 1, _, by omega, by go_num, S7.out⟩
          case measure => simp [intOf]; omega
        · have f0 : (y == 0) = false := by simp [e0]
          have f1 : (y == 1) = false := by simp [e1]
          have f2 : (y == 2) = false := by simp [e2]
          have f3 : (y == 3) = false := by simp [e3]
          have f4 : (y == 4) = false := by simp [e4]
          have B0 := S6.out.cell 10 (by omega)
          have B1 := S6.out.cell 11 (by omega)
          have F0 := S6.out.fz 10
          have F1 := S6.out.fz 11
          have S7 := Lib.hid ((S6.out.store WW.out 10 3).store WW.out 11 0)
          go_wp2
          go_roundw
          case rel => exact ⟨k + 1, _, by omega, by go_num, S7.out⟩
          case measure => simp [intOf]; omega
    · have z0 := S1.out.cell 0 (by omega)
      have z1 := S1.out.cell 1 (by omega)
      have z2 := S1.out.cell 2 (by omega)
      have z3 := S1.out.cell 3 (by omega)
      have z4 := S1.out.cell 4 (by omega)
      have z5 := S1.out.cell 5 (by omega)
      have z6 := S1.out.cell 6 (by omega)
      have z7 := S1.out.cell 7 (by omega)
      have z8 := S1.out.cell 8 (by omega)
      have z9 := S1.out.cell 9 (by omega)
      have z10 := S1.out.cell 10 (by omega)
      have z11 := S1.out.cell 11 (by omega)
      have hR := S1.out.res
      have y0 := Go.Joins.cell_of_block hR 0
      have G0 := Go.Joins.unfrozen_of_block hR 0
      have y1 := Go.Joins.cell_of_block hR 1
      have G1 := Go.Joins.unfrozen_of_block hR 1
      have y2 := Go.Joins.cell_of_block hR 2
      have G2 := Go.Joins.unfrozen_of_block hR 2
      have y3 := Go.Joins.cell_of_block hR 3
      have G3 := Go.Joins.unfrozen_of_block hR 3
      have y4 := Go.Joins.cell_of_block hR 4
      have G4 := Go.Joins.unfrozen_of_block hR 4
      have y5 := Go.Joins.cell_of_block hR 5
      have G5 := Go.Joins.unfrozen_of_block hR 5
      have y6 := Go.Joins.cell_of_block hR 6
      have G6 := Go.Joins.unfrozen_of_block hR 6
      have y7 := Go.Joins.cell_of_block hR 7
      have G7 := Go.Joins.unfrozen_of_block hR 7
      have y8 := Go.Joins.cell_of_block hR 8
      have G8 := Go.Joins.unfrozen_of_block hR 8
      have y9 := Go.Joins.cell_of_block hR 9
      have G9 := Go.Joins.unfrozen_of_block hR 9
      have y10 := Go.Joins.cell_of_block hR 10
      have G10 := Go.Joins.unfrozen_of_block hR 10
      have y11 := Go.Joins.cell_of_block hR 11
      have G11 := Go.Joins.unfrozen_of_block hR 11
      simp at y0 y1 y2 y3 y4 y5 y6 y7 y8 y9 y10 y11
      generalize zs.getD 0 0 = Z0 at *
      generalize zs.getD 1 0 = Z1 at *
      generalize zs.getD 2 0 = Z2 at *
      generalize zs.getD 3 0 = Z3 at *
      generalize zs.getD 4 0 = Z4 at *
      generalize zs.getD 5 0 = Z5 at *
      generalize zs.getD 6 0 = Z6 at *
      generalize zs.getD 7 0 = Z7 at *
      generalize zs.getD 8 0 = Z8 at *
      generalize zs.getD 9 0 = Z9 at *
      generalize zs.getD 10 0 = Z10 at *
      generalize zs.getD 11 0 = Z11 at *
      clear hR
      go_wp2
      clear z0 y0 G0 z1 y1 G1 z2 y2 G2 z3 y3 G3 z4 y4 G4 z5 y5 G5 z6 y6 G6 z7 y7 G7 z8 y8 G8 z9 y9 G9 z10 y10 G10 z11 y11 G11
      have h9 := (Go.Joins.block_setCell (Go.Joins.block_setCell (Go.Joins.block_setCell (Go.Joins.block_setCell (Go.Joins.block_setCell (Go.Joins.block_setCell (Go.Joins.block_setCell (Go.Joins.block_setCell (Go.Joins.block_setCell (Go.Joins.block_setCell (Go.Joins.block_setCell (Go.Joins.block_setCell S1.out.res (i := 0) (.int .i64 Z0)) (i := 1) (.int .i64 Z1)) (i := 2) (.int .i64 Z2)) (i := 3) (.int .i64 Z3)) (i := 4) (.int .i64 Z4)) (i := 5) (.int .i64 Z5)) (i := 6) (.int .i64 Z6)) (i := 7) (.int .i64 Z7)) (i := 8) (.int .i64 Z8)) (i := 9) (.int .i64 Z9)) (i := 10) (.int .i64 Z10)) (i := 11) (.int .i64 Z11))
      have g9 := (gr_store (j := 11) (u := .int .i64 Z11) (gr_store (j := 10) (u := .int .i64 Z10) (gr_store (j := 9) (u := .int .i64 Z9) (gr_store (j := 8) (u := .int .i64 Z8) (gr_store (j := 7) (u := .int .i64 Z7) (gr_store (j := 6) (u := .int .i64 Z6) (gr_store (j := 5) (u := .int .i64 Z5) (gr_store (j := 4) (u := .int .i64 Z4) (gr_store (j := 3) (u := .int .i64 Z3) (gr_store (j := 2) (u := .int .i64 Z2) (gr_store (j := 1) (u := .int .i64 Z1) (gr_store (j := 0) (u := .int .i64 Z0) S1.out.gro (Nat.le_refl _)) (Nat.le_refl _)) (Nat.le_refl _)) (Nat.le_refl _)) (Nat.le_refl _)) (Nat.le_refl _)) (Nat.le_refl _)) (Nat.le_refl _)) (Nat.le_refl _)) (Nat.le_refl _)) (Nat.le_refl _)) (Nat.le_refl _))
      have c9 := (Cur.stored (Cur.stored (Cur.stored (Cur.stored (Cur.stored (Cur.stored (Cur.stored (Cur.stored (Cur.stored (Cur.stored (Cur.stored (Cur.stored S1.out.cur (S1.out.lt WW.out) (j := 0) WW.out.ltc WW.out.code (.int .i64 Z0)) (by rw [size_set]; exact S1.out.lt WW.out) (j := 1) WW.out.ltc WW.out.code (.int .i64 Z1)) (by rw [size_set, size_set]; exact S1.out.lt WW.out) (j := 2) WW.out.ltc WW.out.code (.int .i64 Z2)) (by rw [size_set, size_set, size_set]; exact S1.out.lt WW.out) (j := 3) WW.out.ltc WW.out.code (.int .i64 Z3)) (by rw [size_set, size_set, size_set, size_set]; exact S1.out.lt WW.out) (j := 4) WW.out.ltc WW.out.code (.int .i64 Z4)) (by rw [size_set, size_set, size_set, size_set, size_set]; exact S1.out.lt WW.out) (j := 5) WW.out.ltc WW.out.code (.int .i64 Z5)) (by rw [size_set, size_set, size_set, size_set, size_set, size_set]; exact S1.out.lt WW.out) (j := 6) WW.out.ltc WW.out.code (.int .i64 Z6)) (by rw [size_set, size_set, size_set, size_set, size_set, size_set, size_set]; exact S1.out.lt WW.out) (j := 7) WW.out.ltc WW.out.code (.int .i64 Z7)) (by rw [size_set, size_set, size_set, size_set, size_set, size_set, size_set, size_set]; exact S1.out.lt WW.out) (j := 8) WW.out.ltc WW.out.code (.int .i64 Z8)) (by rw [size_set, size_set, size_set, size_set, size_set, size_set, size_set, size_set, size_set]; exact S1.out.lt WW.out) (j := 9) WW.out.ltc WW.out.code (.int .i64 Z9)) (by rw [size_set, size_set, size_set, size_set, size_set, size_set, size_set, size_set, size_set, size_set]; exact S1.out.lt WW.out) (j := 10) WW.out.ltc WW.out.code (.int .i64 Z10)) (by rw [size_set, size_set, size_set, size_set, size_set, size_set, size_set, size_set, size_set, size_set, size_set]; exact S1.out.lt WW.out) (j := 11) WW.out.ltc WW.out.code (.int .i64 Z11))
      generalize ((((((((((((w1.setCell ⟨w.heap.size, 0, none⟩ (.int .i64 Z0)).setCell ⟨w.heap.size, 1, none⟩ (.int .i64 Z1)).setCell ⟨w.heap.size, 2, none⟩ (.int .i64 Z2)).setCell ⟨w.heap.size, 3, none⟩ (.int .i64 Z3)).setCell ⟨w.heap.size, 4, none⟩ (.int .i64 Z4)).setCell ⟨w.heap.size, 5, none⟩ (.int .i64 Z5)).setCell ⟨w.heap.size, 6, none⟩ (.int .i64 Z6)).setCell ⟨w.heap.size, 7, none⟩ (.int .i64 Z7)).setCell ⟨w.heap.size, 8, none⟩ (.int .i64 Z8)).setCell ⟨w.heap.size, 9, none⟩ (.int .i64 Z9)).setCell ⟨w.heap.size, 10, none⟩ (.int .i64 Z10)).setCell ⟨w.heap.size, 11, none⟩ (.int .i64 Z11)) = u9 at *
      have h9' : u9.heap[w.heap.size]? = some (.cells #[.int .i64 Z0, .int .i64 Z1, .int .i64 Z2, .int .i64 Z3, .int .i64 Z4, .int .i64 Z5, .int .i64 Z6, .int .i64 Z7, .int .i64 Z8, .int .i64 Z9, .int .i64 Z10, .int .i64 Z11] 27) := by simpa using h9
      have D0 := Go.Joins.cell_of_block h9' 0
      have D1 := Go.Joins.cell_of_block h9' 1
      have D2 := Go.Joins.cell_of_block h9' 2
      have D3 := Go.Joins.cell_of_block h9' 3
      have D4 := Go.Joins.cell_of_block h9' 4
      have D5 := Go.Joins.cell_of_block h9' 5
      have D6 := Go.Joins.cell_of_block h9' 6
      have D7 := Go.Joins.cell_of_block h9' 7
      have D8 := Go.Joins.cell_of_block h9' 8
      have D9 := Go.Joins.cell_of_block h9' 9
      have D10 := Go.Joins.cell_of_block h9' 10
      have D11 := Go.Joins.cell_of_block h9' 11
      simp at D0 D1 D2 D3 D4 D5 D6 D7 D8 D9 D10 D11
      exact bodyPost_ret (v := .agg #[.int .i64 Z0, .int .i64 Z1, .int .i64 Z2, .int .i64 Z3, .int .i64 Z4, .int .i64 Z5, .int .i64 Z6, .int .i64 Z7, .int .i64 Z8, .int .i64 Z9, .int .i64 Z10, .int .i64 Z11]) (by simp [results, Try.results81, go_sem, D0, D1, D2, D3, D4, D5, D6, D7, D8, D9, D10, D11]) rfl ⟨Z0, Z1, Z2, Z3, Z4, Z5, Z6, Z7, Z8, Z9, Z10, Z11, rfl, c9, g9⟩
end Go.Proofs.Ytpmfijaclncfhaa

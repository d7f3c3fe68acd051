import Derived.Deep.CutRange
import Derived.Test.YtnncdpkmhpjmbaaZmAF
import Derived.Test.YtnncdpkmhpjmbaaZmAG
import Derived.Test.YtnncdpkmhpjmbaaZmAI
import Derived.Test.YtnncdpkmhpjmbaaZmAJ
import Derived.Test.YtnncdpkmhpjmbaaZmAK
section
namespace Go.Proofs.Ytnncdpkmhpjmbaa
open Go.ChangeShapes Go.WideShapes Go.ChangeAt Go.RowKit
set_option linter.unusedVariables false
set_option linter.unusedSimpArgs false
set_option maxRecDepth 20000

/-- An item as it is drawn. -/
structure It.Dr (x : It) : Prop where
  base : -1 ≤ x.base ∧ x.base ≤ 1048577
  least : 0 ≤ x.least ∧ x.least ≤ 700
  most : -2 ≤ x.most ∧ x.most ≤ 1048577
  grow : -1 ≤ x.grow ∧ x.grow ≤ 1001
  shrink : 0 ≤ x.shrink ∧ x.shrink ≤ 1000
  before : -1048576 ≤ x.before ∧ x.before ≤ 1048577
  behind : -10 ≤ x.behind ∧ x.behind ≤ 64
theorem It.Dr.inr {x : It} (h : x.Dr) : x.inr := by
  obtain ⟨h0, h1, h2, h3, h4, h5, h6⟩ := h
  simp only [It.inr, I64]; omega
/-- Where a draw's own blocks lie. -/
structure IDw (w : World) (cb : Nat) (a : Option Addr) (len gr gs : Nat) : Prop where
  ltc : cb < w.heap.size
  ger : w.heap.size ≤ gr
  ges : w.heap.size ≤ gs
  ne : gr ≠ gs
  code : 0 < len → ∀ b off, a = some ⟨b, off, none⟩ → b < w.heap.size
/-- What stands while an item is drawn. -/
structure IS (w : World) (cb : Nat) (a : Option Addr) (len cap gr gs : Nat) (x : It) (wr : World) : Prop where
  here : wr.heap[gs]? = some (.cells x.A 40)
  res : wr.heap[gr]? = some (.cells It0.A 40)
  cur : Cur cb a len cap wr
  gro : w.grownBy wr (some cb)
section
variable {w wr w' : World} {cb : Nat} {a : Option Addr} {len cap gr gs : Nat} {x : It}
theorem IS.kept (h : IS w cb a len cap gr gs x wr) (W : IDw w cb a len gr gs) (g : wr.grownBy w' (some cb)) (c : Cur cb a len cap w') : IS w cb a len cap gr gs x w' :=
  ⟨blk_kept h.here g (by have := W.ltc; have := W.ges; omega), blk_kept h.res g (by have := W.ltc; have := W.ger; omega), c, gr_trans h.gro g⟩
theorem IS.lt (h : IS w cb a len cap gr gs x wr) (W : IDw w cb a len gr gs) : cb < wr.heap.size := Nat.lt_of_lt_of_le W.ltc h.gro.size
theorem IS.put (h : IS w cb a len cap gr gs x wr) (W : IDw w cb a len gr gs) (k : Nat) (v : Value) (x' : It) (e : x.A.setIfInBounds k v = x'.A) : IS w cb a len cap gr gs x' (wr.setCell ⟨gs, k, none⟩ v) :=
  ⟨by rw [Go.Joins.block_setCell h.here v, e], hp_set h.res W.ne k v, h.cur.stored (h.lt W) (by have := W.ltc; have := W.ges; omega) (fun h0 b off e => by have := W.code h0 b off e; have := W.ges; omega) _, gr_store h.gro W.ges⟩
theorem IS.spot (h : IS w cb a len cap gr gs x wr) (k : Nat) (hk : k < 9) : (∃ q, wr.cell? ⟨gs, k, none⟩ = some q) ∧ wr.frozen? ⟨gs, k, none⟩ = false :=
  ⟨⟨_, (Go.Joins.cell_of_block h.here k).trans (Array.getElem?_eq_getElem (by rw [It.A_size]; exact hk))⟩, Go.Joins.unfrozen_of_block h.here k⟩
theorem cur_cells (W : IDw w cb a len gr gs) (hg : w.grownBy wr (some cb)) : ∀ (vs : List Value) (o : Nat) (wr : World), w.grownBy wr (some cb) → Cur cb a len cap wr → Cur cb a len cap (wr.setCells gr o vs) ∧ w.grownBy (wr.setCells gr o vs) (some cb)
  | [], _, _, g, c => ⟨c, g⟩
  | v :: vs, o, wr, g, c => cur_cells W hg vs (o + 1) _ (gr_store g W.ger) (c.stored (Nat.lt_of_lt_of_le W.ltc g.size) (by have := W.ltc; have := W.ger; omega) (fun h0 b off e => by have := W.code h0 b off e; have := W.ger; omega) v)
theorem IS.fin (h : IS w cb a len cap gr gs x wr) (W : IDw w cb a len gr gs) : Cur cb a len cap (wr.setCells gr 0 x.L) ∧ w.grownBy (wr.setCells gr 0 x.L) (some cb) := cur_cells W h.gro x.L 0 wr h.gro h.cur
theorem IS.end' (h : IS w cb a len cap gr gs x wr) : (wr.setCells gr 0 x.L).heap[gr]? = some (.cells x.A 40) := by
  have := hp_puts x.L 0 _ _ h.res
  rw [putA_all _ _ (by rw [It.A_size, It.L_len])] at this
  exact this
end
theorem results_itA {fn : Func} {p : Tmp} (h : fn.results = #[.cell p 40]) {tmps : Array Value} {w : World} {g : Nat} {t : TypeId} {x : It} (hp : tmps.getD p undef = .pointer (some ⟨g, 0, none⟩)) (hg : w.heap[g]? = some (.cells x.A t)) :
    (results fn tmps).run Try.prog w = .ok (.agg x.A) w := results_cell_row h tmps w g t _ _ _ hp hg it_under rfl (it_sizeA x)
/-- What the draw of an item leaves. -/
def ItPost (cb : Nat) (a : Option Addr) (len cap : Nat) (w : World) (e : Ending) (w' : World) : Prop :=
  ∃ x : It, e = .returned (.agg #[.int .i64 x.base, .int .i64 x.least, .int .i64 x.most, .int .i64 x.grow, .int .i64 x.shrink, .int .i64 x.before, .int .i64 x.behind, .bool x.ab, .bool x.ah]) ∧ x.Dr ∧ Cur cb a len cap w' ∧ w.grownBy w' (some cb)
def IE (w : World) (cb : Nat) (a : Option Addr) (len cap gr gs : Nat) (wr : World) : Prop := ∃ x, IS w cb a len cap gr gs x wr ∧ x.Dr
set_option maxHeartbeats 4000000 in
theorem drawit (cb : Nat) (a : Option Addr) (len cap : Nat) (w : World) (hcb : cb < w.heap.size) (hlt : 0 < len → ∀ b off, a = some ⟨b, off, none⟩ → b < w.heap.size) (hc : Cur cb a len cap w) :
    Calls Try.prog 84 #[.pointer (some ⟨cb, 0, none⟩)] w (ItPost cb a len cap w) := by
  have hr0 := hp_new w (.cells It0.A 40)
  have g0 := gr_new w (.cells It0.A 40) cb
  have c0 := hc.kept hcb (World.grownBy_alloc w (.cells It0.A 40) none) (fun k hk => by cases hk)
  have l0 : w.heap.size < (w.alloc (.cells It0.A 40)).heap.size := by simp
  obtain ⟨u, eu⟩ : ∃ u, u = w.alloc (.cells It0.A 40) := ⟨_, rfl⟩
  rw [← eu] at hr0 g0 c0 l0
  have EU := Lib.hid (show u = w.alloc (.cells #[.int .i64 0, .int .i64 0, .int .i64 0, .int .i64 0, .int .i64 0, .int .i64 0, .int .i64 0, .bool false, .bool false] 40) from eu)
  clear eu
  have hcu : cb < u.heap.size := by omega
  go_enter Try.func84, Try.ntmps84
  go_wp2_with (rw [← EU.out])
  clear EU
  refine (below_pos 3000 cb a len cap u (by omega) (by omega) c0).mono ?_
  rintro e w1 ⟨y, rfl, y0, y1, c1, g1, s1⟩
  clear s1
  have G1 := gr_trans g0 g1
  have R1 := blk_kept hr0 g1 (by omega)
  have L1 : w.heap.size < w1.heap.size := by have := g1.size; omega
  clear hr0 g0 c0 g1 hc
  (try dsimp only)
  go_wp2_with (fail)
  refine (pick_r 0 3000 (by omega) (by omega) [0, 64, 100, 640, 33, 1000, y] 7 rfl (by omega) (by omega) (by intro z hz; simp at hz; omega) cb a len cap w1 (by omega) c1).mono ?_
  rintro e w2 ⟨b0, rfl, p0, q0, c2, g2⟩
  have G2 := gr_trans G1 g2
  have R2 := blk_kept R1 g2 (by omega)
  have L2 : w.heap.size < w2.heap.size := by have := g2.size; omega
  clear R1 G1 L1 g2 c1
  obtain ⟨v, ev⟩ : ∃ v, v = w2.alloc (.cells #[.int .i64 b0, .int .i64 0, .int .i64 (-1), .int .i64 0, .int .i64 0, .int .i64 0, .int .i64 0, .bool false, .bool false] 40) := ⟨_, rfl⟩
  obtain ⟨gs, egs⟩ : ∃ q, q = w2.heap.size := ⟨_, rfl⟩
  obtain ⟨gr, hgr⟩ : ∃ gr, gr = w.heap.size := ⟨_, rfl⟩
  have WW := Lib.hid (show IDw w cb a len gr gs from ⟨hcb, by omega, by omega, by omega, hlt⟩)
  have k0 : IS w cb a len cap gr gs ⟨b0, 0, -1, 0, 0, 0, 0, false, false⟩ v := by
    rw [ev, egs, hgr]
    exact ⟨hp_new w2 _, hp_on R2 _, c2.kept (by omega) (World.grownBy_alloc w2 _ none) (fun k hk => by cases hk), gr_trans G2 (gr_new w2 _ cb)⟩
  have V0 := Lib.hid (show It.Dr ⟨b0, 0, -1, 0, 0, 0, 0, false, false⟩ from ⟨⟨by simp; omega, by simp; omega⟩, by simp, by simp, by simp, by simp, by simp, by simp⟩)
  have EV := Lib.hid ev
  have EGS := Lib.hid egs
  clear ev R2 G2 L2 c2 egs
  (try dsimp only)
  go_wp2_with (rw [← EV.out])
  rw [← EGS.out, ← hgr]
  clear EV EGS hgr hlt
  -- the walk from here on is printed by gen/genitd.py
  (try dsimp only)
  go_wp2_with (fail)
  refine (once_any 3 cb a len cap _ (by omega) (by omega) k0.cur).mono ?_
  rintro e w21 ⟨t1, rfl, c1, g1⟩
  have k1 := k0.kept WW.out g1 c1
  clear k0 g1 c1
  (try dsimp only)
  go_upto_if 11 with (fail)
  go_cut [] from 11 to 15 (fun wx => IE w cb a len cap gr gs wx)
  case first =>
    cases t1
    · go_wp2_with (fail)
      go_meet
      case rel => exact ⟨_, k1, V0.out⟩
    ·
      (try dsimp only)
      go_wp2_with (fail)
      refine (pick_r (0) 700 (by omega) (by omega) [0, 64, 200, 700] 4 rfl (by omega) (by omega) (by intro z hz; simp at hz; omega) cb a len cap _ (k1.lt WW.out) k1.cur).mono ?_
      rintro e w22 ⟨x2, rfl, p2, q2, c2, g2⟩
      have k2 := k1.kept WW.out g2 c2
      clear k1 g2 c2
      obtain ⟨⟨z2, d2⟩, f2⟩ := k2.spot 1 (by decide)
      have m2 := k2.put WW.out 1 (.int .i64 x2) (⟨b0, x2, -1, 0, 0, 0, 0, false, false⟩ : It) (by simp [It.A])
      obtain ⟨u2, eu2⟩ : ∃ q, q = w22.setCell ⟨gs, 1, none⟩ (.int .i64 x2) := ⟨_, rfl⟩
      rw [← eu2] at m2
      have EU2 := Lib.hid eu2
      clear eu2 k2
      have V2_ := Lib.hid (show It.Dr (⟨b0, x2, -1, 0, 0, 0, 0, false, false⟩ : It) from ⟨V0.out.base, ⟨by show _ ≤ x2; omega, by show x2 ≤ _; omega⟩, V0.out.most, V0.out.grow, V0.out.shrink, V0.out.before, V0.out.behind⟩)
      (try dsimp only)
      go_wp2_with (rw [← EU2.out])
      clear d2 f2 EU2
      go_meet
      case rel => exact ⟨_, m2, V2_.out⟩
  case rest =>
    clear k1
    obtain ⟨y3, k3, hv3⟩ := hcut
    have V3 := Lib.hid hv3
    clear hv3
    (try dsimp only)
    go_wp2_with (fail)
    refine (once_any 3 cb a len cap _ (by omega) (by omega) k3.cur).mono ?_
    rintro e w24 ⟨t4, rfl, c4, g4⟩
    have k4 := k3.kept WW.out g4 c4
    clear k3 g4 c4
    (try dsimp only)
    go_upto_if 17 with (fail)
    go_cut [] from 17 to 21 (fun wx => IE w cb a len cap gr gs wx)
    case first =>
      cases t4
      · go_wp2_with (fail)
        go_meet
        case rel => exact ⟨_, k4, V3.out⟩
      ·
        (try dsimp only)
        go_wp2_with (fail)
        refine (pick_r (0) 1000 (by omega) (by omega) [0, 100, 300, 1000] 4 rfl (by omega) (by omega) (by intro z hz; simp at hz; omega) cb a len cap _ (k4.lt WW.out) k4.cur).mono ?_
        rintro e w25 ⟨x5, rfl, p5, q5, c5, g5⟩
        have k5 := k4.kept WW.out g5 c5
        clear k4 g5 c5
        obtain ⟨⟨z5, d5⟩, f5⟩ := k5.spot 2 (by decide)
        have m5 := k5.put WW.out 2 (.int .i64 x5) (⟨y3.base, y3.least, x5, y3.grow, y3.shrink, y3.before, y3.behind, y3.ab, y3.ah⟩ : It) (by simp [It.A])
        obtain ⟨u5, eu5⟩ : ∃ q, q = w25.setCell ⟨gs, 2, none⟩ (.int .i64 x5) := ⟨_, rfl⟩
        rw [← eu5] at m5
        have EU5 := Lib.hid eu5
        clear eu5 k5
        have V5_ := Lib.hid (show It.Dr (⟨y3.base, y3.least, x5, y3.grow, y3.shrink, y3.before, y3.behind, y3.ab, y3.ah⟩ : It) from ⟨V3.out.base, V3.out.least, ⟨by show _ ≤ x5; omega, by show x5 ≤ _; omega⟩, V3.out.grow, V3.out.shrink, V3.out.before, V3.out.behind⟩)
        (try dsimp only)
        go_wp2_with (rw [← EU5.out])
        clear d5 f5 EU5
        go_meet
        case rel => exact ⟨_, m5, V5_.out⟩
    case rest =>
      clear k4
      obtain ⟨y6, k6, hv6⟩ := hcut
      have V6 := Lib.hid hv6
      clear hv6
      (try dsimp only)
      go_wp2_with (fail)
      refine (pick_r (0) 1000 (by omega) (by omega) [0, 1, 1, 2, 3, 1000] 6 rfl (by omega) (by omega) (by intro z hz; simp at hz; omega) cb a len cap _ (k6.lt WW.out) k6.cur).mono ?_
      rintro e w27 ⟨x7, rfl, p7, q7, c7, g7⟩
      have k7 := k6.kept WW.out g7 c7
      clear k6 g7 c7
      obtain ⟨⟨z7, d7⟩, f7⟩ := k7.spot 3 (by decide)
      have m7 := k7.put WW.out 3 (.int .i64 x7) (⟨y6.base, y6.least, y6.most, x7, y6.shrink, y6.before, y6.behind, y6.ab, y6.ah⟩ : It) (by simp [It.A])
      obtain ⟨u7, eu7⟩ : ∃ q, q = w27.setCell ⟨gs, 3, none⟩ (.int .i64 x7) := ⟨_, rfl⟩
      rw [← eu7] at m7
      have EU7 := Lib.hid eu7
      clear eu7 k7
      have V7_ := Lib.hid (show It.Dr (⟨y6.base, y6.least, y6.most, x7, y6.shrink, y6.before, y6.behind, y6.ab, y6.ah⟩ : It) from ⟨V6.out.base, V6.out.least, V6.out.most, ⟨by show _ ≤ x7; omega, by show x7 ≤ _; omega⟩, V6.out.shrink, V6.out.before, V6.out.behind⟩)
      (try dsimp only)
      go_wp2_with (rw [← EU7.out])
      clear d7 f7 EU7
      refine (pick_r (0) 1000 (by omega) (by omega) [0, 1, 1, 2, 1000] 5 rfl (by omega) (by omega) (by intro z hz; simp at hz; omega) cb a len cap _ (m7.lt WW.out) m7.cur).mono ?_
      rintro e w28 ⟨x8, rfl, p8, q8, c8, g8⟩
      have k8 := m7.kept WW.out g8 c8
      clear m7 g8 c8
      obtain ⟨⟨z8, d8⟩, f8⟩ := k8.spot 4 (by decide)
      have m8 := k8.put WW.out 4 (.int .i64 x8) (⟨y6.base, y6.least, y6.most, x7, x8, y6.before, y6.behind, y6.ab, y6.ah⟩ : It) (by simp [It.A])
      obtain ⟨u8, eu8⟩ : ∃ q, q = w28.setCell ⟨gs, 4, none⟩ (.int .i64 x8) := ⟨_, rfl⟩
      rw [← eu8] at m8
      have EU8 := Lib.hid eu8
      clear eu8 k8
      have V8_ := Lib.hid (show It.Dr (⟨y6.base, y6.least, y6.most, x7, x8, y6.before, y6.behind, y6.ab, y6.ah⟩ : It) from ⟨V7_.out.base, V7_.out.least, V7_.out.most, V7_.out.grow, ⟨by show _ ≤ x8; omega, by show x8 ≤ _; omega⟩, V7_.out.before, V7_.out.behind⟩)
      (try dsimp only)
      go_wp2_with (rw [← EU8.out])
      clear d8 f8 EU8
      refine (once_any 3 cb a len cap _ (by omega) (by omega) m8.cur).mono ?_
      rintro e w29 ⟨t9, rfl, c9, g9⟩
      have k9 := m8.kept WW.out g9 c9
      clear m8 g9 c9
      (try dsimp only)
      go_upto_if 31 with (fail)
      go_cut [] from 31 to 39 (fun wx => IE w cb a len cap gr gs wx)
      case first =>
        cases t9
        · go_wp2_with (fail)
          go_meet
          case rel => exact ⟨_, k9, V8_.out⟩
        ·
          (try dsimp only)
          go_wp2_with (fail)
          refine (pick_r (-10) 64 (by omega) (by omega) [10, 64, -10, 33] 4 rfl (by omega) (by omega) (by intro z hz; simp at hz; omega) cb a len cap _ (k9.lt WW.out) k9.cur).mono ?_
          rintro e w30 ⟨x10, rfl, p10, q10, c10, g10⟩
          have k10 := k9.kept WW.out g10 c10
          clear k9 g10 c10
          obtain ⟨⟨z10, d10⟩, f10⟩ := k10.spot 5 (by decide)
          have m10 := k10.put WW.out 5 (.int .i64 x10) (⟨y6.base, y6.least, y6.most, x7, x8, x10, y6.behind, y6.ab, y6.ah⟩ : It) (by simp [It.A])
          obtain ⟨u10, eu10⟩ : ∃ q, q = w30.setCell ⟨gs, 5, none⟩ (.int .i64 x10) := ⟨_, rfl⟩
          rw [← eu10] at m10
          have EU10 := Lib.hid eu10
          clear eu10 k10
          have V10_ := Lib.hid (show It.Dr (⟨y6.base, y6.least, y6.most, x7, x8, x10, y6.behind, y6.ab, y6.ah⟩ : It) from ⟨V8_.out.base, V8_.out.least, V8_.out.most, V8_.out.grow, V8_.out.shrink, ⟨by show _ ≤ x10; omega, by show x10 ≤ _; omega⟩, V8_.out.behind⟩)
          (try dsimp only)
          go_wp2_with (rw [← EU10.out])
          clear d10 f10 EU10
          refine (pick_r (-10) 64 (by omega) (by omega) [10, 64, -10, 33] 4 rfl (by omega) (by omega) (by intro z hz; simp at hz; omega) cb a len cap _ (m10.lt WW.out) m10.cur).mono ?_
          rintro e w31 ⟨x11, rfl, p11, q11, c11, g11⟩
          have k11 := m10.kept WW.out g11 c11
          clear m10 g11 c11
          obtain ⟨⟨z11, d11⟩, f11⟩ := k11.spot 6 (by decide)
          have m11 := k11.put WW.out 6 (.int .i64 x11) (⟨y6.base, y6.least, y6.most, x7, x8, x10, x11, y6.ab, y6.ah⟩ : It) (by simp [It.A])
          obtain ⟨u11, eu11⟩ : ∃ q, q = w31.setCell ⟨gs, 6, none⟩ (.int .i64 x11) := ⟨_, rfl⟩
          rw [← eu11] at m11
          have EU11 := Lib.hid eu11
          clear eu11 k11
          have V11_ := Lib.hid (show It.Dr (⟨y6.base, y6.least, y6.most, x7, x8, x10, x11, y6.ab, y6.ah⟩ : It) from ⟨V10_.out.base, V10_.out.least, V10_.out.most, V10_.out.grow, V10_.out.shrink, V10_.out.before, ⟨by show _ ≤ x11; omega, by show x11 ≤ _; omega⟩⟩)
          (try dsimp only)
          go_wp2_with (rw [← EU11.out])
          clear d11 f11 EU11
          go_meet
          case rel => exact ⟨_, m11, V11_.out⟩
      case rest =>
        clear k9
        obtain ⟨y12, k12, hv12⟩ := hcut
        have V12 := Lib.hid hv12
        clear hv12
        (try dsimp only)
        go_wp2_with (fail)
        refine (once_any 10 cb a len cap _ (by omega) (by omega) k12.cur).mono ?_
        rintro e w33 ⟨t13, rfl, c13, g13⟩
        have k13 := k12.kept WW.out g13 c13
        clear k12 g13 c13
        obtain ⟨⟨z13, d13⟩, f13⟩ := k13.spot 7 (by decide)
        have m13 := k13.put WW.out 7 (.bool t13) (⟨y12.base, y12.least, y12.most, y12.grow, y12.shrink, y12.before, y12.behind, t13, y12.ah⟩ : It) (by simp [It.A])
        obtain ⟨u13, eu13⟩ : ∃ q, q = w33.setCell ⟨gs, 7, none⟩ (.bool t13) := ⟨_, rfl⟩
        rw [← eu13] at m13
        have EU13 := Lib.hid eu13
        clear eu13 k13
        have V13_ := Lib.hid (show It.Dr (⟨y12.base, y12.least, y12.most, y12.grow, y12.shrink, y12.before, y12.behind, t13, y12.ah⟩ : It) from ⟨V12.out.base, V12.out.least, V12.out.most, V12.out.grow, V12.out.shrink, V12.out.before, V12.out.behind⟩)
        (try dsimp only)
        go_wp2_with (rw [← EU13.out])
        clear d13 f13 EU13
        refine (once_any 10 cb a len cap _ (by omega) (by omega) m13.cur).mono ?_
        rintro e w34 ⟨t14, rfl, c14, g14⟩
        have k14 := m13.kept WW.out g14 c14
        clear m13 g14 c14
        obtain ⟨⟨z14, d14⟩, f14⟩ := k14.spot 8 (by decide)
        have m14 := k14.put WW.out 8 (.bool t14) (⟨y12.base, y12.least, y12.most, y12.grow, y12.shrink, y12.before, y12.behind, t13, t14⟩ : It) (by simp [It.A])
        obtain ⟨u14, eu14⟩ : ∃ q, q = w34.setCell ⟨gs, 8, none⟩ (.bool t14) := ⟨_, rfl⟩
        rw [← eu14] at m14
        have EU14 := Lib.hid eu14
        clear eu14 k14
        have V14_ := Lib.hid (show It.Dr (⟨y12.base, y12.least, y12.most, y12.grow, y12.shrink, y12.before, y12.behind, t13, t14⟩ : It) from ⟨V13_.out.base, V13_.out.least, V13_.out.most, V13_.out.grow, V13_.out.shrink, V13_.out.before, V13_.out.behind⟩)
        have h9 := Lib.hid m14.end'
        have q9 := m14.fin WW.out
        have R9 := Lib.hid (show u14.rangeAt gs 0 (⟨y12.base, y12.least, y12.most, y12.grow, y12.shrink, y12.before, y12.behind, t13, t14⟩ : It).L from range_block m14.here)
        have T9 := Lib.hid (there_block m14.res 0 9 (by rw [It.A_size]; omega))
        clear m14
        (try dsimp only)
        go_wp2_with (first | (rw [← EU14.out]) | ((with_reducible apply list_load_it (x := (⟨y12.base, y12.least, y12.most, y12.grow, y12.shrink, y12.before, y12.behind, t13, t14⟩ : It))); exact rfl; exact rfl; exact rfl; (with_reducible exact R9.out); simp only [World.size_alloc, Act.put, List.setIfInBounds_toArray, List.set_cons_succ, List.set_cons_zero]) | ((with_reducible apply list_store_it (x := (⟨y12.base, y12.least, y12.most, y12.grow, y12.shrink, y12.before, y12.behind, t13, t14⟩ : It))); exact rfl; exact rfl; exact rfl; exact rfl; (with_reducible exact T9.out); simp only [World.size_alloc, Act.put, List.setIfInBounds_toArray, List.set_cons_succ, List.set_cons_zero]) | fail)
        exact bodyPost_ret (results_itA rfl rfl h9.out) rfl ⟨(⟨y12.base, y12.least, y12.most, y12.grow, y12.shrink, y12.before, y12.behind, t13, t14⟩ : It), rfl, V14_.out, q9.1, q9.2⟩
end Go.Proofs.Ytnncdpkmhpjmbaa
end

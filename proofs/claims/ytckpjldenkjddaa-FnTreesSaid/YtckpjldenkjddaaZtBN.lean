import Derived.Test.YtckpjldenkjddaaZtAJ
import Derived.Test.YtckpjldenkjddaaZtAK
import Derived.Test.YtckpjldenkjddaaZtBM
section
namespace Go.Proofs.Ytckpjldenkjddaa
open Go.ChangeShapes Go.WideShapes Go.ChangeAt Go.RowKit
set_option linter.unusedSimpArgs false
set_option linter.unusedVariables false

def loS (k : Nat) : Int := if k ≤ 3 ∨ k = 5 then 1 else if k = 8 then -1000 else 0
def hiS (k : Nat) : Int := if k = 0 then 4 else if k = 1 then 3 else if k = 2 then 6 else if k = 3 then 5 else if k = 4 then 5 else if k = 5 then 6 else if k ≤ 7 then 1 else if k ≤ 10 then 1000 else if k = 25 then 6400 else if k < 58 then 64 else 100
def singleS (k : Nat) : Prop := k ≤ 10 ∨ k = 25 ∨ (50 ≤ k ∧ k < 60)
/-- A valid style, as it is drawn. -/
structure FOk (f : Nat → Int) : Prop where
  one : ∀ k, singleS k → loS k ≤ f k ∧ f k ≤ hiS k
  sz : ∀ q, q < 7 → VOk (f (11 + 2 * q)) (f (12 + 2 * q))
  sd : ∀ q, q < 12 → SVOk (f (26 + 2 * q)) (f (27 + 2 * q))
  far : ∀ i, 60 ≤ i → f i = 0
theorem FOk.new : FOk newF := by
  refine ⟨fun k hk => ?_, fun q hq => ?_, fun q hq => ?_, fun i hi => ?_⟩
  · unfold singleS at hk
    by_cases h5 : 50 ≤ k
    · unfold newF loS hiS
      rw [if_neg (by omega), if_neg (by omega), if_neg (by omega), if_neg (by omega), if_neg (by omega), if_neg (by omega), if_neg (by omega), if_neg (by omega), if_neg (by omega), if_neg (by omega), if_neg (by omega), if_neg (by omega), if_neg (by omega)]
      split <;> omega
    · have : k = 0 ∨ k = 1 ∨ k = 2 ∨ k = 3 ∨ k = 4 ∨ k = 5 ∨ k = 6 ∨ k = 7 ∨ k = 8 ∨ k = 9 ∨ k = 10 ∨ k = 25 := by omega
      rcases this with rfl | rfl | rfl | rfl | rfl | rfl | rfl | rfl | rfl | rfl | rfl | rfl <;> exact ⟨by decide, by decide⟩
  · unfold newF
    rw [if_neg (by omega), if_neg (by omega), if_neg (by omega), if_neg (by omega)]
    exact Or.inl ⟨rfl, rfl⟩
  · unfold newF
    rw [if_neg (by omega), if_neg (by omega), if_neg (by omega), if_neg (by omega)]
    exact Or.inl (Or.inl ⟨rfl, rfl⟩)
  · unfold newF
    rw [if_neg (by omega), if_neg (by omega)]
theorem FOk.set {f : Nat → Int} (h : FOk f) (k : Nat) (z : Int) (hk : singleS k) (hz : loS k ≤ z ∧ z ≤ hiS k) : FOk (upd f k z) := by
  unfold singleS at hk
  refine ⟨fun i hi => ?_, fun q hq => ?_, fun q hq => ?_, fun i hi => ?_⟩
  · unfold upd
    split
    · rename_i e; subst e; exact hz
    · exact h.one i hi
  · unfold upd
    rw [if_neg (by omega), if_neg (by omega)]
    exact h.sz q hq
  · unfold upd
    rw [if_neg (by omega), if_neg (by omega)]
    exact h.sd q hq
  · unfold upd
    rw [if_neg (by omega)]
    exact h.far i hi
theorem FOk.val {f : Nat → Int} (h : FOk f) (o q0 : Nat) {x y : Int} (ho : o = 11 + 2 * q0) (hq0 : q0 < 7) (hv : VOk x y) : FOk (updL f o [x, y]) := by
  subst ho
  have at' : ∀ i, updL f (11 + 2 * q0) [x, y] i = if i = 11 + 2 * q0 then x else if i = 12 + 2 * q0 then y else f i := fun i => by
    rw [updL_at]
    simp only [List.length_cons, List.length_nil]
    by_cases e1 : i = 11 + 2 * q0
    · rw [if_pos (by omega), if_pos e1, e1, Nat.sub_self]; rfl
    · rw [if_neg e1]
      by_cases e2 : i = 12 + 2 * q0
      · rw [if_pos (by omega), if_pos e2, show i - (11 + 2 * q0) = 1 by omega]; rfl
      · rw [if_neg (by omega), if_neg e2]
  refine ⟨fun i hi => ?_, fun q hq => ?_, fun q hq => ?_, fun i hi => ?_⟩
  · unfold singleS at hi
    rw [at', if_neg (by omega), if_neg (by omega)]
    exact h.one i hi
  · rw [at', at']
    by_cases e : q = q0
    · subst e
      rw [if_pos rfl, if_neg (by omega), if_pos rfl]
      exact hv
    · rw [if_neg (by omega), if_neg (by omega), if_neg (by omega), if_neg (by omega)]
      exact h.sz q hq
  · rw [at', at', if_neg (by omega), if_neg (by omega), if_neg (by omega), if_neg (by omega)]
    exact h.sd q hq
  · rw [at', if_neg (by omega), if_neg (by omega)]
    exact h.far i hi
theorem FOk.sid {f : Nat → Int} (h : FOk f) (o q0 : Nat) {zs : List Int} (ho : o = 26 + 2 * q0) (hq0 : q0 = 0 ∨ q0 = 6) (hl : zs.length = 12) (hv : SOk zs) : FOk (updL f o zs) := by
  subst ho
  refine ⟨fun i hi => ?_, fun q hq => ?_, fun q hq => ?_, fun i hi => ?_⟩
  · unfold singleS at hi
    rw [updL_at, if_neg (by omega)]
    exact h.one i hi
  · rw [updL_at, updL_at, if_neg (by omega), if_neg (by omega)]
    exact h.sz q hq
  · rw [updL_at, updL_at]
    by_cases e : q0 ≤ q ∧ q < q0 + 6
    · rw [if_pos (by omega), if_pos (by omega)]
      have := hv (q - q0) (by omega)
      rw [show 26 + 2 * q - (26 + 2 * q0) = 2 * (q - q0) by omega, show 27 + 2 * q - (26 + 2 * q0) = 2 * (q - q0) + 1 by omega]
      exact this
    · rw [if_neg (by omega), if_neg (by omega)]
      exact h.sd q hq
  · rw [updL_at, if_neg (by omega)]
    exact h.far i hi
theorem FOk.edg {f : Nat → Int} (h : FOk f) (o : Nat) {a b c d : Int} (ho : o = 50 ∨ o = 54) (ha : 0 ≤ a ∧ a ≤ 64) (hb : 0 ≤ b ∧ b ≤ 64) (hc : 0 ≤ c ∧ c ≤ 64) (hd : 0 ≤ d ∧ d ≤ 64) : FOk (updL f o [a, b, c, d]) := by
  show FOk (upd (upd (upd (upd f o a) (o + 1) b) (o + 1 + 1) c) (o + 1 + 1 + 1) d)
  rcases ho with rfl | rfl
  · exact (((h.set 50 a (by unfold singleS; omega) ha).set 51 b (by unfold singleS; omega) hb).set 52 c (by unfold singleS; omega) hc).set 53 d (by unfold singleS; omega) hd
  · exact (((h.set 54 a (by unfold singleS; omega) ha).set 55 b (by unfold singleS; omega) hb).set 56 c (by unfold singleS; omega) hc).set 57 d (by unfold singleS; omega) hd
theorem sok12 {a b c d e f g h i j k l : Int} (h0 : SVOk a b) (h1 : SVOk c d) (h2 : SVOk e f) (h3 : SVOk g h) (h4 : SVOk i j) (h5 : SVOk k l) : SOk [a, b, c, d, e, f, g, h, i, j, k, l] := fun q hq => by
  have : q = 0 ∨ q = 1 ∨ q = 2 ∨ q = 3 ∨ q = 4 ∨ q = 5 := by omega
  rcases this with rfl | rfl | rfl | rfl | rfl | rfl
  · exact h0
  · exact h1
  · exact h2
  · exact h3
  · exact h4
  · exact h5
/-- What a draw of a valid style leaves. -/
def StyOkP (cb : Nat) (a : Option Addr) (len cap : Nat) (w : World) (e : Ending) (w' : World) : Prop :=
  ∃ f : Nat → Int, e = .returned (.agg (sCells f)) ∧ FOk f ∧ Cur cb a len cap w' ∧ w.grownBy w' (some cb)
def YEV (w : World) (cb : Nat) (a : Option Addr) (len cap gr gs : Nat) (wr : World) : Prop := ∃ f, YS w cb a len cap gr gs f wr ∧ FOk f

set_option maxRecDepth 100000 in
set_option maxHeartbeats 8000000 in
theorem drawsty_ok (cb : Nat) (a : Option Addr) (len cap : Nat) (w : World) (hcb : cb < w.heap.size) (hlt : 0 < len → ∀ b off, a = some ⟨b, off, none⟩ → b < w.heap.size) (hc : Cur cb a len cap w) :
    Calls Try.prog 59 #[.pointer (some ⟨cb, 0, none⟩)] w (StyOkP cb a len cap w) := by
  have hr0 := hp_new w (.cells (sCells fun _ => 0) 41)
  have g0 := gr_new w (.cells (sCells fun _ => 0) 41) cb
  have c0 := hc.kept hcb (World.grownBy_alloc w (.cells (sCells fun _ => 0) 41) none) (fun k hk => by cases hk)
  have l0 : w.heap.size < (w.alloc (.cells (sCells fun _ => 0) 41)).heap.size := by simp
  obtain ⟨u, eu⟩ : ∃ u, u = w.alloc (.cells (sCells fun _ => 0) 41) := ⟨_, rfl⟩
  rw [← eu] at hr0 g0 c0 l0
  have EU := Lib.hid eu
  clear eu
  go_enter Try.func59, Try.ntmps59
  go_wp2_with (first | (rw [← EU.out]) | ((with_reducible apply list_alloc_sty); exact rfl; exact rfl; simp only [World.size_alloc, Act.put, List.setIfInBounds_toArray, List.set_cons_succ, List.set_cons_zero]))
  clear EU
  refine (snew u).mono ?_
  rintro e w0 ⟨rfl, b0⟩
  have hr1 := hp_below hr0 b0
  have c1 := c0.kept (by have := g0.size; omega) (gr_below b0 none) (fun k hk => by cases hk)
  have g1 := gr_trans g0 (gr_below b0 (some cb))
  have l1 : w.heap.size < w0.heap.size := Nat.lt_of_lt_of_le l0 b0.size
  have WW := Lib.hid (show SDw w cb a len w.heap.size w0.heap.size from ⟨hcb, Nat.le_refl _, by omega, by omega, hlt⟩)
  clear hr0 g0 c0 l0 b0 hc
  (try dsimp only)
  have V0 := Lib.hid FOk.new
  (try dsimp only)
  go_wp2_with ((with_reducible apply list_new_sty (f := newF)); exact rfl; exact rfl; exact rfl; exact rfl; exact rfl; exact rfl; exact rfl; intro u0 bu0 hu0; have k0 : YS w cb a len cap w.heap.size w0.heap.size newF u0 := ⟨hu0, hp_below hr1 bu0, c1.kept (by have := g1.size; omega) (gr_below bu0 none) (fun k hk => by cases hk), gr_trans g1 (gr_below bu0 (some cb))⟩; clear hu0 bu0; simp only [World.size_alloc, Act.put, List.setIfInBounds_toArray, List.set_cons_succ, List.set_cons_zero])
  clear hr1 c1 g1 hlt
  generalize w0.heap.size = gs at *
  obtain ⟨gr, hgr⟩ : ∃ gr, gr = w.heap.size := ⟨_, rfl⟩
  rw [← hgr] at WW k0 ⊢
  clear hgr
  refine (below_pos 4 cb a len cap _ (by omega) (by omega) k0.cur).mono ?_
  rintro e w1 ⟨x1, rfl, p1, q1, c1, g1, _⟩
  have k1 := k0.kept WW.out g1 c1
  clear k0 g1 c1
  have r1 : IntKind.i64.wrap (1 + x1) = (1 + x1) := IntWalk.i64_in _ (by omega)
  have z1 := sty_cell k1.here 0 (by decide)
  have F1 := sty_free k1.here 0
  (try dsimp only)
  go_wp2_with (fail)
  have m1 := k1.store WW.out 0 (1 + x1) (.int .i64 (1 + x1)) (by decide) (sCell_int _ (by decide))
  clear k1 z1 F1 r1
  have V1 := Lib.hid (FOk.set V0.out 0 (1 + x1) (by unfold singleS; omega) (by simp [loS, hiS] <;> omega))
  refine (once_any 3 cb a len cap _ (by omega) (by omega) m1.cur).mono ?_
  rintro e w2 ⟨t2, rfl, c2, g2⟩
  have k2 := m1.kept WW.out g2 c2
  clear m1 g2 c2
  (try dsimp only)
  go_upto_if 10 with (fail)
  go_cut [] from 10 to 14 (fun wx => YEV w cb a len cap gr gs wx)
  case first =>
    cases t2
    · go_wp2_with (fail)
      go_meet
      case rel => exact ⟨_, k2, V1.out⟩
    ·
      (try dsimp only)
      go_wp2_with (fail)
      refine (below_pos 3 cb a len cap _ (by omega) (by omega) k2.cur).mono ?_
      rintro e w3 ⟨x3, rfl, p3, q3, c3, g3, _⟩
      have k3 := k2.kept WW.out g3 c3
      clear k2 g3 c3
      have r3 : IntKind.i64.wrap (1 + x3) = (1 + x3) := IntWalk.i64_in _ (by omega)
      have z3 := sty_cell k3.here 1 (by decide)
      have F3 := sty_free k3.here 1
      (try dsimp only)
      go_wp2_with (fail)
      have m3 := k3.store WW.out 1 (1 + x3) (.int .i64 (1 + x3)) (by decide) (sCell_int _ (by decide))
      clear k3 z3 F3 r3
      have V2 := Lib.hid (FOk.set V1.out 1 (1 + x3) (by unfold singleS; omega) (by simp [loS, hiS] <;> omega))
      go_meet
      case rel => exact ⟨_, m3, V2.out⟩
  case rest =>
    clear k2
    obtain ⟨f4, k4, hv4⟩ := hcut
    have V3 := Lib.hid hv4
    clear hv4
    (try dsimp only)
    go_wp2_with (fail)
    refine (below_pos 6 cb a len cap _ (by omega) (by omega) k4.cur).mono ?_
    rintro e w5 ⟨x5, rfl, p5, q5, c5, g5, _⟩
    have k5 := k4.kept WW.out g5 c5
    clear k4 g5 c5
    have r5 : IntKind.i64.wrap (1 + x5) = (1 + x5) := IntWalk.i64_in _ (by omega)
    have z5 := sty_cell k5.here 2 (by decide)
    have F5 := sty_free k5.here 2
    (try dsimp only)
    go_wp2_with (fail)
    have m5 := k5.store WW.out 2 (1 + x5) (.int .i64 (1 + x5)) (by decide) (sCell_int _ (by decide))
    clear k5 z5 F5 r5
    have V4 := Lib.hid (FOk.set V3.out 2 (1 + x5) (by unfold singleS; omega) (by simp [loS, hiS] <;> omega))
    refine (below_pos 5 cb a len cap _ (by omega) (by omega) m5.cur).mono ?_
    rintro e w6 ⟨x6, rfl, p6, q6, c6, g6, _⟩
    have k6 := m5.kept WW.out g6 c6
    clear m5 g6 c6
    have r6 : IntKind.i64.wrap (1 + x6) = (1 + x6) := IntWalk.i64_in _ (by omega)
    have z6 := sty_cell k6.here 3 (by decide)
    have F6 := sty_free k6.here 3
    (try dsimp only)
    go_wp2_with (fail)
    have m6 := k6.store WW.out 3 (1 + x6) (.int .i64 (1 + x6)) (by decide) (sCell_int _ (by decide))
    clear k6 z6 F6 r6
    have V5 := Lib.hid (FOk.set V4.out 3 (1 + x6) (by unfold singleS; omega) (by simp [loS, hiS] <;> omega))
    refine (once_any 3 cb a len cap _ (by omega) (by omega) m6.cur).mono ?_
    rintro e w7 ⟨t7, rfl, c7, g7⟩
    have k7 := m6.kept WW.out g7 c7
    clear m6 g7 c7
    (try dsimp only)
    go_upto_if 24 with (fail)
    go_cut [] from 24 to 27 (fun wx => YEV w cb a len cap gr gs wx)
    case first =>
      cases t7
      · go_wp2_with (fail)
        go_meet
        case rel => exact ⟨_, k7, V5.out⟩
      ·
        (try dsimp only)
        go_wp2_with (fail)
        refine (below_pos 6 cb a len cap _ (by omega) (by omega) k7.cur).mono ?_
        rintro e w8 ⟨x8, rfl, p8, q8, c8, g8, _⟩
        have k8 := k7.kept WW.out g8 c8
        clear k7 g8 c8
        have z8 := sty_cell k8.here 4 (by decide)
        have F8 := sty_free k8.here 4
        (try dsimp only)
        go_wp2_with (fail)
        have m8 := k8.store WW.out 4 x8 (.int .i64 x8) (by decide) (sCell_int _ (by decide))
        clear k8 z8 F8
        have V6 := Lib.hid (FOk.set V5.out 4 x8 (by unfold singleS; omega) (by simp [loS, hiS] <;> omega))
        go_meet
        case rel => exact ⟨_, m8, V6.out⟩
    case rest =>
      clear k7
      obtain ⟨f9, k9, hv9⟩ := hcut
      have V7 := Lib.hid hv9
      clear hv9
      (try dsimp only)
      go_wp2_with (fail)
      refine (below_pos 6 cb a len cap _ (by omega) (by omega) k9.cur).mono ?_
      rintro e w10 ⟨x10, rfl, p10, q10, c10, g10, _⟩
      have k10 := k9.kept WW.out g10 c10
      clear k9 g10 c10
      have r10 : IntKind.i64.wrap (1 + x10) = (1 + x10) := IntWalk.i64_in _ (by omega)
      have z10 := sty_cell k10.here 5 (by decide)
      have F10 := sty_free k10.here 5
      (try dsimp only)
      go_wp2_with (fail)
      have m10 := k10.store WW.out 5 (1 + x10) (.int .i64 (1 + x10)) (by decide) (sCell_int _ (by decide))
      clear k10 z10 F10 r10
      have V8 := Lib.hid (FOk.set V7.out 5 (1 + x10) (by unfold singleS; omega) (by simp [loS, hiS] <;> omega))
      refine (once_any 10 cb a len cap _ (by omega) (by omega) m10.cur).mono ?_
      rintro e w11 ⟨t11, rfl, c11, g11⟩
      have k11 := m10.kept WW.out g11 c11
      clear m10 g11 c11
      have z11 := sty_cell k11.here 6 (by decide)
      have F11 := sty_free k11.here 6
      (try dsimp only)
      go_wp2_with (fail)
      have m11 := k11.store WW.out 6 (if t11 then 1 else 0) (.bool t11) (by decide) (bz_of _ _ (by decide))
      clear k11 z11 F11
      have V9 := Lib.hid (FOk.set V8.out 6 (if t11 then 1 else 0) (by unfold singleS; omega) (by cases t11 <;> simp [loS, hiS]))
      refine (once_any 12 cb a len cap _ (by omega) (by omega) m11.cur).mono ?_
      rintro e w12 ⟨t12, rfl, c12, g12⟩
      have k12 := m11.kept WW.out g12 c12
      clear m11 g12 c12
      have z12 := sty_cell k12.here 7 (by decide)
      have F12 := sty_free k12.here 7
      (try dsimp only)
      go_wp2_with (fail)
      have m12 := k12.store WW.out 7 (if t12 then 1 else 0) (.bool t12) (by decide) (bz_of _ _ (by decide))
      clear k12 z12 F12
      have V10 := Lib.hid (FOk.set V9.out 7 (if t12 then 1 else 0) (by unfold singleS; omega) (by cases t12 <;> simp [loS, hiS]))
      refine (once_any 5 cb a len cap _ (by omega) (by omega) m12.cur).mono ?_
      rintro e w13 ⟨t13, rfl, c13, g13⟩
      have k13 := m12.kept WW.out g13 c13
      clear m12 g13 c13
      (try dsimp only)
      go_upto_if 39 with (fail)
      go_cut [] from 39 to 43 (fun wx => YEV w cb a len cap gr gs wx)
      case first =>
        cases t13
        · go_wp2_with (fail)
          go_meet
          case rel => exact ⟨_, k13, V10.out⟩
        ·
          (try dsimp only)
          go_wp2_with (fail)
          refine (below_pos 5 cb a len cap _ (by omega) (by omega) k13.cur).mono ?_
          rintro e w14 ⟨x14, rfl, p14, q14, c14, g14, _⟩
          have k14 := k13.kept WW.out g14 c14
          clear k13 g14 c14
          have r14 : IntKind.i64.wrap (x14 - 2) = (x14 - 2) := IntWalk.i64_in _ (by omega)
          have z14 := sty_cell k14.here 8 (by decide)
          have F14 := sty_free k14.here 8
          (try dsimp only)
          go_wp2_with (fail)
          have m14 := k14.store WW.out 8 (x14 - 2) (.int .i64 (x14 - 2)) (by decide) (sCell_int _ (by decide))
          clear k14 z14 F14 r14
          have V11 := Lib.hid (FOk.set V10.out 8 (x14 - 2) (by unfold singleS; omega) (by simp [loS, hiS] <;> omega))
          go_meet
          case rel => exact ⟨_, m14, V11.out⟩
      case rest =>
        clear k13
        obtain ⟨f15, k15, hv15⟩ := hcut
        have V12 := Lib.hid hv15
        clear hv15
        (try dsimp only)
        go_wp2_with (fail)
        refine (pick_r 0 1000 (by decide) (by decide) [0, 0, 1, 1, 2, 1000] 6 rfl (by omega) (by omega) (by decide) cb a len cap _ (k15.lt WW.out) k15.cur).mono ?_
        rintro e w16 ⟨x16, rfl, p16, q16, c16, g16⟩
        have k16 := k15.kept WW.out g16 c16
        clear k15 g16 c16
        have z16 := sty_cell k16.here 9 (by decide)
        have F16 := sty_free k16.here 9
        (try dsimp only)
        go_wp2_with (fail)
        have m16 := k16.store WW.out 9 x16 (.int .i64 x16) (by decide) (sCell_int _ (by decide))
        clear k16 z16 F16
        have V13 := Lib.hid (FOk.set V12.out 9 x16 (by unfold singleS; omega) (by simp [loS, hiS] <;> omega))
        have pk := pick_r 0 1000 (by decide) (by decide) [0, 1, 1, 2, 1000] 5 rfl (by omega) (by omega) (by decide) cb a len cap (w16.setCell ⟨gs, 9, none⟩ (.int .i64 x16)) (m16.lt WW.out) m16.cur
        rw [size_set] at pk
        refine (pk).mono ?_
        rintro e w17 ⟨x17, rfl, p17, q17, c17, g17⟩
        have k17 := m16.kept WW.out g17 c17
        clear m16 g17 c17
        have z17 := sty_cell k17.here 10 (by decide)
        have F17 := sty_free k17.here 10
        (try dsimp only)
        go_wp2_with (fail)
        have m17 := k17.store WW.out 10 x17 (.int .i64 x17) (by decide) (sCell_int _ (by decide))
        clear k17 z17 F17
        have V14 := Lib.hid (FOk.set V13.out 10 x17 (by unfold singleS; omega) (by simp [loS, hiS] <;> omega))
        refine (val_ok cb a len cap _ (m17.lt WW.out) (m17.code WW.out) m17.cur).mono ?_
        rintro e w18 ⟨x18, y18, rfl, v18, c18, g18⟩
        have k18 := m17.kept WW.out g18 c18
        clear m17 g18 c18
        (try dsimp only)
        go_wp2_with ((with_reducible apply list_put_ys [x18, y18] 11); exact rfl; exact rfl; exact rfl; exact rfl; exact val_size2; (simp); exact WW.out; exact k18; intro u18 m18; simp only [World.size_alloc, Act.put, List.setIfInBounds_toArray, List.set_cons_succ, List.set_cons_zero])
        clear k18
        have V15 := Lib.hid (FOk.val V14.out 11 0 (by omega) (by omega) v18)
        refine (val_ok cb a len cap _ (m18.lt WW.out) (m18.code WW.out) m18.cur).mono ?_
        rintro e w19 ⟨x19, y19, rfl, v19, c19, g19⟩
        have k19 := m18.kept WW.out g19 c19
        clear m18 g19 c19
        (try dsimp only)
        go_wp2_with ((with_reducible apply list_put_ys [x19, y19] 13); exact rfl; exact rfl; exact rfl; exact rfl; exact val_size2; (simp); exact WW.out; exact k19; intro u19 m19; simp only [World.size_alloc, Act.put, List.setIfInBounds_toArray, List.set_cons_succ, List.set_cons_zero])
        clear k19
        have V16 := Lib.hid (FOk.val V15.out 13 1 (by omega) (by omega) v19)
        refine (val_ok cb a len cap _ (m19.lt WW.out) (m19.code WW.out) m19.cur).mono ?_
        rintro e w20 ⟨x20, y20, rfl, v20, c20, g20⟩
        have k20 := m19.kept WW.out g20 c20
        clear m19 g20 c20
        (try dsimp only)
        go_wp2_with ((with_reducible apply list_put_ys [x20, y20] 15); exact rfl; exact rfl; exact rfl; exact rfl; exact val_size2; (simp); exact WW.out; exact k20; intro u20 m20; simp only [World.size_alloc, Act.put, List.setIfInBounds_toArray, List.set_cons_succ, List.set_cons_zero])
        clear k20
        have V17 := Lib.hid (FOk.val V16.out 15 2 (by omega) (by omega) v20)
        refine (once_any 4 cb a len cap _ (by omega) (by omega) m20.cur).mono ?_
        rintro e w21 ⟨t21, rfl, c21, g21⟩
        have k21 := m20.kept WW.out g21 c21
        clear m20 g21 c21
        (try dsimp only)
        go_upto_if 62 with (fail)
        go_cut [] from 62 to 68 (fun wx => YEV w cb a len cap gr gs wx)
        case first =>
          cases t21
          · go_wp2_with (fail)
            go_meet
            case rel => exact ⟨_, k21, V17.out⟩
          ·
            (try dsimp only)
            go_wp2_with (fail)
            refine (val_ok cb a len cap _ (k21.lt WW.out) (k21.code WW.out) k21.cur).mono ?_
            rintro e w22 ⟨x22, y22, rfl, v22, c22, g22⟩
            have k22 := k21.kept WW.out g22 c22
            clear k21 g22 c22
            (try dsimp only)
            go_wp2_with ((with_reducible apply list_put_ys [x22, y22] 17); exact rfl; exact rfl; exact rfl; exact rfl; exact val_size2; (simp); exact WW.out; exact k22; intro u22 m22; simp only [World.size_alloc, Act.put, List.setIfInBounds_toArray, List.set_cons_succ, List.set_cons_zero])
            clear k22
            have V18 := Lib.hid (FOk.val V17.out 17 3 (by omega) (by omega) v22)
            refine (val_ok cb a len cap _ (m22.lt WW.out) (m22.code WW.out) m22.cur).mono ?_
            rintro e w23 ⟨x23, y23, rfl, v23, c23, g23⟩
            have k23 := m22.kept WW.out g23 c23
            clear m22 g23 c23
            (try dsimp only)
            go_wp2_with ((with_reducible apply list_put_ys [x23, y23] 21); exact rfl; exact rfl; exact rfl; exact rfl; exact val_size2; (simp); exact WW.out; exact k23; intro u23 m23; simp only [World.size_alloc, Act.put, List.setIfInBounds_toArray, List.set_cons_succ, List.set_cons_zero])
            clear k23
            have V19 := Lib.hid (FOk.val V18.out 21 5 (by omega) (by omega) v23)
            go_meet
            case rel => exact ⟨_, m23, V19.out⟩
        case rest =>
          clear k21
          obtain ⟨f24, k24, hv24⟩ := hcut
          have V20 := Lib.hid hv24
          clear hv24
          (try dsimp only)
          go_wp2_with (fail)
          refine (once_any 4 cb a len cap _ (by omega) (by omega) k24.cur).mono ?_
          rintro e w25 ⟨t25, rfl, c25, g25⟩
          have k25 := k24.kept WW.out g25 c25
          clear k24 g25 c25
          (try dsimp only)
          go_upto_if 70 with (fail)
          go_cut [] from 70 to 76 (fun wx => YEV w cb a len cap gr gs wx)
          case first =>
            cases t25
            · go_wp2_with (fail)
              go_meet
              case rel => exact ⟨_, k25, V20.out⟩
            ·
              (try dsimp only)
              go_wp2_with (fail)
              refine (val_ok cb a len cap _ (k25.lt WW.out) (k25.code WW.out) k25.cur).mono ?_
              rintro e w26 ⟨x26, y26, rfl, v26, c26, g26⟩
              have k26 := k25.kept WW.out g26 c26
              clear k25 g26 c26
              (try dsimp only)
              go_wp2_with ((with_reducible apply list_put_ys [x26, y26] 19); exact rfl; exact rfl; exact rfl; exact rfl; exact val_size2; (simp); exact WW.out; exact k26; intro u26 m26; simp only [World.size_alloc, Act.put, List.setIfInBounds_toArray, List.set_cons_succ, List.set_cons_zero])
              clear k26
              have V21 := Lib.hid (FOk.val V20.out 19 4 (by omega) (by omega) v26)
              refine (val_ok cb a len cap _ (m26.lt WW.out) (m26.code WW.out) m26.cur).mono ?_
              rintro e w27 ⟨x27, y27, rfl, v27, c27, g27⟩
              have k27 := m26.kept WW.out g27 c27
              clear m26 g27 c27
              (try dsimp only)
              go_wp2_with ((with_reducible apply list_put_ys [x27, y27] 23); exact rfl; exact rfl; exact rfl; exact rfl; exact val_size2; (simp); exact WW.out; exact k27; intro u27 m27; simp only [World.size_alloc, Act.put, List.setIfInBounds_toArray, List.set_cons_succ, List.set_cons_zero])
              clear k27
              have V22 := Lib.hid (FOk.val V21.out 23 6 (by omega) (by omega) v27)
              go_meet
              case rel => exact ⟨_, m27, V22.out⟩
          case rest =>
            clear k25
            obtain ⟨f28, k28, hv28⟩ := hcut
            have V23 := Lib.hid hv28
            clear hv28
            (try dsimp only)
            go_wp2_with (fail)
            refine (once_any 8 cb a len cap _ (by omega) (by omega) k28.cur).mono ?_
            rintro e w29 ⟨t29, rfl, c29, g29⟩
            have k29 := k28.kept WW.out g29 c29
            clear k28 g29 c29
            (try dsimp only)
            go_upto_if 78 with (fail)
            go_cut [] from 78 to 82 (fun wx => YEV w cb a len cap gr gs wx)
            case first =>
              cases t29
              · go_wp2_with (fail)
                go_meet
                case rel => exact ⟨_, k29, V23.out⟩
              ·
                (try dsimp only)
                go_wp2_with (fail)
                refine (pick_r 0 6400 (by decide) (by decide) [64, 32, 128, 100, 1, 6400] 6 rfl (by omega) (by omega) (by decide) cb a len cap _ (k29.lt WW.out) k29.cur).mono ?_
                rintro e w30 ⟨x30, rfl, p30, q30, c30, g30⟩
                have k30 := k29.kept WW.out g30 c30
                clear k29 g30 c30
                have z30 := sty_cell k30.here 25 (by decide)
                have F30 := sty_free k30.here 25
                (try dsimp only)
                go_wp2_with (fail)
                have m30 := k30.store WW.out 25 x30 (.int .i64 x30) (by decide) (sCell_int _ (by decide))
                clear k30 z30 F30
                have V24 := Lib.hid (FOk.set V23.out 25 x30 (by unfold singleS; omega) (by simp [loS, hiS] <;> omega))
                go_meet
                case rel => exact ⟨_, m30, V24.out⟩
            case rest =>
              clear k29
              obtain ⟨f31, k31, hv31⟩ := hcut
              have V25 := Lib.hid hv31
              clear hv31
              (try dsimp only)
              go_wp2_with (fail)
              refine (once_any 3 cb a len cap _ (by omega) (by omega) k31.cur).mono ?_
              rintro e w32 ⟨t32, rfl, c32, g32⟩
              have k32 := k31.kept WW.out g32 c32
              clear k31 g32 c32
              (try dsimp only)
              go_upto_if 84 with (fail)
              go_cut [] from 84 to 87 (fun wx => YEV w cb a len cap gr gs wx)
              case first =>
                cases t32
                · go_wp2_with (fail)
                  go_meet
                  case rel => exact ⟨_, k32, V25.out⟩
                ·
                  (try dsimp only)
                  go_wp2_with (fail)
                  refine (sides_ok cb a len cap _ (k32.lt WW.out) (k32.code WW.out) k32.cur).mono ?_
                  rintro e w33 ⟨x33_0, x33_1, x33_2, x33_3, x33_4, x33_5, x33_6, x33_7, x33_8, x33_9, x33_10, x33_11, rfl, s33_0, s33_1, s33_2, s33_3, s33_4, s33_5, c33, g33⟩
                  have k33 := k32.kept WW.out g33 c33
                  clear k32 g33 c33
                  (try dsimp only)
                  go_wp2_with ((with_reducible apply list_put_ys [x33_0, x33_1, x33_2, x33_3, x33_4, x33_5, x33_6, x33_7, x33_8, x33_9, x33_10, x33_11] 26); exact rfl; exact rfl; exact rfl; exact rfl; exact sid_size12; (simp); exact WW.out; exact k33; intro u33 m33; simp only [World.size_alloc, Act.put, List.setIfInBounds_toArray, List.set_cons_succ, List.set_cons_zero])
                  clear k33
                  have V26 := Lib.hid (FOk.sid V25.out 26 0 (by omega) (by omega) rfl (sok12 s33_0 s33_1 s33_2 s33_3 s33_4 s33_5))
                  go_meet
                  case rel => exact ⟨_, m33, V26.out⟩
              case rest =>
                clear k32
                obtain ⟨f34, k34, hv34⟩ := hcut
                have V27 := Lib.hid hv34
                clear hv34
                (try dsimp only)
                go_wp2_with (fail)
                refine (once_any 4 cb a len cap _ (by omega) (by omega) k34.cur).mono ?_
                rintro e w35 ⟨t35, rfl, c35, g35⟩
                have k35 := k34.kept WW.out g35 c35
                clear k34 g35 c35
                (try dsimp only)
                go_upto_if 89 with (fail)
                go_cut [] from 89 to 92 (fun wx => YEV w cb a len cap gr gs wx)
                case first =>
                  cases t35
                  · go_wp2_with (fail)
                    go_meet
                    case rel => exact ⟨_, k35, V27.out⟩
                  ·
                    (try dsimp only)
                    go_wp2_with (fail)
                    refine (sides_ok cb a len cap _ (k35.lt WW.out) (k35.code WW.out) k35.cur).mono ?_
                    rintro e w36 ⟨x36_0, x36_1, x36_2, x36_3, x36_4, x36_5, x36_6, x36_7, x36_8, x36_9, x36_10, x36_11, rfl, s36_0, s36_1, s36_2, s36_3, s36_4, s36_5, c36, g36⟩
                    have k36 := k35.kept WW.out g36 c36
                    clear k35 g36 c36
                    (try dsimp only)
                    go_wp2_with ((with_reducible apply list_put_ys [x36_0, x36_1, x36_2, x36_3, x36_4, x36_5, x36_6, x36_7, x36_8, x36_9, x36_10, x36_11] 38); exact rfl; exact rfl; exact rfl; exact rfl; exact sid_size12; (simp); exact WW.out; exact k36; intro u36 m36; simp only [World.size_alloc, Act.put, List.setIfInBounds_toArray, List.set_cons_succ, List.set_cons_zero])
                    clear k36
                    have V28 := Lib.hid (FOk.sid V27.out 38 6 (by omega) (by omega) rfl (sok12 s36_0 s36_1 s36_2 s36_3 s36_4 s36_5))
                    go_meet
                    case rel => exact ⟨_, m36, V28.out⟩
                case rest =>
                  clear k35
                  obtain ⟨f37, k37, hv37⟩ := hcut
                  have V29 := Lib.hid hv37
                  clear hv37
                  (try dsimp only)
                  go_wp2_with (fail)
                  refine (once_any 4 cb a len cap _ (by omega) (by omega) k37.cur).mono ?_
                  rintro e w38 ⟨t38, rfl, c38, g38⟩
                  have k38 := k37.kept WW.out g38 c38
                  clear k37 g38 c38
                  (try dsimp only)
                  go_upto_if 94 with (fail)
                  go_cut [] from 94 to 100 (fun wx => YEV w cb a len cap gr gs wx)
                  case first =>
                    cases t38
                    · go_wp2_with (fail)
                      go_meet
                      case rel => exact ⟨_, k38, V29.out⟩
                    ·
                      (try dsimp only)
                      go_wp2_with (fail)
                      refine (edges_ok cb a len cap _ (k38.lt WW.out) (k38.code WW.out) k38.cur).mono ?_
                      rintro e w39 ⟨x39_0, x39_1, x39_2, x39_3, rfl, s39_0, s39_1, s39_2, s39_3, c39, g39⟩
                      have k39 := k38.kept WW.out g39 c39
                      clear k38 g39 c39
                      (try dsimp only)
                      go_wp2_with ((with_reducible apply list_put_ys [x39_0, x39_1, x39_2, x39_3] 50); exact rfl; exact rfl; exact rfl; exact rfl; exact edg_size4; (simp); exact WW.out; exact k39; intro u39 m39; simp only [World.size_alloc, Act.put, List.setIfInBounds_toArray, List.set_cons_succ, List.set_cons_zero])
                      clear k39
                      have V30 := Lib.hid (FOk.edg V29.out 50 (by omega) s39_0 s39_1 s39_2 s39_3)
                      refine (edges_ok cb a len cap _ (m39.lt WW.out) (m39.code WW.out) m39.cur).mono ?_
                      rintro e w40 ⟨x40_0, x40_1, x40_2, x40_3, rfl, s40_0, s40_1, s40_2, s40_3, c40, g40⟩
                      have k40 := m39.kept WW.out g40 c40
                      clear m39 g40 c40
                      (try dsimp only)
                      go_wp2_with ((with_reducible apply list_put_ys [x40_0, x40_1, x40_2, x40_3] 54); exact rfl; exact rfl; exact rfl; exact rfl; exact edg_size4; (simp); exact WW.out; exact k40; intro u40 m40; simp only [World.size_alloc, Act.put, List.setIfInBounds_toArray, List.set_cons_succ, List.set_cons_zero])
                      clear k40
                      have V31 := Lib.hid (FOk.edg V30.out 54 (by omega) s40_0 s40_1 s40_2 s40_3)
                      go_meet
                      case rel => exact ⟨_, m40, V31.out⟩
                  case rest =>
                    clear k38
                    obtain ⟨f41, k41, hv41⟩ := hcut
                    have V32 := Lib.hid hv41
                    clear hv41
                    (try dsimp only)
                    go_wp2_with (fail)
                    refine (once_any 4 cb a len cap _ (by omega) (by omega) k41.cur).mono ?_
                    rintro e w42 ⟨t42, rfl, c42, g42⟩
                    have k42 := k41.kept WW.out g42 c42
                    clear k41 g42 c42
                    (try dsimp only)
                    go_upto_if 102 with (fail)
                    go_cut [] from 102 to 108 (fun wx => YEV w cb a len cap gr gs wx)
                    case first =>
                      cases t42
                      · go_wp2_with (fail)
                        go_meet
                        case rel => exact ⟨_, k42, V32.out⟩
                      ·
                        (try dsimp only)
                        go_wp2_with (fail)
                        refine (below_pos 100 cb a len cap _ (by omega) (by omega) k42.cur).mono ?_
                        rintro e w43 ⟨x43, rfl, p43, q43, c43, g43, _⟩
                        have k43 := k42.kept WW.out g43 c43
                        clear k42 g43 c43
                        have z43 := sty_cell k43.here 58 (by decide)
                        have F43 := sty_free k43.here 58
                        (try dsimp only)
                        go_wp2_with (fail)
                        have m43 := k43.store WW.out 58 x43 (.int .i64 x43) (by decide) (sCell_int _ (by decide))
                        clear k43 z43 F43
                        have V33 := Lib.hid (FOk.set V32.out 58 x43 (by unfold singleS; omega) (by simp [loS, hiS] <;> omega))
                        refine (below_pos 100 cb a len cap _ (by omega) (by omega) m43.cur).mono ?_
                        rintro e w44 ⟨x44, rfl, p44, q44, c44, g44, _⟩
                        have k44 := m43.kept WW.out g44 c44
                        clear m43 g44 c44
                        have z44 := sty_cell k44.here 59 (by decide)
                        have F44 := sty_free k44.here 59
                        (try dsimp only)
                        go_wp2_with (fail)
                        have m44 := k44.store WW.out 59 x44 (.int .i64 x44) (by decide) (sCell_int _ (by decide))
                        clear k44 z44 F44
                        have V34 := Lib.hid (FOk.set V33.out 59 x44 (by unfold singleS; omega) (by simp [loS, hiS] <;> omega))
                        go_meet
                        case rel => exact ⟨_, m44, V34.out⟩
                    case rest =>
                      clear k42
                      obtain ⟨f45, k45, hv45⟩ := hcut
                      have V35 := Lib.hid hv45
                      clear hv45
                      have h9 := Lib.hid (setRow_heap _ _ _ (sCells f45) _ _ k45.res)
                      have q9 := k45.fin WW.out
                      (try dsimp only)
                      go_wp2_with (first | ((with_reducible apply list_load_sty); exact rfl; exact rfl; exact rfl; (with_reducible exact k45.here); simp only [World.size_alloc, Act.put, List.setIfInBounds_toArray, List.set_cons_succ, List.set_cons_zero]) | ((with_reducible apply list_store_sty); exact rfl; exact rfl; exact rfl; exact rfl; (with_reducible exact k45.res); simp only [World.size_alloc, Act.put, List.setIfInBounds_toArray, List.set_cons_succ, List.set_cons_zero]))
                      exact bodyPost_ret (results_sty rfl rfl h9.out) rfl ⟨_, rfl, V35.out, q9.1, q9.2⟩
end Go.Proofs.Ytckpjldenkjddaa
end

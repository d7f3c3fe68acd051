/-
  The drawing of a Side (spec.l17Side, spec.l17Any): its numbers are in range; it turns nothing but its cursor. Conditions: those of the cursor.
-/
import Derived.Test.YtdpibpelghnihaaPkR
import Derived.Test.YtdpibpelghnihaaNewC
import Derived.Test.YtdpibpelghnihaaOnce
import Derived.Test.YtdpibpelghnihaaSaM
import Derived.Test.YtdpibpelghnihaaOpen
import Derived.Test.YtdpibpelghnihaaL02
import Derived.Deep.CutRange
import Derived.Deep.CutBlock
namespace Go.Proofs.Ytdpibpelghnihaa
open Go.ChangeShapes Go.WideShapes Go.ChangeAt Go.RowKit
set_option linter.unusedVariables false
set_option linter.unusedSimpArgs false
set_option maxRecDepth 20000

/-- A Side as spec.l17Side draws it. -/
structure Sa.Dr (x : Sa) : Prop where
  size : 0 ≤ x.size ∧ x.size ≤ 800
  before : -10 ≤ x.before ∧ x.before ≤ 33
  behind : -10 ≤ x.behind ∧ x.behind ≤ 33
  al : 1 ≤ x.al ∧ x.al ≤ 5
  base : 0 ≤ x.base ∧ x.base ≤ 800
theorem Sa.Dr.inr {x : Sa} (h : x.Dr) : x.inr := by
  obtain ⟨h0, h1, h2, h3, h4⟩ := h
  simp only [Sa.inr, I64]; omega
/-- Where a draw's own blocks lie. -/
structure SaDw (w : World) (cb : Nat) (a : Option Addr) (len gr gs : Nat) : Prop where
  ltc : cb < w.heap.size
  ger : w.heap.size ≤ gr
  ges : w.heap.size ≤ gs
  ne : gr ≠ gs
  code : 0 < len → ∀ b off, a = some ⟨b, off, none⟩ → b < w.heap.size
/-- What stands while an item is drawn. -/
structure SaS (w : World) (cb : Nat) (a : Option Addr) (len cap gr gs : Nat) (x : Sa) (wr : World) : Prop where
  here : wr.heap[gs]? = some (.cells x.A 25)
  res : wr.heap[gr]? = some (.cells Sa0.A 25)
  cur : Cur cb a len cap wr
  gro : w.grownBy wr (some cb)
section
variable {w wr w' : World} {cb : Nat} {a : Option Addr} {len cap gr gs : Nat} {x : Sa}
theorem SaS.kept (h : SaS w cb a len cap gr gs x wr) (W : SaDw w cb a len gr gs) (g : wr.grownBy w' (some cb)) (c : Cur cb a len cap w') : SaS w cb a len cap gr gs x w' :=
  ⟨blk_kept h.here g (by have := W.ltc; have := W.ges; omega), blk_kept h.res g (by have := W.ltc; have := W.ger; omega), c, gr_trans h.gro g⟩
theorem SaS.lt (h : SaS w cb a len cap gr gs x wr) (W : SaDw w cb a len gr gs) : cb < wr.heap.size := Nat.lt_of_lt_of_le W.ltc h.gro.size
theorem SaS.put (h : SaS w cb a len cap gr gs x wr) (W : SaDw w cb a len gr gs) (k : Nat) (v : Value) (x' : Sa) (e : x.A.setIfInBounds k v = x'.A) : SaS w cb a len cap gr gs x' (wr.setCell ⟨gs, k, none⟩ v) :=
  ⟨by rw [Go.Joins.block_setCell h.here v, e], hp_set h.res W.ne k v, h.cur.stored (h.lt W) (by have := W.ltc; have := W.ges; omega) (fun h0 b off e => by have := W.code h0 b off e; have := W.ges; omega) _, gr_store h.gro W.ges⟩
theorem SaS.spot (h : SaS w cb a len cap gr gs x wr) (k : Nat) (hk : k < 7) : (∃ q, wr.cell? ⟨gs, k, none⟩ = some q) ∧ wr.frozen? ⟨gs, k, none⟩ = false :=
  ⟨⟨_, (Go.Joins.cell_of_block h.here k).trans (Array.getElem?_eq_getElem (by rw [Sa.A_size]; exact hk))⟩, Go.Joins.unfrozen_of_block h.here k⟩
theorem cur_cellsA (W : SaDw w cb a len gr gs) (hg : w.grownBy wr (some cb)) : ∀ (vs : List Value) (o : Nat) (wr : World), w.grownBy wr (some cb) → Cur cb a len cap wr → Cur cb a len cap (wr.setCells gr o vs) ∧ w.grownBy (wr.setCells gr o vs) (some cb)
  | [], _, _, g, c => ⟨c, g⟩
  | v :: vs, o, wr, g, c => cur_cellsA W hg vs (o + 1) _ (gr_store g W.ger) (c.stored (Nat.lt_of_lt_of_le W.ltc g.size) (by have := W.ltc; have := W.ger; omega) (fun h0 b off e => by have := W.code h0 b off e; have := W.ger; omega) v)
theorem SaS.fin (h : SaS w cb a len cap gr gs x wr) (W : SaDw w cb a len gr gs) : Cur cb a len cap (wr.setCells gr 0 x.L) ∧ w.grownBy (wr.setCells gr 0 x.L) (some cb) := cur_cellsA W h.gro x.L 0 wr h.gro h.cur
theorem SaS.end' (h : SaS w cb a len cap gr gs x wr) : (wr.setCells gr 0 x.L).heap[gr]? = some (.cells x.A 25) := by
  have := hp_puts x.L 0 _ _ h.res
  rw [putA_all _ _ (by rw [Sa.A_size, Sa.L_len])] at this
  exact this
end
theorem results_saA {fn : Func} {p : Tmp} (h : fn.results = #[.cell p 25]) {tmps : Array Value} {w : World} {g : Nat} {t : TypeId} {x : Sa} (hp : tmps.getD p undef = .pointer (some ⟨g, 0, none⟩)) (hg : w.heap[g]? = some (.cells x.A t)) :
    (results fn tmps).run Try.prog w = .ok (.agg x.A) w := results_cell_row h tmps w g t _ _ _ hp hg sa_under rfl (sa_sizeA x)

/-- What the draw of a Side leaves; of any Side. -/
def SaPost (cb : Nat) (a : Option Addr) (len cap : Nat) (w : World) (e : Ending) (w' : World) : Prop :=
  ∃ x : Sa, e = .returned (.agg #[.int .i64 x.size, .int .i64 x.before, .int .i64 x.behind, .bool x.ab, .bool x.ah, .int .i64 x.al, .int .i64 x.base]) ∧ x.Dr ∧ Cur cb a len cap w' ∧ w.grownBy w' (some cb)
def SaAny (cb : Nat) (a : Option Addr) (len cap : Nat) (w : World) (e : Ending) (w' : World) : Prop :=
  ∃ x : Sa, e = .returned (.agg #[.int .i64 x.size, .int .i64 x.before, .int .i64 x.behind, .bool x.ab, .bool x.ah, .int .i64 x.al, .int .i64 x.base]) ∧ x.inr ∧ Cur cb a len cap w' ∧ w.grownBy w' (some cb)
def SaEx (w : World) (cb : Nat) (a : Option Addr) (len cap gr gs : Nat) (wr : World) : Prop := ∃ x, SaS w cb a len cap gr gs x wr ∧ x.Dr
def SaEy (w : World) (cb : Nat) (a : Option Addr) (len cap gr gs : Nat) (wr : World) : Prop := ∃ x, SaS w cb a len cap gr gs x wr ∧ x.inr
set_option maxHeartbeats 4000000 in
theorem drawsa (cb : Nat) (a : Option Addr) (len cap : Nat) (w : World) (hcb : cb < w.heap.size) (hlt : 0 < len → ∀ b off, a = some ⟨b, off, none⟩ → b < w.heap.size) (hc : Cur cb a len cap w) :
    Calls Try.prog 43 #[.pointer (some ⟨cb, 0, none⟩)] w (SaPost cb a len cap w) := by
  have hr0 := hp_new w (.cells Sa0.A 25)
  have g0 := gr_new w (.cells Sa0.A 25) cb
  have c0 := hc.kept hcb (World.grownBy_alloc w (.cells Sa0.A 25) none) (fun k hk => by cases hk)
  have l0 : w.heap.size < (w.alloc (.cells Sa0.A 25)).heap.size := by simp
  obtain ⟨u, eu⟩ : ∃ u, u = w.alloc (.cells Sa0.A 25) := ⟨_, rfl⟩
  rw [← eu] at hr0 g0 c0 l0
  have EU := Lib.hid (show u = w.alloc (.cells #[.int .i64 0, .int .i64 0, .int .i64 0, .bool false, .bool false, .int .i64 0, .int .i64 0] 25) from eu)
  clear eu
  have hcu : cb < u.heap.size := by omega
  go_enter Try.func43, Try.ntmps43
  go_wp2_with (rw [← EU.out])
  clear EU
  refine (below_pos 800 cb a len cap u (by omega) (by omega) c0).mono ?_
  rintro e w1 ⟨y, rfl, y0, y1, c1, g1, s1⟩
  clear s1
  have G1 := gr_trans g0 g1
  have R1 := blk_kept hr0 g1 (by omega)
  have L1 : w.heap.size < w1.heap.size := by have := g1.size; omega
  clear hr0 g0 c0 g1 hc
  (try dsimp only)
  go_wp2_with (fail)
  refine (pick_r 0 800 (by omega) (by omega) [0, 64, 100, 33, y] 5 rfl (by omega) (by omega) (by intro z hz; simp at hz; omega) cb a len cap w1 (by omega) c1).mono ?_
  rintro e w2 ⟨b0, rfl, p0, q0, c2, g2⟩
  have G2 := gr_trans G1 g2
  have R2 := blk_kept R1 g2 (by omega)
  have L2 : w.heap.size < w2.heap.size := by have := g2.size; omega
  clear R1 G1 L1 g2 c1
  (try dsimp only)
  go_wp2_with (fail)
  refine (below_pos 5 cb a len cap w2 (by omega) (by omega) c2).mono ?_
  rintro e w3 ⟨a0, rfl, a1, a2, c3, g3, s3⟩
  clear s3
  have G3 := gr_trans G2 g3
  have R3 := blk_kept R2 g3 (by omega)
  have L3 : w.heap.size < w3.heap.size := by have := g3.size; omega
  clear R2 G2 L2 g3 c2
  obtain ⟨v, ev⟩ : ∃ v, v = w3.alloc (.cells #[.int .i64 b0, .int .i64 0, .int .i64 0, .bool false, .bool false, .int .i64 (1 + a0), .int .i64 0] 25) := ⟨_, rfl⟩
  obtain ⟨gs, egs⟩ : ∃ q, q = w3.heap.size := ⟨_, rfl⟩
  obtain ⟨gr, hgr⟩ : ∃ gr, gr = w.heap.size := ⟨_, rfl⟩
  have WW := Lib.hid (show SaDw w cb a len gr gs from ⟨hcb, by omega, by omega, by omega, hlt⟩)
  have k0 : SaS w cb a len cap gr gs ⟨b0, 0, 0, false, false, 1 + a0, 0⟩ v := by
    rw [ev, egs, hgr]
    exact ⟨hp_new w3 _, hp_on R3 _, c3.kept (by omega) (World.grownBy_alloc w3 _ none) (fun k hk => by cases hk), gr_trans G3 (gr_new w3 _ cb)⟩
  have V0 := Lib.hid (show Sa.Dr ⟨b0, 0, 0, false, false, 1 + a0, 0⟩ from ⟨⟨by simp; omega, by simp; omega⟩, by simp, by simp, ⟨by simp; omega, by simp; omega⟩, by simp⟩)
  have EV := Lib.hid ev
  have EGS := Lib.hid egs
  clear ev R3 G3 L3 c3 egs
  (try dsimp only)
  go_wp2_with (rw [← EV.out])
  rw [← EGS.out, ← hgr]
  clear EV EGS hgr hlt
  (try dsimp only)
  go_wp2_with (fail)
  refine (once_any 2 cb a len cap _ (by omega) (by omega) k0.cur).mono ?_
  rintro e w21 ⟨t1, rfl, c1, g1⟩
  have k1 := k0.kept WW.out g1 c1
  clear k0 g1 c1
  (try dsimp only)
  go_upto_if 14 with (fail)
  go_cut [] from 14 to 22 (fun wx => SaEx w cb a len cap gr gs wx)
  case first =>
    cases t1
    · go_wp2_with (fail)
      go_meet
      case rel => exact ⟨_, k1, V0.out⟩
    ·
      (try dsimp only)
      go_wp2_with (fail)
      refine (pick_r (-10) 33 (by omega) (by omega) [0, 10, 33, -10] 4 rfl (by omega) (by omega) (by intro z hz; simp at hz; omega) cb a len cap _ (k1.lt WW.out) k1.cur).mono ?_
      rintro e w22 ⟨x2, rfl, p2, q2, c2, g2⟩
      have k2 := k1.kept WW.out g2 c2
      clear k1 g2 c2
      obtain ⟨⟨z2, d2⟩, f2⟩ := k2.spot 1 (by decide)
      have m2 := k2.put WW.out 1 (.int .i64 x2) (⟨b0, x2, 0, false, false, 1 + a0, 0⟩ : Sa) (by simp [Sa.A])
      obtain ⟨u2, eu2⟩ : ∃ q, q = w22.setCell ⟨gs, 1, none⟩ (.int .i64 x2) := ⟨_, rfl⟩
      rw [← eu2] at m2
      have EU2 := Lib.hid eu2
      clear eu2 k2
      have V2_ := Lib.hid (show Sa.Dr (⟨b0, x2, 0, false, false, 1 + a0, 0⟩ : Sa) from ⟨V0.out.size, ⟨by show _ ≤ x2; omega, by show x2 ≤ _; omega⟩, V0.out.behind, V0.out.al, V0.out.base⟩)
      (try dsimp only)
      go_wp2_with (rw [← EU2.out])
      clear d2 f2 EU2
      refine (pick_r (-10) 33 (by omega) (by omega) [0, 10, 33, -10] 4 rfl (by omega) (by omega) (by intro z hz; simp at hz; omega) cb a len cap _ (m2.lt WW.out) m2.cur).mono ?_
      rintro e w23 ⟨x3, rfl, p3, q3, c3, g3⟩
      have k3 := m2.kept WW.out g3 c3
      clear m2 g3 c3
      obtain ⟨⟨z3, d3⟩, f3⟩ := k3.spot 2 (by decide)
      have m3 := k3.put WW.out 2 (.int .i64 x3) (⟨b0, x2, x3, false, false, 1 + a0, 0⟩ : Sa) (by simp [Sa.A])
      obtain ⟨u3, eu3⟩ : ∃ q, q = w23.setCell ⟨gs, 2, none⟩ (.int .i64 x3) := ⟨_, rfl⟩
      rw [← eu3] at m3
      have EU3 := Lib.hid eu3
      clear eu3 k3
      have V3_ := Lib.hid (show Sa.Dr (⟨b0, x2, x3, false, false, 1 + a0, 0⟩ : Sa) from ⟨V2_.out.size, V2_.out.before, ⟨by show _ ≤ x3; omega, by show x3 ≤ _; omega⟩, V2_.out.al, V2_.out.base⟩)
      (try dsimp only)
      go_wp2_with (rw [← EU3.out])
      clear d3 f3 EU3
      go_meet
      case rel => exact ⟨_, m3, V3_.out⟩
  case rest =>
    clear k1
    obtain ⟨y4, k4, hv4⟩ := hcut
    have V4 := Lib.hid hv4
    clear hv4
    (try dsimp only)
    go_wp2_with (fail)
    refine (once_any 8 cb a len cap _ (by omega) (by omega) k4.cur).mono ?_
    rintro e w25 ⟨t5, rfl, c5, g5⟩
    have k5 := k4.kept WW.out g5 c5
    clear k4 g5 c5
    obtain ⟨⟨z5, d5⟩, f5⟩ := k5.spot 3 (by decide)
    have m5 := k5.put WW.out 3 (.bool t5) (⟨y4.size, y4.before, y4.behind, t5, y4.ah, y4.al, y4.base⟩ : Sa) (by simp [Sa.A])
    obtain ⟨u5, eu5⟩ : ∃ q, q = w25.setCell ⟨gs, 3, none⟩ (.bool t5) := ⟨_, rfl⟩
    rw [← eu5] at m5
    have EU5 := Lib.hid eu5
    clear eu5 k5
    have V5_ := Lib.hid (show Sa.Dr (⟨y4.size, y4.before, y4.behind, t5, y4.ah, y4.al, y4.base⟩ : Sa) from ⟨V4.out.size, V4.out.before, V4.out.behind, V4.out.al, V4.out.base⟩)
    (try dsimp only)
    go_wp2_with (rw [← EU5.out])
    clear d5 f5 EU5
    refine (once_any 8 cb a len cap _ (by omega) (by omega) m5.cur).mono ?_
    rintro e w26 ⟨t6, rfl, c6, g6⟩
    have k6 := m5.kept WW.out g6 c6
    clear m5 g6 c6
    obtain ⟨⟨z6, d6⟩, f6⟩ := k6.spot 4 (by decide)
    have m6 := k6.put WW.out 4 (.bool t6) (⟨y4.size, y4.before, y4.behind, t5, t6, y4.al, y4.base⟩ : Sa) (by simp [Sa.A])
    obtain ⟨u6, eu6⟩ : ∃ q, q = w26.setCell ⟨gs, 4, none⟩ (.bool t6) := ⟨_, rfl⟩
    rw [← eu6] at m6
    have EU6 := Lib.hid eu6
    clear eu6 k6
    have V6_ := Lib.hid (show Sa.Dr (⟨y4.size, y4.before, y4.behind, t5, t6, y4.al, y4.base⟩ : Sa) from ⟨V5_.out.size, V5_.out.before, V5_.out.behind, V5_.out.al, V5_.out.base⟩)
    have cS := Go.Joins.cell_of_block m6.here 0
    have cT : u6.cell? ⟨gs, 0, none⟩ = some (.int .i64 y4.size) := cS
    clear cS
    have hsz := V6_.out.size
    (try simp only at hsz)
    (try dsimp only)
    go_wp2_with (rw [← EU6.out])
    clear d6 f6 EU6
    refine (below_pos (y4.size + 1) cb a len cap _ (by omega) (by omega) m6.cur).mono ?_
    rintro e w27 ⟨x7, rfl, p7, q7, c7, g7, s7⟩
    have k7 := m6.kept WW.out g7 c7
    clear m6 g7 c7
    clear s7 cT
    obtain ⟨⟨z7, d7⟩, f7⟩ := k7.spot 6 (by decide)
    have m7 := k7.put WW.out 6 (.int .i64 x7) (⟨y4.size, y4.before, y4.behind, t5, t6, y4.al, x7⟩ : Sa) (by simp [Sa.A])
    obtain ⟨u7, eu7⟩ : ∃ q, q = w27.setCell ⟨gs, 6, none⟩ (.int .i64 x7) := ⟨_, rfl⟩
    rw [← eu7] at m7
    have EU7 := Lib.hid eu7
    clear eu7 k7
    have V7_ := Lib.hid (show Sa.Dr (⟨y4.size, y4.before, y4.behind, t5, t6, y4.al, x7⟩ : Sa) from ⟨V6_.out.size, V6_.out.before, V6_.out.behind, V6_.out.al, ⟨by show _ ≤ x7; omega, by show x7 ≤ _; omega⟩⟩)
    have h9 := Lib.hid m7.end'
    have q9 := m7.fin WW.out
    have R9 := Lib.hid (show World.rangeAt _ gs 0 (⟨y4.size, y4.before, y4.behind, t5, t6, y4.al, x7⟩ : Sa).L from range_block m7.here)
    have T9 := Lib.hid (there_block m7.res 0 7 (by rw [Sa.A_size]; omega))
    clear m7
    (try dsimp only)
    go_wp2_with (first | (rw [← EU7.out]) | ((with_reducible apply list_load_sa (x := (⟨y4.size, y4.before, y4.behind, t5, t6, y4.al, x7⟩ : Sa))); exact rfl; exact rfl; exact rfl; (with_reducible exact R9.out); simp only [World.size_alloc, Act.put, List.setIfInBounds_toArray, List.set_cons_succ, List.set_cons_zero]) | ((with_reducible apply list_store_sa (x := (⟨y4.size, y4.before, y4.behind, t5, t6, y4.al, x7⟩ : Sa))); exact rfl; exact rfl; exact rfl; exact rfl; (with_reducible exact T9.out); simp only [World.size_alloc, Act.put, List.setIfInBounds_toArray, List.set_cons_succ, List.set_cons_zero]) | fail)
    exact bodyPost_ret (results_saA rfl rfl h9.out) rfl ⟨(⟨y4.size, y4.before, y4.behind, t5, t6, y4.al, x7⟩ : Sa), rfl, V7_.out, q9.1, q9.2⟩
set_option maxHeartbeats 4000000 in
theorem drawsany (cb : Nat) (a : Option Addr) (len cap : Nat) (w : World) (hcb : cb < w.heap.size) (hlt : 0 < len → ∀ b off, a = some ⟨b, off, none⟩ → b < w.heap.size) (hc : Cur cb a len cap w) :
    Calls Try.prog 30 #[.pointer (some ⟨cb, 0, none⟩)] w (SaAny cb a len cap w) := by
  have hr0 := hp_new w (.cells Sa0.A 25)
  have g0 := gr_new w (.cells Sa0.A 25) cb
  have c0 := hc.kept hcb (World.grownBy_alloc w (.cells Sa0.A 25) none) (fun k hk => by cases hk)
  have l0 : w.heap.size < (w.alloc (.cells Sa0.A 25)).heap.size := by simp
  obtain ⟨u, eu⟩ : ∃ u, u = w.alloc (.cells Sa0.A 25) := ⟨_, rfl⟩
  rw [← eu] at hr0 g0 c0 l0
  have EU := Lib.hid (show u = w.alloc (.cells #[.int .i64 0, .int .i64 0, .int .i64 0, .bool false, .bool false, .int .i64 0, .int .i64 0] 25) from eu)
  clear eu
  have hcu : cb < u.heap.size := by omega
  go_enter Try.func30, Try.ntmps30
  go_wp2_with (rw [← EU.out])
  clear EU
  refine (drawsa cb a len cap u hcu (fun h0 b off e => by have := hlt h0 b off e; omega) c0).mono ?_
  rintro e w1 ⟨x, rfl, hx, c1, g1⟩
  have G1 := gr_trans g0 g1
  have R1 := blk_kept hr0 g1 (by omega)
  have L1 : w.heap.size < w1.heap.size := by have := g1.size; omega
  clear hr0 g0 c0 g1 hc
  obtain ⟨v, ev⟩ : ∃ v, v = w1.alloc (.cells #[.int .i64 x.size, .int .i64 x.before, .int .i64 x.behind, .bool x.ab, .bool x.ah, .int .i64 x.al, .int .i64 x.base] 25) := ⟨_, rfl⟩
  obtain ⟨gs, egs⟩ : ∃ q, q = w1.heap.size := ⟨_, rfl⟩
  obtain ⟨gr, hgr⟩ : ∃ gr, gr = w.heap.size := ⟨_, rfl⟩
  have WW := Lib.hid (show SaDw w cb a len gr gs from ⟨hcb, by omega, by omega, by omega, hlt⟩)
  have k0 : SaS w cb a len cap gr gs x v := by
    rw [ev, egs, hgr]
    exact ⟨hp_new w1 _, hp_on R1 _, c1.kept (by omega) (World.grownBy_alloc w1 _ none) (fun k hk => by cases hk), gr_trans G1 (gr_new w1 _ cb)⟩
  have V0 := Lib.hid hx.inr
  have EV := Lib.hid ev
  have EGS := Lib.hid egs
  clear ev R1 G1 L1 c1 egs hx
  (try dsimp only)
  go_wp2_with (rw [← EV.out])
  rw [← EGS.out, ← hgr]
  clear EV EGS hgr hlt
  (try dsimp only)
  go_wp2_with (fail)
  refine (below_pos 16 cb a len cap _ (by omega) (by omega) k0.cur).mono ?_
  rintro e w21 ⟨j1, rfl, p1, q1, c1, g1, s1⟩
  have k1 := k0.kept WW.out g1 c1
  clear k0 g1 c1
  clear s1
  (try dsimp only)
  go_upto_block 0 with (fail)
  go_cut [] from 8 to 23 (fun wx => SaEy w cb a len cap gr gs wx)
  case first =>
    by_cases e0 : j1 = 0
    · subst e0
      (try dsimp only)
      go_wp2_with (fail)
      refine (l02_any cb a len cap _ (k1.lt WW.out) k1.cur).mono ?_
      rintro e w22 ⟨x2, rfl, p2, q2, c2, g2⟩
      have k2 := k1.kept WW.out g2 c2
      clear k1 g2 c2
      obtain ⟨⟨z2, d2⟩, f2⟩ := k2.spot 0 (by decide)
      have m2 := k2.put WW.out 0 (.int .i64 x2) (⟨x2, x.before, x.behind, x.ab, x.ah, x.al, x.base⟩ : Sa) (by simp [Sa.A])
      obtain ⟨u2, eu2⟩ : ∃ q, q = w22.setCell ⟨gs, 0, none⟩ (.int .i64 x2) := ⟨_, rfl⟩
      rw [← eu2] at m2
      have EU2 := Lib.hid eu2
      clear eu2 k2
      have V2_ := Lib.hid (show Sa.inr (⟨x2, x.before, x.behind, x.ab, x.ah, x.al, x.base⟩ : Sa) from (by have := V0.out; simp only [Sa.inr, I64] at this ⊢; omega))
      (try dsimp only)
      go_wp2_with (rw [← EU2.out])
      clear d2 f2 EU2
      go_meet
      case rel => exact ⟨_, m2, V2_.out⟩
    by_cases e1 : j1 = 1
    · subst e1
      (try dsimp only)
      go_wp2_with (fail)
      refine (below_pos 8 cb a len cap _ (by omega) (by omega) k1.cur).mono ?_
      rintro e w22 ⟨x2, rfl, p2, q2, c2, g2, s2⟩
      have k2 := k1.kept WW.out g2 c2
      clear k1 g2 c2
      clear s2
      obtain ⟨⟨z2, d2⟩, f2⟩ := k2.spot 5 (by decide)
      have m2 := k2.put WW.out 5 (.int .i64 (x2 - 1)) (⟨x.size, x.before, x.behind, x.ab, x.ah, x2 - 1, x.base⟩ : Sa) (by simp [Sa.A])
      obtain ⟨u2, eu2⟩ : ∃ q, q = w22.setCell ⟨gs, 5, none⟩ (.int .i64 (x2 - 1)) := ⟨_, rfl⟩
      rw [← eu2] at m2
      have EU2 := Lib.hid eu2
      clear eu2 k2
      have V2_ := Lib.hid (show Sa.inr (⟨x.size, x.before, x.behind, x.ab, x.ah, x2 - 1, x.base⟩ : Sa) from (by have := V0.out; simp only [Sa.inr, I64] at this ⊢; omega))
      (try dsimp only)
      go_wp2_with (rw [← EU2.out])
      clear d2 f2 EU2
      go_meet
      case rel => exact ⟨_, m2, V2_.out⟩
    by_cases e2 : j1 = 2
    · subst e2
      (try dsimp only)
      go_wp2_with (fail)
      refine (l02_any cb a len cap _ (k1.lt WW.out) k1.cur).mono ?_
      rintro e w22 ⟨x2, rfl, p2, q2, c2, g2⟩
      have k2 := k1.kept WW.out g2 c2
      clear k1 g2 c2
      obtain ⟨⟨z2, d2⟩, f2⟩ := k2.spot 1 (by decide)
      have m2 := k2.put WW.out 1 (.int .i64 x2) (⟨x.size, x2, x.behind, x.ab, x.ah, x.al, x.base⟩ : Sa) (by simp [Sa.A])
      obtain ⟨u2, eu2⟩ : ∃ q, q = w22.setCell ⟨gs, 1, none⟩ (.int .i64 x2) := ⟨_, rfl⟩
      rw [← eu2] at m2
      have EU2 := Lib.hid eu2
      clear eu2 k2
      have V2_ := Lib.hid (show Sa.inr (⟨x.size, x2, x.behind, x.ab, x.ah, x.al, x.base⟩ : Sa) from (by have := V0.out; simp only [Sa.inr, I64] at this ⊢; omega))
      (try dsimp only)
      go_wp2_with (rw [← EU2.out])
      clear d2 f2 EU2
      go_meet
      case rel => exact ⟨_, m2, V2_.out⟩
    have n0 : (j1 == 0) = false := by simp [e0]
    have n1 : (j1 == 1) = false := by simp [e1]
    have n2 : (j1 == 2) = false := by simp [e2]
    go_wp2_with (fail)
    go_meet
    case rel => exact ⟨_, k1, V0.out⟩
  case rest =>
    clear k1
    obtain ⟨y, k50, hv⟩ := hcut
    have V50 := Lib.hid hv
    clear hv
    have h9 := Lib.hid k50.end'
    have q9 := k50.fin WW.out
    have R9 := Lib.hid (show World.rangeAt _ gs 0 (⟨y.size, y.before, y.behind, y.ab, y.ah, y.al, y.base⟩ : Sa).L from range_block k50.here)
    have T9 := Lib.hid (there_block k50.res 0 7 (by rw [Sa.A_size]; omega))
    clear k50
    (try dsimp only)
    go_wp2_with (first | (fail) | ((with_reducible apply list_load_sa (x := (⟨y.size, y.before, y.behind, y.ab, y.ah, y.al, y.base⟩ : Sa))); exact rfl; exact rfl; exact rfl; (with_reducible exact R9.out); simp only [World.size_alloc, Act.put, List.setIfInBounds_toArray, List.set_cons_succ, List.set_cons_zero]) | ((with_reducible apply list_store_sa (x := (⟨y.size, y.before, y.behind, y.ab, y.ah, y.al, y.base⟩ : Sa))); exact rfl; exact rfl; exact rfl; exact rfl; (with_reducible exact T9.out); simp only [World.size_alloc, Act.put, List.setIfInBounds_toArray, List.set_cons_succ, List.set_cons_zero]) | fail)
    exact bodyPost_ret (results_saA rfl rfl h9.out) rfl ⟨(⟨y.size, y.before, y.behind, y.ab, y.ah, y.al, y.base⟩ : Sa), rfl, V50.out, q9.1, q9.2⟩
end Go.Proofs.Ytdpibpelghnihaa

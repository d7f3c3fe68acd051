import Derived.OwnWalk
import Derived.Test.YtnncdpkmhpjmbaaZmAD
import Derived.Test.YtnncdpkmhpjmbaaZmAF
import Derived.Test.YtnncdpkmhpjmbaaZmAT
import Derived.Test.YtnncdpkmhpjmbaaZmAZ
import Derived.Test.YtnncdpkmhpjmbaaZmBJ
section
namespace Go.Proofs.Ytnncdpkmhpjmbaa
open Go.ChangeShapes Go.WideShapes Go.ChangeAt Go.RowKit
set_option linter.unusedVariables false
set_option linter.unusedSimpArgs false
set_option maxRecDepth 20000

theorem resultsD5 {fn : Func} {t u v x y : Tmp} (h : fn.results = #[.tmp t, .tmp u, .tmp v, .tmp x, .tmp y]) (tmps : Array Value) (P : Program) (w : World) :
    (results fn tmps).run P w = .ok (.tuple #[tmps.getD t undef, tmps.getD u undef, tmps.getD v undef, tmps.getD x undef, tmps.getD y undef]) w := by
  simp [results, h]
theorem gr_setD (w : World) (g j : Nat) (u : Value) : w.grownBy (w.setCell ⟨g, j, none⟩ u) (some g) :=
  ⟨rfl, rfl, rfl, by simp [World.setCell], fun i hi hn => Below.heap_setCell w ⟨g, j, none⟩ u i (by rintro rfl; exact hn rfl)⟩
theorem sjust (cb : Nat) (a : Option Addr) (len cap : Nat) (w : World) (hc : Cur cb a len cap w) :
    Calls Try.prog 71 #[.pointer (some ⟨cb, 0, none⟩)] w fun e w' => ∃ x : Int, e = .returned (.int .i64 x) ∧ 0 ≤ x ∧ x < 8 ∧ Cur cb a len cap w' ∧ w.grownBy w' (some cb) := by
  go_enter Try.func71, Try.ntmps71
  go_wp2_with (fail)
  refine (below_pos 8 cb a len cap w (by omega) (by omega) hc).mono ?_
  rintro e w1 ⟨x, rfl, x0, x1, c1, g1, s1⟩
  clear s1
  have C1 := Lib.hid c1
  have G1 := Lib.hid g1
  clear c1 g1
  go_wp2
  go_ret
  exact ⟨x, rfl, x0, by omega, C1.out, G1.out⟩
/-- A case: items, sizes, a gap, an inner length, a way to justify. -/
def LgPost (w : World) (e : Ending) (w' : World) : Prop :=
  ∃ (v : Value) (xs : List It) (u : Value) (zs : List Int) (gap inner js : Int), e = .returned (.tuple #[v, u, .int .i64 gap, .int .i64 inner, .int .i64 js]) ∧ xs.length ≤ 13 ∧ (∀ x ∈ xs, x.inr) ∧ RowT w.heap.size v xs w' ∧ AllI zs ∧ zs.length ≤ 14 ∧ RowI w.heap.size u zs w' ∧ (-1 ≤ gap ∧ gap ≤ 64) ∧ (-1 ≤ inner ∧ inner ≤ 8000) ∧ (0 ≤ js ∧ js < 8) ∧ Below w.heap.size w w'
theorem all_set {xs : List Int} {x : Int} {i : Nat} (h : AllI xs) (h0 : -9223372036854775808 ≤ x) (h1 : x ≤ 9223372036854775807) : AllI (xs.set i x) := by
  intro z hz
  rcases List.mem_or_eq_of_mem_set hz with h2 | h2
  · exact h z h2
  · rw [h2]; exact ⟨h0, h1⟩
def LgRel (cb : Nat) (a : Option Addr) (len cap : Nat) (w1 w4 : World) (uv : Value) (n : Nat) (va : Value) (xs : List It) (i : Value) (wr : World) : Prop :=
  ∃ (k : Nat) (zs : List Int), k ≤ n ∧ i = .int .i64 k ∧ zs.length = n ∧ AllI zs ∧ RowI w4.heap.size uv zs wr ∧ RowT w1.heap.size va xs wr ∧ Cur cb a len cap wr ∧ w1.grownBy wr (some cb)
set_option maxHeartbeats 4000000 in
theorem lgcase (a : Option Addr) (len cap : Nat) (w : World) (hl : len ≤ 1048576) (hc : Code w a len) :
    Calls Try.prog 52 #[.slice a len cap] w (LgPost w) := by
  obtain ⟨i0, hi, hz0, hz1, hz2⟩ := info_parts info_int
  go_enter Try.func52, Try.ntmps52
  go_wp2_with (fail)
  refine (new_cur a len cap w hl hc).mono ?_
  rintro e w1 ⟨rfl, c1, b1, l1⟩
  have hap : 0 < len → ∀ b off, a = some ⟨b, off, none⟩ → b < w1.heap.size := fun h0 b off e => Nat.lt_trans (code_lt hc h0 b off e) l1
  have HAP := Lib.hid hap
  clear hc
  obtain ⟨cb, ecb⟩ : ∃ q, q = w.heap.size := ⟨_, rfl⟩
  have hlo : w.heap.size ≤ cb := by omega
  rw [← ecb] at c1 ⊢
  have hcb1 : cb < w1.heap.size := by omega
  have HB1 := Lib.hid b1
  clear ecb b1
  (try dsimp only)
  go_wp2_with (fail)
  refine (drawany cb a len cap w1 hcb1 hap c1).mono ?_
  rintro e w2 ⟨va, xs, rfl, hxl, hx, hr, c2, g2⟩
  have HX := Lib.hid (fun x hm => (hx x hm).inr : ∀ x ∈ xs, x.inr)
  have hcb2 : cb < w2.heap.size := Nat.lt_of_lt_of_le hcb1 g2.size
  have HR := Lib.hid hr
  clear c1 hx hr hap
  (try dsimp only)
  go_wp2_with (fail)
  refine (pick_r (-1) 64 (by omega) (by omega) [0, 0, 10, 64, -1] 5 rfl (by omega) (by omega) (by intro z hz; simp at hz; omega) cb a len cap w2 hcb2 c2).mono ?_
  rintro e w3 ⟨gap, rfl, p0, q0, c3, g3⟩
  have G3 := gr_trans g2 g3
  have HR3 := Lib.hid (HR.out.cur g3 hcb1)
  have hcb3 : cb < w3.heap.size := Nat.lt_of_lt_of_le hcb2 g3.size
  clear HR c2 g3 g2
  (try dsimp only)
  go_wp2_with (fail)
  refine (pick_r (-1) 8000 (by omega) (by omega) [640, 1000, 3333, 8000, 0, -1] 6 rfl (by omega) (by omega) (by intro z hz; simp at hz; omega) cb a len cap w3 hcb3 c3).mono ?_
  rintro e w4 ⟨inner, rfl, p1, q1, c4, g4⟩
  have G4 := gr_trans G3 g4
  have hs14 := G4.size
  have HR4 := Lib.hid (HR3.out.cur g4 hcb1)
  have hcb4 : cb < w4.heap.size := Nat.lt_of_lt_of_le hcb3 g4.size
  clear HR3 c3 g4 G3
  have HVA := Lib.hid (World.ownsRow.lt HR4.out)
  obtain ⟨ax, cx, rfl, hz⟩ := HR4.out.slice HX.out
  have KF := Lib.hid (sflexline ax cx xs gap inner w4 hz (by omega))
  have hfl := fxV_len xs gap inner
  have HFA := Lib.hid (fxV_all gap inner HX.out)
  generalize (fxV xs gap inner).1 = FS at *
  have HFL := Lib.hid hfl
  clear hz hfl
  (try dsimp only)
  go_wp2_with (fail)
  refine KF.out.mono ?_
  rintro e w5 ⟨uv, rfl, r5, b5⟩
  obtain ⟨au, cu, rfl, hzu⟩ := r5.slice HFA.out
  have c5 := c4.bel hcb4 b5
  have G5 := gr_trans G4 (gr_bel b5 (some cb))
  have HR5 := Lib.hid (HR4.out.below b5)
  have R5 := Lib.hid r5
  have hcb5 : cb < w5.heap.size := Nat.lt_of_lt_of_le hcb4 b5.size
  have b5' := b5
  have G4' := G4
  clear KF r5 b5 c4 G4 HR4 hzu
  (try dsimp only)
  go_wp2_with (fail)
  refine (below_pos 6 cb a len cap w5 (by omega) (by omega) c5).mono ?_
  rintro e w6 ⟨x, rfl, x0, x1, c6, g6, s6⟩
  clear s6
  have G6 := gr_trans G5 g6
  have HR6 := Lib.hid (HR5.out.cur g6 hcb1)
  have R6 := Lib.hid (R5.out.cur g6 hcb4)
  have hcb6 : cb < w6.heap.size := Nat.lt_of_lt_of_le hcb5 g6.size
  have HLO := Lib.hid (show w.heap.size ≤ w1.heap.size by omega)
  have HLO4 := Lib.hid (show w.heap.size ≤ w4.heap.size by omega)
  have g46 := gr_trans (gr_bel b5' (some cb)) g6
  by_cases hx0 : x = 0
  · subst hx0
    have HAP4 := Lib.hid (show 0 < len → ∀ b off, a = some ⟨b, off, none⟩ → b < w4.heap.size from fun h0 b off e => Nat.lt_of_lt_of_le (HAP.out h0 b off e) hs14)
    have HS6 := Lib.hid g46.size
    go_wp2_with (at_builtin; refine wpList_append_own _ rfl _ _ 24 rfl w4.heap.size 3 i0 (.int .i64 0) 1 8 Try.underlying24 hi hz0 hz1 hz2 rfl (by decide) _ _ _ rfl (World.ownsRow.alloc R6.out _) ⟨w6.heap.size, 0, none⟩ 1 1 [.int .i64 10] rfl rfl (one_int _ _ _) ?c2 ?c3 ?c4 ?c5 ?_)
    case c2 => intro u hu; simp at hu; subst hu; rfl
    case c3 => unfold maxLen; have := HFL.out; omega
    case c4 => have := HFL.out; omega
    case c5 => have := HS6.out; simp; omega
    intro v' w7 hown7 hgr _
    have ga := World.grownBy_alloc w6 (.cells #[Value.int .i64 10] 3) none
    have hcA := c6.kept hcb6 ga (fun k hk => by cases hk)
    have HRA : RowI w4.heap.size (.slice au FS.length cu) FS (w6.alloc (.cells #[Value.int .i64 10] 3)) := World.ownsRow.alloc R6.out _
    have hgA := gr_trans g46 (gr_none ga (some cb))
    have c7 := Cur.row hcb4 hcA hgA HRA hgr HAP4.out
    have G7 := gr_trans G4' (gr_row hgA HRA hgr)
    have R7 := Lib.hid (show RowI w4.heap.size v' (FS ++ [10]) w7 by unfold RowI; simpa using hown7)
    have HR7 := Lib.hid ((show RowT w1.heap.size (.slice ax xs.length cx) xs (w6.alloc (.cells #[Value.int .i64 10] 3)) from HR6.out.kept ga (by cases (Value.slice ax xs.length cx).ownBlock <;> simp : _ ∨ _)).kept hgr (apart_U HVA.out (World.ownsRow.lt R6.out) (Nat.le_refl _)))
    have HALL := Lib.hid (show AllI (FS ++ [10]) from HFA.out.snoc (by omega) (by omega))
    clear hown7 hgr ga hcA HRA hgA c6
    go_wp2_with (fail)
    refine (sjust cb a len cap w7 c7).mono ?_
    rintro e w8 ⟨js, rfl, j0, j1, c8, g8⟩
    have B8 := Lib.hid (HB1.out.grown (gr_trans G7 g8) HB1.out.size (fun g hg => by simp at hg; omega))
    have HR8 := Lib.hid ((HR7.out.cur g8 hcb1).lower HLO.out)
    have R8 := Lib.hid (lowI (R7.out.cur g8 hcb4) HLO4.out)
    clear c8 g8
    (try dsimp only)
    go_wp2_with (fail)
    (try simp only [Exit.inBlock, Exit.then])
    refine bodyPost_ret (resultsD5 rfl _ _ _) rfl ?_
    exact ⟨_, xs, _, _, gap, inner, js, rfl, hxl, HX.out, HR8.out, HALL.out, (by rw [List.length_append, List.length_singleton]; have := HFL.out; omega), R8.out, ⟨p0, q0⟩, ⟨p1, q1⟩, ⟨j0, j1⟩, B8.out⟩
  · by_cases hx1 : x = 1
    · subst hx1
      have HREL := Lib.hid (show LgRel cb a len cap w1 w4 (.slice au FS.length cu) FS.length (.slice ax xs.length cx) xs (.int .i64 0) w6 from ⟨0, FS, Nat.zero_le _, rfl, rfl, HFA.out, R6.out, HR6.out, c6, G6⟩)
      clear c6 g46 R6 HR6 G6
      go_wp2
      go_loopw [12] (LgRel cb a len cap w1 w4 (.slice au FS.length cu) FS.length (.slice ax xs.length cx) xs) (fun i _ => FS.length - (intOf i).toNat)
      case atStart => exact HREL.out
      case round =>
        clear HREL
        obtain ⟨k, zs, hk, rfl, hzl, hza, hr, hrt, hcw, hg⟩ := hrel
        have HZA := Lib.hid hza
        by_cases hlt : k < FS.length
        · have hlo : (0 : Int) ≤ (k : Int) := Int.natCast_nonneg _
          have hhi : (k : Int) < (FS.length : Int) := by omega
          obtain ⟨g, rfl⟩ : ∃ g, au = some ⟨g, 0, none⟩ := by
            rcases hr.2 with ⟨h1, h2⟩ | ⟨g, cap', cur, h1, _⟩
            · have h2' : zs.length = 0 := h2
              omega
            · injection h1 with e1 _ _
              exact ⟨g, e1⟩
          have hgl := (World.ownsRow.lt hr g rfl).1
          have HRr := Lib.hid hr
          have HLT := Lib.hid hlt
          have hkb : (k : Int) < 14 := by have := HFL.out; omega
          have HRT := Lib.hid hrt
          have HZL := Lib.hid hzl
          clear hr hrt hza hzl
          go_wp2_with (fail)
          refine (below_pos 500 cb a len cap wr (by omega) (by omega) hcw).mono ?_
          rintro e w7 ⟨y, rfl, y0, y1, c7, g7, s7⟩
          clear s7
          obtain ⟨⟨q2, d2⟩, f2, hput⟩ := (HRr.out.cur g7 hcb4).put HZL.out hlt y
          have HP := Lib.hid hput
          have HG := Lib.hid (gr_store (j := k) (u := .int .i64 y) (gr_trans hg g7) (show w1.heap.size ≤ g by omega))
          have HC := Lib.hid (Cur.stored (j := k) c7 (Nat.lt_of_lt_of_le hcb1 (gr_trans hg g7).size) (show cb < g by omega) (fun h0 b off e => by have := HAP.out h0 b off e; omega) (.int .i64 y))
          have HT := Lib.hid ((HRT.out.cur g7 hcb1).kept (gr_setD w7 g k (.int .i64 y)) (by
            cases hv : (Value.slice ax xs.length cx).ownBlock with
            | none => exact Or.inl rfl
            | some b => refine Or.inr fun e => ?_; have h1 := (HVA.out b hv).2; injection e with e; omega))
          have HA := Lib.hid (all_set (i := k) HZA.out (show -9223372036854775808 ≤ y by omega) (by omega))
          clear hput c7 g7 hg hcw
          (try dsimp only)
          go_wp2
          go_roundw
          case rel => exact ⟨k + 1, zs.set k y, HLT.out, by go_num, by rw [List.length_set]; exact HZL.out, HA.out, HP.out, HT.out, HC.out, HG.out⟩
          case measure => have := HLT.out; simp [intOf]; omega
        · obtain rfl : k = FS.length := by omega
          have R7 := Lib.hid hr
          have HR7 := Lib.hid hrt
          have G7 := hg
          have HZL := Lib.hid hzl
          clear hr hrt hza hzl
          go_wp2_with (fail)
          refine (sjust cb a len cap wr hcw).mono ?_
          rintro e w8 ⟨js, rfl, j0, j1, c8, g8⟩
          have B8 := Lib.hid (HB1.out.grown (gr_trans G7 g8) HB1.out.size (fun g hg => by simp at hg; omega))
          have HR8 := Lib.hid ((HR7.out.cur g8 hcb1).lower HLO.out)
          have R8 := Lib.hid (lowI (R7.out.cur g8 hcb4) HLO4.out)
          clear c8 g8
          (try dsimp only)
          go_wp2_with (fail)
          (try simp only [Exit.inBlock, Exit.then])
          refine bodyPost_ret (resultsD5 rfl _ _ _) rfl ?_
          exact ⟨_, xs, _, _, gap, inner, js, rfl, hxl, HX.out, HR8.out, HZA.out, (by rw [HZL.out]; have := HFL.out; omega), R8.out, ⟨p0, q0⟩, ⟨p1, q1⟩, ⟨j0, j1⟩, B8.out⟩
    · have R7 := R6
      have HR7 := HR6
      have G7 := G6
      go_wp2_with (fail)
      refine (sjust cb a len cap w6 c6).mono ?_
      rintro e w8 ⟨js, rfl, j0, j1, c8, g8⟩
      have B8 := Lib.hid (HB1.out.grown (gr_trans G7 g8) HB1.out.size (fun g hg => by simp at hg; omega))
      have HR8 := Lib.hid ((HR7.out.cur g8 hcb1).lower HLO.out)
      have R8 := Lib.hid (lowI (R7.out.cur g8 hcb4) HLO4.out)
      clear c8 g8
      (try dsimp only)
      go_wp2_with (fail)
      (try simp only [Exit.inBlock, Exit.then])
      refine bodyPost_ret (resultsD5 rfl _ _ _) rfl ?_
      exact ⟨_, xs, _, _, gap, inner, js, rfl, hxl, HX.out, HR8.out, HFA.out, (by have := HFL.out; omega), R8.out, ⟨p0, q0⟩, ⟨p1, q1⟩, ⟨j0, j1⟩, B8.out⟩
theorem draw_placesalong (a : Option Addr) (len cap : Nat) (w : World) (hl : len ≤ 1048576) (hc : Code w a len) :
    Calls Try.prog 27 #[.slice a len cap] w (LgPost w) := by
  go_enter Try.func27, Try.ntmps27
  go_wp2_with (fail)
  refine (lgcase a len cap w hl hc).mono ?_
  rintro e w2 ⟨v, xs, u, zs, gap, inner, js, rfl, h1, h2, h3, h4, h5, h6, h7, h8, h9, h10⟩
  have H := Lib.hid (And.intro h2 (And.intro h3 (And.intro h4 (And.intro h6 h10))))
  clear h2 h3 h4 h6 h10
  (try dsimp only)
  go_wp2_with (fail)
  (try simp only [Exit.inBlock, Exit.then])
  refine bodyPost_ret (resultsD5 rfl _ _ _) rfl ?_
  exact ⟨_, xs, _, zs, gap, inner, js, rfl, h1, H.out.1, H.out.2.1, H.out.2.2.1, h5, H.out.2.2.2.1, h7, h8, h9, H.out.2.2.2.2⟩
end Go.Proofs.Ytnncdpkmhpjmbaa
end

import Derived.OwnWalk
import Derived.Test.YtnncdpkmhpjmbaaZnAF
import Derived.Test.YtnncdpkmhpjmbaaZnAK
import Derived.Test.YtnncdpkmhpjmbaaZnAL
import Derived.Test.YtnncdpkmhpjmbaaZnAN
section
namespace Go.Proofs.Ytnncdpkmhpjmbaa
open Go.ChangeShapes Go.WideShapes Go.ChangeAt Go.RowKit
set_option linter.unusedVariables false
set_option linter.unusedSimpArgs false
set_option maxRecDepth 20000

theorem resultsC4 {fn : Func} {t u v x : Tmp} (h : fn.results = #[.tmp t, .tmp u, .tmp v, .tmp x]) (tmps : Array Value) (P : Program) (w : World) :
    (results fn tmps).run P w = .ok (.tuple #[tmps.getD t undef, tmps.getD u undef, tmps.getD v undef, tmps.getD x undef]) w := by
  simp [results, h]
def slC : Value → Nat
  | .slice _ n _ => n
  | _ => 0
theorem RowI.lenC {b : Nat} {v : Value} {xs : List Int} {w : World} (h : RowI b v xs w) : slC v = xs.length := by
  rcases h.2 with ⟨h1, h2⟩ | ⟨g, cap, cur, h1, _⟩
  · rw [h1, h2]; rfl
  · rw [h1]; rfl
def CrPost (w : World) (e : Ending) (w' : World) : Prop :=
  ∃ (v : Value) (zs : List Int) (gap inner ct : Int), e = .returned (.tuple #[v, .int .i64 gap, .int .i64 inner, .int .i64 ct]) ∧ zs.length ≤ 13 ∧ AllI zs ∧ RowI w.heap.size v zs w' ∧ (-1 ≤ gap ∧ gap ≤ 64) ∧ (-1 ≤ inner ∧ inner ≤ 3333) ∧ (0 ≤ ct ∧ ct < 8) ∧ Below w.heap.size w w'
def CrRel1 (cb : Nat) (a : Option Addr) (len cap : Nat) (w1 : World) (v i : Value) (wr : World) : Prop :=
  ∃ (k : Nat) (xs : List Int), k ≤ 4 ∧ i = .int .i64 k ∧ xs.length = k ∧ AllI xs ∧ RowI w1.heap.size v xs wr ∧ Cur cb a len cap wr ∧ w1.grownBy wr (some cb)
def CrRel2 (cb : Nat) (a : Option Addr) (len cap : Nat) (w1 : World) (v : Value) (wr : World) : Prop :=
  ∃ xs : List Int, xs.length ≤ 13 ∧ AllI xs ∧ RowI w1.heap.size v xs wr ∧ Cur cb a len cap wr ∧ w1.grownBy wr (some cb)
set_option maxHeartbeats 4000000 in
theorem crcase (a : Option Addr) (len cap : Nat) (w : World) (hl : len ≤ 1048576) (hc : Code w a len) :
    Calls Try.prog 39 #[.slice a len cap] w (CrPost w) := by
  obtain ⟨i0, hi, hz0, hz1, hz2⟩ := info_parts info_intP
  go_enter Try.func39, Try.ntmps39
  go_wp2_with (fail)
  refine (new_cur a len cap w hl hc).mono ?_
  rintro e w1 ⟨rfl, c1, b1, l1⟩
  have hap : 0 < len → ∀ b off, a = some ⟨b, off, none⟩ → b < w1.heap.size := fun h0 b off e => Nat.lt_trans (code_lt hc h0 b off e) l1
  have HAP := Lib.hid hap
  clear hc
  obtain ⟨cb, ecb⟩ : ∃ q, q = w.heap.size := ⟨_, rfl⟩
  have hlo : w.heap.size ≤ cb := by omega
  rw [← ecb] at c1 ⊢
  have hcb : cb < w1.heap.size := by omega
  have HB1 := Lib.hid b1
  have HLO := Lib.hid (show w.heap.size ≤ w1.heap.size from Nat.le_of_lt l1)
  clear ecb b1 hap
  (try dsimp only)
  have hr0 : RowI w1.heap.size (.slice (some ⟨w1.heap.size, 0, none⟩) 0 0) [] (w1.alloc (.cells #[] 3)) := World.ownsRow_lit w1 #[] 0 (Nat.le_refl _) (by unfold maxLen; omega) rfl
  have g0 : w1.grownBy (w1.alloc (.cells #[] 3)) (some cb) := World.grownBy_alloc w1 _ _
  have hc0 : Cur cb a len cap (w1.alloc (.cells #[] 3)) := c1.kept hcb (World.grownBy_alloc w1 _ none) (fun k hk => by cases hk)
  have HR0 := Lib.hid hr0
  obtain ⟨w0, ew0⟩ : ∃ q, q = w1.alloc (.cells #[] 3) := ⟨_, rfl⟩
  rw [← ew0] at HR0 g0 hc0
  have EW0 := Lib.hid ew0
  clear hr0 c1 ew0
  go_wp2
  (try rw [← EW0.out])
  go_loopw [7, 8] (CrRel1 cb a len cap w1) (fun _ i _ => 5 - (intOf i).toNat)
  case atStart => exact ⟨0, [], by omega, rfl, rfl, (fun z hz => by cases hz), HR0.out, hc0, g0⟩
  case round =>
    clear HR0 hc0 g0
    obtain ⟨k, xs, hk, rfl, hxl, hxa, hr, hcw, hg⟩ := hrel
    have HXL := Lib.hid hxl
    have HR := Lib.hid hr
    have HXA := Lib.hid hxa
    clear hxl hr hxa
    go_wp2_with (fail)
    refine (below_pos 5 cb a len cap wr (by omega) (by omega) hcw).mono ?_
    rintro e w2 ⟨x, rfl, x0, x1, c2, g2, s2⟩
    clear s2 hcw
    have hg2 := gr_trans hg g2
    have HR2 := Lib.hid (HR.out.cur g2 hcb)
    clear HR g2 hg
    have hcb2 : cb < w2.heap.size := Nat.lt_of_lt_of_le hcb hg2.size
    by_cases hlt : (k : Int) < x
    · go_wp2_with (fail)
      refine (below_pos 800 cb a len cap w2 (by omega) (by omega) c2).mono ?_
      rintro e w3 ⟨q, rfl, q0, q1, c3, g3, s3⟩
      have hg3 := gr_trans hg2 g3
      have HR3 := Lib.hid (HR2.out.cur g3 hcb)
      have hcb3 : cb < w3.heap.size := Nat.lt_of_lt_of_le hcb hg3.size
      clear s3 g3 HR2 hg2 c2 hcb2
      go_wp2_with (fail)
      refine (pick_r 0 800 (by omega) (by omega) [0, 64, 100, 33, q] 5 rfl (by omega) (by omega) (by intro z hz; simp at hz; omega) cb a len cap w3 hcb3 c3).mono ?_
      rintro e w4 ⟨y, rfl, y0, y1, c4, g4⟩
      have hg4 := gr_trans hg3 g4
      have HR4 := Lib.hid (HR3.out.cur g4 hcb)
      have HS4 := Lib.hid hg4.size
      have hxl5 : xs.length ≤ 5 := by have := HXL.out; omega
      clear g4 hg3 c3 HR3 hcb3
      go_wp2_with (at_builtin; refine wpList_append_own _ rfl _ _ 24 rfl w1.heap.size 3 i0 (.int .i64 0) 1 8 Try.underlying24 hi hz0 hz1 hz2 rfl (by decide) _ _ _ rfl (World.ownsRow.alloc HR4.out _) ⟨w4.heap.size, 0, none⟩ 1 1 [.int .i64 y] rfl rfl (one_intP _ _ _) ?c2a ?c3a ?c4a ?c5a ?_)
      case c2a => intro u hu; simp at hu; subst hu; rfl
      case c3a => unfold maxLen; omega
      case c4a => omega
      case c5a => have := HS4.out; simp; omega
      intro v9 w9 hown9 hgr _
      have ga := World.grownBy_alloc w4 (.cells #[Value.int .i64 y] 3) none
      have hcA := c4.kept (Nat.lt_of_lt_of_le hcb hg4.size) ga (fun k hk => by cases hk)
      have HRA := World.ownsRow.alloc HR4.out (.cells #[Value.int .i64 y] 3)
      have hgA := gr_trans hg4 (gr_none ga (some cb))
      have C9 := Lib.hid (Cur.row hcb hcA hgA HRA hgr HAP.out)
      have G9 := Lib.hid (gr_row hgA HRA hgr)
      have R9 := Lib.hid (show RowI w1.heap.size v9 (xs ++ [y]) w9 by unfold RowI; simpa using hown9)
      clear hown9 hgr ga hcA HRA hgA HR4 hg4 c4
      go_wp2
      go_roundw
      case rel => exact ⟨k + 1, xs ++ [y], by omega, by go_num, by have := HXL.out; simp; omega, HXA.out.snoc (by omega) (by omega), R9.out, C9.out, G9.out⟩
      case measure => simp [intOf]; omega
    · have YL := Lib.hid (show xs.length ≤ 4 by have := HXL.out; omega)
      go_wp2_with (fail)
      refine (once_any 12 cb a len cap w2 (by omega) (by omega) c2).mono ?_
      rintro e w3 ⟨t, rfl, c3, g3⟩
      have hg3 := gr_trans hg2 g3
      have HR3 := Lib.hid (HR2.out.cur g3 hcb)
      have hcb3 : cb < w3.heap.size := Nat.lt_of_lt_of_le hcb hg3.size
      clear g3 HR2 hg2 c2 hcb2
      cases t with
      | false =>
        (try dsimp only)
        go_wp2_with (fail)
        refine (once_any 30 cb a len cap w3 (by omega) (by omega) c3).mono ?_
        rintro e w7 ⟨t, rfl, c7, g7⟩
        have hg7 := gr_trans hg3 g7
        have HR7 := Lib.hid (HR3.out.cur g7 hcb)
        have hcb7 : cb < w7.heap.size := Nat.lt_of_lt_of_le hcb hg7.size
        clear g7 HR3
        cases t with
        | false =>
          (try dsimp only)
          go_wp2_with (fail)
          refine (pick_r (-1) 64 (by omega) (by omega) [0, 0, 10, 64, -1] 5 rfl (by omega) (by omega) (by intro z hz; simp at hz; omega) cb a len cap w7 hcb7 c7).mono ?_
          rintro e wa ⟨gap, rfl, p0, q0, ca, ga⟩
          have Ga := gr_trans hg7 ga
          have HRa := Lib.hid (HR7.out.cur ga hcb)
          have hcba : cb < wa.heap.size := Nat.lt_of_lt_of_le hcb Ga.size
          clear ga HR7
          (try dsimp only)
          go_wp2_with (fail)
          refine (pick_r (-1) 3333 (by omega) (by omega) [0, 640, 1000, 3333, -1] 5 rfl (by omega) (by omega) (by intro z hz; simp at hz; omega) cb a len cap wa hcba ca).mono ?_
          rintro e wb ⟨inner, rfl, p1, q1, cb2, gb⟩
          have Gb := gr_trans Ga gb
          have HRb := Lib.hid (HRa.out.cur gb hcb)
          clear gb Ga HRa ca hcba
          (try dsimp only)
          go_wp2_with (fail)
          refine (below_pos 8 cb a len cap wb (by omega) (by omega) cb2).mono ?_
          rintro e wc ⟨ct, rfl, j0, j1, cc, gc, sc⟩
          have Bc := Lib.hid (HB1.out.grown (gr_trans Gb gc) HB1.out.size (fun g hg => by simp at hg; omega))
          have Rc := Lib.hid (lowI (HRb.out.cur gc hcb) HLO.out)
          clear cc gc sc Gb HRb cb2
          (try dsimp only)
          go_wp2_with (fail)
          (try simp only [Exit.inBlock, Exit.then])
          refine bodyPost_ret (resultsC4 rfl _ _ _) rfl ?_
          exact ⟨_, xs, gap, inner, ct, rfl, by have := YL.out; omega, HXA.out, Rc.out, ⟨p0, q0⟩, ⟨p1, q1⟩, ⟨j0, by omega⟩, Bc.out⟩
        | true =>
          (try dsimp only)
          go_wp2
          go_loopw [7] (CrRel2 cb a len cap w1) (fun v _ => 13 - slC v)
          case atStart => exact ⟨xs, by have := YL.out; omega, HXA.out, HR7.out, c7, hg7⟩
          case round =>
            obtain ⟨zs, hzl, hza, hr, hcw, hg⟩ := hrel
            obtain ⟨az, cz, rfl, hzi⟩ := hr.slice hza
            have HR := Lib.hid hr
            have HZA := Lib.hid hza
            clear hr hza hzi HR7
            go_wp2_with (fail)
            refine (below_pos 2 cb a len cap wr (by omega) (by omega) hcw).mono ?_
            rintro e w8 ⟨x8, rfl, x80, x81, c8, g8, s8⟩
            have hg8 := gr_trans hg g8
            have HR8 := Lib.hid (HR.out.cur g8 hcb)
            have HS8 := Lib.hid hg8.size
            have hcb8 : cb < w8.heap.size := Nat.lt_of_lt_of_le hcb hg8.size
            clear s8 g8 HR hg hcw
            by_cases hlt8 : (zs.length : Int) < 12 + x8
            · go_wp2_with (at_builtin; refine wpList_append_own _ rfl _ _ 24 rfl w1.heap.size 3 i0 (.int .i64 0) 1 8 Try.underlying24 hi hz0 hz1 hz2 rfl (by decide) _ _ _ rfl (World.ownsRow.alloc HR8.out _) ⟨w8.heap.size, 0, none⟩ 1 1 [.int .i64 1] rfl rfl (one_intP _ _ _) ?c2tp ?c3tp ?c4tp ?c5tp ?_)
              case c2tp => intro u hu; simp at hu; subst hu; rfl
              case c3tp => unfold maxLen; omega
              case c4tp => omega
              case c5tp => have := HS8.out; simp; omega
              intro v9 w9 hown9 hgr _
              have ga := World.grownBy_alloc w8 (.cells #[Value.int .i64 1] 3) none
              have hcA := c8.kept (Nat.lt_of_lt_of_le hcb hg8.size) ga (fun k hk => by cases hk)
              have HRA := World.ownsRow.alloc HR8.out (.cells #[Value.int .i64 1] 3)
              have hgA := gr_trans hg8 (gr_none ga (some cb))
              have C9 := Lib.hid (Cur.row hcb hcA hgA HRA hgr HAP.out)
              have G9 := Lib.hid (gr_row hgA HRA hgr)
              have R9 := Lib.hid (show RowI w1.heap.size v9 (zs ++ [1]) w9 by unfold RowI; simpa using hown9)
              clear hown9 hgr ga hcA HRA hgA HR8 hg8 c8
              go_wp2
              go_roundw
              case rel => exact ⟨zs ++ [1], by simp; omega, HZA.out.snoc (by omega) (by omega), R9.out, C9.out, G9.out⟩
              case measure => rw [R9.out.lenC]; simp [slC]; omega
            · have ZL := Lib.hid hzl
              go_wp2_with (fail)
              refine (pick_r (-1) 64 (by omega) (by omega) [0, 0, 10, 64, -1] 5 rfl (by omega) (by omega) (by intro z hz; simp at hz; omega) cb a len cap w8 hcb8 c8).mono ?_
              rintro e wa ⟨gap, rfl, p0, q0, ca, ga⟩
              have Ga := gr_trans hg8 ga
              have HRa := Lib.hid (HR8.out.cur ga hcb)
              have hcba : cb < wa.heap.size := Nat.lt_of_lt_of_le hcb Ga.size
              clear ga HR8
              (try dsimp only)
              go_wp2_with (fail)
              refine (pick_r (-1) 3333 (by omega) (by omega) [0, 640, 1000, 3333, -1] 5 rfl (by omega) (by omega) (by intro z hz; simp at hz; omega) cb a len cap wa hcba ca).mono ?_
              rintro e wb ⟨inner, rfl, p1, q1, cb2, gb⟩
              have Gb := gr_trans Ga gb
              have HRb := Lib.hid (HRa.out.cur gb hcb)
              clear gb Ga HRa ca hcba
              (try dsimp only)
              go_wp2_with (fail)
              refine (below_pos 8 cb a len cap wb (by omega) (by omega) cb2).mono ?_
              rintro e wc ⟨ct, rfl, j0, j1, cc, gc, sc⟩
              have Bc := Lib.hid (HB1.out.grown (gr_trans Gb gc) HB1.out.size (fun g hg => by simp at hg; omega))
              have Rc := Lib.hid (lowI (HRb.out.cur gc hcb) HLO.out)
              clear cc gc sc Gb HRb cb2
              (try dsimp only)
              go_wp2_with (fail)
              (try simp only [Exit.inBlock, Exit.then])
              refine bodyPost_ret (resultsC4 rfl _ _ _) rfl ?_
              exact ⟨_, zs, gap, inner, ct, rfl, by have := ZL.out; omega, HZA.out, Rc.out, ⟨p0, q0⟩, ⟨p1, q1⟩, ⟨j0, by omega⟩, Bc.out⟩
      | true =>
        (try dsimp only)
        go_wp2_with (fail)
        refine (pick_r (-1) 1048577 (by omega) (by omega) [-1, 1048576, 1048577] 3 rfl (by omega) (by omega) (by intro z hz; simp at hz; omega) cb a len cap w3 hcb3 c3).mono ?_
        rintro e w4 ⟨y, rfl, y0, y1, c4, g4⟩
        have hg4 := gr_trans hg3 g4
        have HR4 := Lib.hid (HR3.out.cur g4 hcb)
        have HS4 := Lib.hid hg4.size
        have hxl5 : xs.length ≤ 5 := by have := HXL.out; omega
        clear g4 hg3 c3 HR3 hcb3
        go_wp2_with (at_builtin; refine wpList_append_own _ rfl _ _ 24 rfl w1.heap.size 3 i0 (.int .i64 0) 1 8 Try.underlying24 hi hz0 hz1 hz2 rfl (by decide) _ _ _ rfl (World.ownsRow.alloc HR4.out _) ⟨w4.heap.size, 0, none⟩ 1 1 [.int .i64 y] rfl rfl (one_intP _ _ _) ?c2b ?c3b ?c4b ?c5b ?_)
        case c2b => intro u hu; simp at hu; subst hu; rfl
        case c3b => unfold maxLen; omega
        case c4b => omega
        case c5b => have := HS4.out; simp; omega
        intro v9 w9 hown9 hgr _
        have ga := World.grownBy_alloc w4 (.cells #[Value.int .i64 y] 3) none
        have hcA := c4.kept (Nat.lt_of_lt_of_le hcb hg4.size) ga (fun k hk => by cases hk)
        have HRA := World.ownsRow.alloc HR4.out (.cells #[Value.int .i64 y] 3)
        have hgA := gr_trans hg4 (gr_none ga (some cb))
        have C9 := Lib.hid (Cur.row hcb hcA hgA HRA hgr HAP.out)
        have G9 := Lib.hid (gr_row hgA HRA hgr)
        have R9 := Lib.hid (show RowI w1.heap.size v9 (xs ++ [y]) w9 by unfold RowI; simpa using hown9)
        clear hown9 hgr ga hcA HRA hgA HR4 hg4 c4
        have YA := Lib.hid (HXA.out.snoc (show -9223372036854775808 ≤ y by omega) (show y ≤ 9223372036854775807 by omega))
        have YL2 := Lib.hid (show (xs ++ [y]).length ≤ 5 by have := YL.out; simp; omega)
        have hcb9 : cb < w9.heap.size := Nat.lt_of_lt_of_le hcb G9.out.size
        go_wp2_with (fail)
        refine (once_any 30 cb a len cap w9 (by omega) (by omega) C9.out).mono ?_
        rintro e w7 ⟨t, rfl, c7, g7⟩
        have hg7 := gr_trans G9.out g7
        have HR7 := Lib.hid (R9.out.cur g7 hcb)
        have hcb7 : cb < w7.heap.size := Nat.lt_of_lt_of_le hcb hg7.size
        clear g7 R9
        cases t with
        | false =>
          (try dsimp only)
          go_wp2_with (fail)
          refine (pick_r (-1) 64 (by omega) (by omega) [0, 0, 10, 64, -1] 5 rfl (by omega) (by omega) (by intro z hz; simp at hz; omega) cb a len cap w7 hcb7 c7).mono ?_
          rintro e wa ⟨gap, rfl, p0, q0, ca, ga⟩
          have Ga := gr_trans hg7 ga
          have HRa := Lib.hid (HR7.out.cur ga hcb)
          have hcba : cb < wa.heap.size := Nat.lt_of_lt_of_le hcb Ga.size
          clear ga HR7
          (try dsimp only)
          go_wp2_with (fail)
          refine (pick_r (-1) 3333 (by omega) (by omega) [0, 640, 1000, 3333, -1] 5 rfl (by omega) (by omega) (by intro z hz; simp at hz; omega) cb a len cap wa hcba ca).mono ?_
          rintro e wb ⟨inner, rfl, p1, q1, cb2, gb⟩
          have Gb := gr_trans Ga gb
          have HRb := Lib.hid (HRa.out.cur gb hcb)
          clear gb Ga HRa ca hcba
          (try dsimp only)
          go_wp2_with (fail)
          refine (below_pos 8 cb a len cap wb (by omega) (by omega) cb2).mono ?_
          rintro e wc ⟨ct, rfl, j0, j1, cc, gc, sc⟩
          have Bc := Lib.hid (HB1.out.grown (gr_trans Gb gc) HB1.out.size (fun g hg => by simp at hg; omega))
          have Rc := Lib.hid (lowI (HRb.out.cur gc hcb) HLO.out)
          clear cc gc sc Gb HRb cb2
          (try dsimp only)
          go_wp2_with (fail)
          (try simp only [Exit.inBlock, Exit.then])
          refine bodyPost_ret (resultsC4 rfl _ _ _) rfl ?_
          exact ⟨_, (xs ++ [y]), gap, inner, ct, rfl, by have := YL2.out; omega, YA.out, Rc.out, ⟨p0, q0⟩, ⟨p1, q1⟩, ⟨j0, by omega⟩, Bc.out⟩
        | true =>
          (try dsimp only)
          go_wp2
          go_loopw [7] (CrRel2 cb a len cap w1) (fun v _ => 13 - slC v)
          case atStart => exact ⟨(xs ++ [y]), by have := YL2.out; omega, YA.out, HR7.out, c7, hg7⟩
          case round =>
            obtain ⟨zs, hzl, hza, hr, hcw, hg⟩ := hrel
            obtain ⟨az, cz, rfl, hzi⟩ := hr.slice hza
            have HR := Lib.hid hr
            have HZA := Lib.hid hza
            clear hr hza hzi HR7
            go_wp2_with (fail)
            refine (below_pos 2 cb a len cap wr (by omega) (by omega) hcw).mono ?_
            rintro e w8 ⟨x8, rfl, x80, x81, c8, g8, s8⟩
            have hg8 := gr_trans hg g8
            have HR8 := Lib.hid (HR.out.cur g8 hcb)
            have HS8 := Lib.hid hg8.size
            have hcb8 : cb < w8.heap.size := Nat.lt_of_lt_of_le hcb hg8.size
            clear s8 g8 HR hg hcw
            by_cases hlt8 : (zs.length : Int) < 12 + x8
            · go_wp2_with (at_builtin; refine wpList_append_own _ rfl _ _ 24 rfl w1.heap.size 3 i0 (.int .i64 0) 1 8 Try.underlying24 hi hz0 hz1 hz2 rfl (by decide) _ _ _ rfl (World.ownsRow.alloc HR8.out _) ⟨w8.heap.size, 0, none⟩ 1 1 [.int .i64 1] rfl rfl (one_intP _ _ _) ?c2tq ?c3tq ?c4tq ?c5tq ?_)
              case c2tq => intro u hu; simp at hu; subst hu; rfl
              case c3tq => unfold maxLen; omega
              case c4tq => omega
              case c5tq => have := HS8.out; simp; omega
              intro v9 w9 hown9 hgr _
              have ga := World.grownBy_alloc w8 (.cells #[Value.int .i64 1] 3) none
              have hcA := c8.kept (Nat.lt_of_lt_of_le hcb hg8.size) ga (fun k hk => by cases hk)
              have HRA := World.ownsRow.alloc HR8.out (.cells #[Value.int .i64 1] 3)
              have hgA := gr_trans hg8 (gr_none ga (some cb))
              have C9 := Lib.hid (Cur.row hcb hcA hgA HRA hgr HAP.out)
              have G9 := Lib.hid (gr_row hgA HRA hgr)
              have R9 := Lib.hid (show RowI w1.heap.size v9 (zs ++ [1]) w9 by unfold RowI; simpa using hown9)
              clear hown9 hgr ga hcA HRA hgA HR8 hg8 c8
              go_wp2
              go_roundw
              case rel => exact ⟨zs ++ [1], by simp; omega, HZA.out.snoc (by omega) (by omega), R9.out, C9.out, G9.out⟩
              case measure => rw [R9.out.lenC]; simp [slC]; omega
            · have ZL := Lib.hid hzl
              go_wp2_with (fail)
              refine (pick_r (-1) 64 (by omega) (by omega) [0, 0, 10, 64, -1] 5 rfl (by omega) (by omega) (by intro z hz; simp at hz; omega) cb a len cap w8 hcb8 c8).mono ?_
              rintro e wa ⟨gap, rfl, p0, q0, ca, ga⟩
              have Ga := gr_trans hg8 ga
              have HRa := Lib.hid (HR8.out.cur ga hcb)
              have hcba : cb < wa.heap.size := Nat.lt_of_lt_of_le hcb Ga.size
              clear ga HR8
              (try dsimp only)
              go_wp2_with (fail)
              refine (pick_r (-1) 3333 (by omega) (by omega) [0, 640, 1000, 3333, -1] 5 rfl (by omega) (by omega) (by intro z hz; simp at hz; omega) cb a len cap wa hcba ca).mono ?_
              rintro e wb ⟨inner, rfl, p1, q1, cb2, gb⟩
              have Gb := gr_trans Ga gb
              have HRb := Lib.hid (HRa.out.cur gb hcb)
              clear gb Ga HRa ca hcba
              (try dsimp only)
              go_wp2_with (fail)
              refine (below_pos 8 cb a len cap wb (by omega) (by omega) cb2).mono ?_
              rintro e wc ⟨ct, rfl, j0, j1, cc, gc, sc⟩
              have Bc := Lib.hid (HB1.out.grown (gr_trans Gb gc) HB1.out.size (fun g hg => by simp at hg; omega))
              have Rc := Lib.hid (lowI (HRb.out.cur gc hcb) HLO.out)
              clear cc gc sc Gb HRb cb2
              (try dsimp only)
              go_wp2_with (fail)
              (try simp only [Exit.inBlock, Exit.then])
              refine bodyPost_ret (resultsC4 rfl _ _ _) rfl ?_
              exact ⟨_, zs, gap, inner, ct, rfl, by have := ZL.out; omega, HZA.out, Rc.out, ⟨p0, q0⟩, ⟨p1, q1⟩, ⟨j0, by omega⟩, Bc.out⟩
theorem draw_stretch (a : Option Addr) (len cap : Nat) (w : World) (hl : len ≤ 1048576) (hc : Code w a len) :
    Calls Try.prog 13 #[.slice a len cap] w (CrPost w) := by
  go_enter Try.func13, Try.ntmps13
  go_wp2_with (fail)
  refine (crcase a len cap w hl hc).mono ?_
  rintro e w2 ⟨v, zs, gap, inner, ct, rfl, h1, h2, h3, h4, h5, h6, h7⟩
  have H := Lib.hid (And.intro h2 (And.intro h3 h7))
  clear h2 h3 h7
  (try dsimp only)
  go_wp2_with (fail)
  (try simp only [Exit.inBlock, Exit.then])
  refine bodyPost_ret (resultsC4 rfl _ _ _) rfl ?_
  exact ⟨_, zs, gap, inner, ct, rfl, h1, H.out.1, H.out.2.1, h4, h5, h6, H.out.2.2⟩
end Go.Proofs.Ytnncdpkmhpjmbaa
end

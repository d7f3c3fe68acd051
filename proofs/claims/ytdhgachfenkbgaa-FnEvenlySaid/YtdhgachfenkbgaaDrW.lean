/-
  The draws of lists: spec.l02List (at most 5 lengths) and spec.l03Weights (at most 65 weights), each in a row of the call's own; they turn nothing but their cursor. Conditions: those of the cursor.
-/
import Derived.Test.YtdhgachfenkbgaaL02
import Derived.Test.YtdhgachfenkbgaaNewC
import Derived.Test.YtdhgachfenkbgaaRowI
import Derived.Test.YtdhgachfenkbgaaOnce
namespace Go.Proofs.Ytdhgachfenkbgaa
open Go.ChangeShapes Go.WideShapes Go.ChangeAt Go.RowKit
set_option maxRecDepth 20000

def DrewL (most : Nat) (cb : Nat) (a : Option Addr) (len cap : Nat) (w : World) (e : Ending) (w' : World) : Prop :=
  ∃ (v : Value) (xs : List Int), e = .returned v ∧ xs.length ≤ most ∧ AllI xs ∧ RowI w.heap.size v xs w' ∧ Cur cb a len cap w' ∧ w.grownBy w' (some cb)
def LRel (most : Nat) (cb : Nat) (a : Option Addr) (len cap : Nat) (w : World) (v i : Value) (wr : World) : Prop :=
  ∃ (k : Nat) (xs : List Int), k ≤ most ∧ i = .int .i64 k ∧ xs.length = k ∧ AllI xs ∧ RowI w.heap.size v xs wr ∧ Cur cb a len cap wr ∧ w.grownBy wr (some cb)
theorem AllI.snoc {xs : List Int} {x : Int} (h : AllI xs) (h0 : -9223372036854775808 ≤ x) (h1 : x ≤ 9223372036854775807) : AllI (xs ++ [x]) := by
  intro y hy
  rcases List.mem_append.1 hy with hy | hy
  · exact h y hy
  · simp at hy; omega
/-- The cursor and its code, apart from a row that was made later. -/
theorem Cur.row {cb : Nat} {a : Option Addr} {len cap : Nat} {w wr w' : World} {v : Value} {xs : List Int} (hcb : cb < w.heap.size) (hc : Cur cb a len cap wr) (hg : w.grownBy wr (some cb)) (hr : RowI w.heap.size v xs wr) (hgr : wr.grownBy w' v.ownBlock) (hap : 0 < len → ∀ b off, a = some ⟨b, off, none⟩ → b < w.heap.size) : Cur cb a len cap w' :=
  hc.kept (Nat.lt_of_lt_of_le hcb hg.size) hgr (fun g hg' => by
    have h1 := (World.ownsRow.lt hr g hg').1
    exact ⟨by omega, fun h0 b off e => by have := hap h0 b off e; omega⟩)
theorem gr_row {cb : Nat} {w wr w' : World} {v : Value} {xs : List Int} (hg : w.grownBy wr (some cb)) (hr : RowI w.heap.size v xs wr) (hgr : wr.grownBy w' v.ownBlock) : w.grownBy w' (some cb) :=
  ⟨hgr.os.trans hg.os, hgr.tape.trans hg.tape, hgr.output.trans hg.output, Nat.le_trans hg.size hgr.size, fun i hi hne =>
    (hgr.block i (Nat.lt_of_lt_of_le hi hg.size) (fun e => by have := (World.ownsRow.lt hr i e.symm).1; omega)).trans (hg.block i hi hne)⟩
theorem RowI.cur {b cb : Nat} {v : Value} {xs : List Int} {w w' : World} (h : RowI b v xs w) (hg : w.grownBy w' (some cb)) (hcb : cb < b) : RowI b v xs w' := h.kept hg (by
  cases h0 : v.ownBlock with
  | none => exact Or.inl rfl
  | some g =>
    refine Or.inr fun e => ?_
    have := (World.ownsRow.lt h g h0).1
    simp at e; omega)

set_option maxHeartbeats 600000 in
theorem l02list_any (cb : Nat) (a : Option Addr) (len cap : Nat) (w : World) (hcb : cb < w.heap.size) (hap : 0 < len → ∀ b off, a = some ⟨b, off, none⟩ → b < w.heap.size) (hc : Cur cb a len cap w) :
    Calls Try.prog 109 #[.pointer (some ⟨cb, 0, none⟩)] w (DrewL 5 cb a len cap w) := by
  obtain ⟨i0, hi, hz0, hz1, hz2⟩ := info_parts info_int
  have HAP := Lib.hid hap
  clear hap
  go_enter Try.func109, Try.ntmps109
  go_wp2
  have hr0 : RowI w.heap.size (.slice (some ⟨w.heap.size, 0, none⟩) 0 0) [] (w.alloc (.cells #[] 3)) := World.ownsRow_lit w #[] 0 (Nat.le_refl _) (by unfold maxLen; omega) rfl
  have g0 : w.grownBy (w.alloc (.cells #[] 3)) (some cb) := World.grownBy_alloc w _ _
  have hc0 : Cur cb a len cap (w.alloc (.cells #[] 3)) := hc.kept hcb (World.grownBy_alloc w _ none) (fun k hk => by cases hk)
  have HR0 := Lib.hid hr0
  clear hr0 hc
  generalize w.alloc (.cells #[] 3) = w0 at *
  go_loopw [3, 4] (LRel 5 cb a len cap w) (fun _ i _ => 5 - (intOf i).toNat)
  case atStart => exact ⟨0, [], by omega, rfl, rfl, (fun z hz => by cases hz), HR0.out, hc0, g0⟩
  case round =>
    obtain ⟨k, xs, hk, rfl, hxl, hxa, hr, hcw, hg⟩ := hrel
    have HXL := Lib.hid hxl
    have HR := Lib.hid hr
    have HXA := Lib.hid hxa
    clear hxl hr HR0 hxa
    go_wp2_with (fail)
    refine (below_pos 6 cb a len cap wr (by omega) (by omega) hcw).mono ?_
    rintro e w1 ⟨x, rfl, x0, x1, c1, g1, s1⟩
    have S1 := Lib.hid s1
    clear s1 hcw
    have hg1 := gr_trans hg g1
    have HR1 := Lib.hid (HR.out.cur g1 hcb)
    clear HR g1 hg
    have hcb1 : cb < w1.heap.size := Nat.lt_of_lt_of_le hcb hg1.size
    by_cases hlt : (k : Int) < x
    · go_wp2_with (fail)
      refine (l02_any cb a len cap w1 hcb1 c1).mono ?_
      rintro e w2 ⟨y, rfl, y0, y1, c2, g2⟩
      have hg2 := gr_trans hg1 g2
      have HR2 := Lib.hid (HR1.out.cur g2 hcb)
      have HS2 := Lib.hid hg2.size
      have hxl5 : xs.length ≤ 5 := by have := HXL.out; omega
      clear HR1 g2 hg1 c1
      go_wp2_with (at_builtin; refine wpList_append_own _ rfl _ _ 59 rfl w.heap.size 3 i0 (.int .i64 0) 1 8 Try.underlying59 hi hz0 hz1 hz2 rfl (by decide) _ _ _ rfl (World.ownsRow.alloc HR2.out _) ⟨w2.heap.size, 0, none⟩ 1 1 [.int .i64 y] rfl rfl (one_int _ _ _) ?c2 ?c3 ?c4 ?c5 ?_)
      case c2 => intro u hu; simp at hu; subst hu; rfl
      case c3 => unfold maxLen; omega
      case c4 => omega
      case c5 => have := HS2.out; simp; omega
      intro v' w3 hown3 hgr _
      have ga := World.grownBy_alloc w2 (.cells #[Value.int .i64 y] 3) none
      have hcA := c2.kept (Nat.lt_of_lt_of_le hcb hg2.size) ga (fun k hk => by cases hk)
      have HRA : RowI w.heap.size u3 xs (w2.alloc (.cells #[Value.int .i64 y] 3)) := World.ownsRow.alloc HR2.out _
      have hgA := gr_trans hg2 (gr_none ga (some cb))
      have C3 := Lib.hid (Cur.row hcb hcA hgA HRA hgr HAP.out)
      have G3 := Lib.hid (gr_row hgA HRA hgr)
      have R3 := Lib.hid (show RowI w.heap.size v' (xs ++ [y]) w3 by unfold RowI; simpa using hown3)
      clear hown3 hgr ga hcA HRA hgA HR2 hg2 c2
      go_wp2
      go_roundw
      case rel => exact ⟨k + 1, xs ++ [y], by omega, by go_num, by have := HXL.out; simp; omega, HXA.out.snoc y0 y1, R3.out, C3.out, G3.out⟩
      case measure => simp [intOf]; omega
    · go_wp2
      go_ret
      exact ⟨_, xs, rfl, by have := HXL.out; omega, HXA.out, HR1.out, c1, hg1⟩

def slLen : Value → Nat
  | .slice _ n _ => n
  | _ => 0
theorem RowI.len {b : Nat} {v : Value} {xs : List Int} {w : World} (h : RowI b v xs w) : slLen v = xs.length := by
  rcases h.2 with ⟨h1, h2⟩ | ⟨g, cap, cur, h1, _⟩
  · rw [h1, h2]; rfl
  · rw [h1]; rfl
def WRel (cb : Nat) (a : Option Addr) (len cap : Nat) (w : World) (v : Value) (wr : World) : Prop :=
  ∃ xs : List Int, xs.length ≤ 65 ∧ AllI xs ∧ RowI w.heap.size v xs wr ∧ Cur cb a len cap wr ∧ w.grownBy wr (some cb)

set_option maxHeartbeats 1600000 in
theorem l03w_any (cb : Nat) (a : Option Addr) (len cap : Nat) (w : World) (hcb : cb < w.heap.size) (hap : 0 < len → ∀ b off, a = some ⟨b, off, none⟩ → b < w.heap.size) (hc : Cur cb a len cap w) :
    Calls Try.prog 103 #[.pointer (some ⟨cb, 0, none⟩)] w (DrewL 65 cb a len cap w) := by
  obtain ⟨i0, hi, hz0, hz1, hz2⟩ := info_parts info_int
  have HAP := Lib.hid hap
  clear hap
  go_enter Try.func103, Try.ntmps103
  go_wp2
  have hr0 : RowI w.heap.size (.slice (some ⟨w.heap.size, 0, none⟩) 0 0) [] (w.alloc (.cells #[] 3)) := World.ownsRow_lit w #[] 0 (Nat.le_refl _) (by unfold maxLen; omega) rfl
  have g0 : w.grownBy (w.alloc (.cells #[] 3)) (some cb) := World.grownBy_alloc w _ _
  have hc0 : Cur cb a len cap (w.alloc (.cells #[] 3)) := hc.kept hcb (World.grownBy_alloc w _ none) (fun k hk => by cases hk)
  have HR0 := Lib.hid hr0
  clear hr0 hc
  generalize w.alloc (.cells #[] 3) = w0 at *
  go_loopw [3, 4] (LRel 5 cb a len cap w) (fun _ i _ => 5 - (intOf i).toNat)
  case atStart => exact ⟨0, [], by omega, rfl, rfl, (fun z hz => by cases hz), HR0.out, hc0, g0⟩
  case round =>
    obtain ⟨k, xs, hk, rfl, hxl, hxa, hr, hcw, hg⟩ := hrel
    have HXL := Lib.hid hxl
    have HR := Lib.hid hr
    have HXA := Lib.hid hxa
    clear hxl hr HR0 hxa
    go_wp2_with (fail)
    refine (below_pos 6 cb a len cap wr (by omega) (by omega) hcw).mono ?_
    rintro e w1 ⟨x, rfl, x0, x1, c1, g1, s1⟩
    have S1 := Lib.hid s1
    clear s1 hcw
    have hg1 := gr_trans hg g1
    have HR1 := Lib.hid (HR.out.cur g1 hcb)
    clear HR g1 hg
    have hcb1 : cb < w1.heap.size := Nat.lt_of_lt_of_le hcb hg1.size
    by_cases hlt : (k : Int) < x
    · go_wp2_with (fail)
      refine (below_pos 500 cb a len cap w1 (by omega) (by omega) c1).mono ?_
      rintro e w4 ⟨q, rfl, q0, q1, c4, g4, s4⟩
      have hg4 := gr_trans hg1 g4
      have HR4 := Lib.hid (HR1.out.cur g4 hcb)
      have hcb4 : cb < w4.heap.size := Nat.lt_of_lt_of_le hcb hg4.size
      have HS4 := Lib.hid hg4.size
      clear s4 g4 HR1 hg1 c1 hcb1
      go_wp2_with (fail)
      have hl := lit_ints w4 [0, 1, 1, 2, 3, 1000, 1073741824, q] (by intro z hz; simp at hz; omega)
      have ga := World.grownBy_alloc w4 (.cells ([0, 1, 1, 2, 3, 1000, 1073741824, q].map (Value.int .i64)).toArray 3) none
      have hc5 : Cur cb a len cap (w4.alloc (.cells ([0, 1, 1, 2, 3, 1000, 1073741824, q].map (Value.int .i64)).toArray 3)) := c4.kept hcb4 ga (fun k hk => by cases hk)
      refine (pick_any w4.heap.size 0 8 8 _ cb a len cap _ (by omega) (by omega) hl (by omega) hc5).mono ?_
      rintro e w2 ⟨y, rfl, y0, y1, c2, g2⟩
      have hg2 := gr_trans (gr_trans hg4 (gr_none ga (some cb))) g2
      have HR2 := Lib.hid ((show RowI w.heap.size u3 xs _ from World.ownsRow.alloc HR4.out (.cells ([0, 1, 1, 2, 3, 1000, 1073741824, q].map (Value.int .i64)).toArray 3)).cur g2 hcb)
      have HS2 := Lib.hid hg2.size
      have hxl5 : xs.length ≤ 5 := by have := HXL.out; omega
      clear hl ga hc5 g2 hg4 c4 HR4
      go_wp2_with (at_builtin; refine wpList_append_own _ rfl _ _ 59 rfl w.heap.size 3 i0 (.int .i64 0) 1 8 Try.underlying59 hi hz0 hz1 hz2 rfl (by decide) _ _ _ rfl (World.ownsRow.alloc HR2.out _) ⟨w2.heap.size, 0, none⟩ 1 1 [.int .i64 y] rfl rfl (one_int _ _ _) ?c2 ?c3 ?c4 ?c5 ?_)
      case c2 => intro u hu; simp at hu; subst hu; rfl
      case c3 => unfold maxLen; omega
      case c4 => omega
      case c5 => have := HS2.out; simp; omega
      intro v' w3 hown3 hgr _
      have ga := World.grownBy_alloc w2 (.cells #[Value.int .i64 y] 3) none
      have hcA := c2.kept (Nat.lt_of_lt_of_le hcb hg2.size) ga (fun k hk => by cases hk)
      have HRA : RowI w.heap.size u3 xs (w2.alloc (.cells #[Value.int .i64 y] 3)) := World.ownsRow.alloc HR2.out _
      have hgA := gr_trans hg2 (gr_none ga (some cb))
      have C3 := Lib.hid (Cur.row hcb hcA hgA HRA hgr HAP.out)
      have G3 := Lib.hid (gr_row hgA HRA hgr)
      have R3 := Lib.hid (show RowI w.heap.size v' (xs ++ [y]) w3 by unfold RowI; simpa using hown3)
      clear hown3 hgr ga hcA HRA hgA HR2 hg2 c2
      go_wp2
      go_roundw
      case rel => exact ⟨k + 1, xs ++ [y], by omega, by go_num, by have := HXL.out; simp; omega, HXA.out.snoc y0 y1, R3.out, C3.out, G3.out⟩
      case measure => simp [intOf]; omega
    · go_wp2_with (fail)
      refine (once_any 12 cb a len cap w1 (by omega) (by omega) c1).mono ?_
      rintro e w2 ⟨t, rfl, c2, g2⟩
      have hg2 := gr_trans hg1 g2
      have HR2 := Lib.hid (HR1.out.cur g2 hcb)
      have hcb2 : cb < w2.heap.size := Nat.lt_of_lt_of_le hcb hg2.size
      clear g2 HR1 hg1 c1 hcb1
      cases t with
      | false =>
        have C2 := Lib.hid c2
        have G2 := Lib.hid hg2
        have HYL : xs.length ≤ 6 := by have := HXL.out; omega
        have YL := Lib.hid HYL
        clear c2 hg2 HYL
        go_wp2_with (fail)
        refine (once_any 30 cb a len cap w2 (by omega) (by omega) C2.out).mono ?_
        rintro e w7 ⟨t, rfl, c7, g7⟩
        have hg7 := gr_trans G2.out g7
        have HR7 := Lib.hid (HR2.out.cur g7 hcb)
        clear g7 HR2 C2 G2
        cases t with
        | false =>
          go_wp2
          go_ret
          exact ⟨_, xs, rfl, by have := YL.out; omega, HXA.out, HR7.out, c7, hg7⟩
        | true =>
          go_wp2
          go_loopw [3] (WRel cb a len cap w) (fun v _ => 65 - slLen v)
          case atStart => exact ⟨xs, by have := YL.out; omega, HXA.out, HR7.out, c7, hg7⟩
          case round =>
            obtain ⟨zs, hzl, hza, hr, hcw, hg⟩ := hrel
            obtain ⟨az, cz, rfl, hzi⟩ := hr.slice hza
            have HR := Lib.hid hr
            have HZA := Lib.hid hza
            clear hr hza hzi HR7 HXA YL
            go_wp2_with (fail)
            refine (below_pos 2 cb a len cap wr (by omega) (by omega) hcw).mono ?_
            rintro e w8 ⟨x, rfl, x0, x1, c8, g8, s8⟩
            have hg8 := gr_trans hg g8
            have HR8 := Lib.hid (HR.out.cur g8 hcb)
            have HS8 := Lib.hid hg8.size
            clear s8 g8 HR hg hcw
            by_cases hlt : (zs.length : Int) < 64 + x
            · go_wp2_with (at_builtin; refine wpList_append_own _ rfl _ _ 59 rfl w.heap.size 3 i0 (.int .i64 0) 1 8 Try.underlying59 hi hz0 hz1 hz2 rfl (by decide) _ _ _ rfl (World.ownsRow.alloc HR8.out _) ⟨w8.heap.size, 0, none⟩ 1 1 [.int .i64 1] rfl rfl (one_int _ _ _) ?c2 ?c3 ?c4 ?c5 ?_)
              case c2 => intro u hu; simp at hu; subst hu; rfl
              case c3 => unfold maxLen; omega
              case c4 => omega
              case c5 => have := HS8.out; simp; omega
              intro v' w9 hown9 hgr _
              have ga := World.grownBy_alloc w8 (.cells #[Value.int .i64 1] 3) none
              have hcA := c8.kept (Nat.lt_of_lt_of_le hcb hg8.size) ga (fun k hk => by cases hk)
              have HRA : RowI w.heap.size (.slice az zs.length cz) zs (w8.alloc (.cells #[Value.int .i64 1] 3)) := World.ownsRow.alloc HR8.out _
              have hgA := gr_trans hg8 (gr_none ga (some cb))
              have C9 := Lib.hid (Cur.row hcb hcA hgA HRA hgr HAP.out)
              have G9 := Lib.hid (gr_row hgA HRA hgr)
              have R9 := Lib.hid (show RowI w.heap.size v' (zs ++ [1]) w9 by unfold RowI; simpa using hown9)
              clear hown9 hgr ga hcA HRA hgA HR8 hg8 c8
              go_wp2
              go_roundw
              case rel => exact ⟨zs ++ [1], by simp; omega, HZA.out.snoc (by omega) (by omega), R9.out, C9.out, G9.out⟩
              case measure => rw [R9.out.len]; simp [slLen]; omega
            · go_wp2
              go_ret
              exact ⟨_, zs, rfl, hzl, HZA.out, HR8.out, c8, hg8⟩
      | true =>
        go_wp2_with (fail)
        have hl := lit_ints w2 [-1, 1073741825, 9223372036854775807] (by decide)
        have ga := World.grownBy_alloc w2 (.cells ([-1, 1073741825, 9223372036854775807].map (Value.int .i64)).toArray 3) none
        have hc5 : Cur cb a len cap (w2.alloc (.cells ([-1, 1073741825, 9223372036854775807].map (Value.int .i64)).toArray 3)) := c2.kept hcb2 ga (fun k hk => by cases hk)
        refine (pick_any w2.heap.size 0 3 3 _ cb a len cap _ (by omega) (by omega) hl (by omega) hc5).mono ?_
        rintro e w5 ⟨y, rfl, y0, y1, c5, g5⟩
        have hg5 := gr_trans (gr_trans hg2 (gr_none ga (some cb))) g5
        have HR5 := Lib.hid ((show RowI w.heap.size u3 xs _ from World.ownsRow.alloc HR2.out (.cells ([-1, 1073741825, 9223372036854775807].map (Value.int .i64)).toArray 3)).cur g5 hcb)
        have HS5 := Lib.hid hg5.size
        have hxl5 : xs.length ≤ 5 := by have := HXL.out; omega
        clear hl ga hc5 g5 hg2 c2 HR2
        go_wp2_with (at_builtin; refine wpList_append_own _ rfl _ _ 59 rfl w.heap.size 3 i0 (.int .i64 0) 1 8 Try.underlying59 hi hz0 hz1 hz2 rfl (by decide) _ _ _ rfl (World.ownsRow.alloc HR5.out _) ⟨w5.heap.size, 0, none⟩ 1 1 [.int .i64 y] rfl rfl (one_int _ _ _) ?c2 ?c3 ?c4 ?c5 ?_)
        case c2 => intro u hu; simp at hu; subst hu; rfl
        case c3 => unfold maxLen; omega
        case c4 => omega
        case c5 => have := HS5.out; simp; omega
        intro v' w6 hown3 hgr _
        have ga := World.grownBy_alloc w5 (.cells #[Value.int .i64 y] 3) none
        have hcA := c5.kept (Nat.lt_of_lt_of_le hcb hg5.size) ga (fun k hk => by cases hk)
        have HRA : RowI w.heap.size u3 xs (w5.alloc (.cells #[Value.int .i64 y] 3)) := World.ownsRow.alloc HR5.out _
        have hgA := gr_trans hg5 (gr_none ga (some cb))
        have C2 := Lib.hid (Cur.row hcb hcA hgA HRA hgr HAP.out)
        have G2 := Lib.hid (gr_row hgA HRA hgr)
        have HR2 := Lib.hid (show RowI w.heap.size v' (xs ++ [y]) w6 by unfold RowI; simpa using hown3)
        have HYL : (xs ++ [y]).length ≤ 6 := by simp; omega
        have YL := Lib.hid HYL
        have YA := Lib.hid (HXA.out.snoc y0 y1)
        clear hown3 hgr ga hcA HRA hgA HR5 hg5 c5 HYL
        go_wp2_with (fail)
        refine (once_any 30 cb a len cap w6 (by omega) (by omega) C2.out).mono ?_
        rintro e w7 ⟨t, rfl, c7, g7⟩
        have hg7 := gr_trans G2.out g7
        have HR7 := Lib.hid (HR2.out.cur g7 hcb)
        clear g7 HR2 C2 G2
        cases t with
        | false =>
          go_wp2
          go_ret
          exact ⟨_, (xs ++ [y]), rfl, by have := YL.out; omega, YA.out, HR7.out, c7, hg7⟩
        | true =>
          go_wp2
          go_loopw [3] (WRel cb a len cap w) (fun v _ => 65 - slLen v)
          case atStart => exact ⟨(xs ++ [y]), by have := YL.out; omega, YA.out, HR7.out, c7, hg7⟩
          case round =>
            obtain ⟨zs, hzl, hza, hr, hcw, hg⟩ := hrel
            obtain ⟨az, cz, rfl, hzi⟩ := hr.slice hza
            have HR := Lib.hid hr
            have HZA := Lib.hid hza
            clear hr hza hzi HR7 YA YL
            go_wp2_with (fail)
            refine (below_pos 2 cb a len cap wr (by omega) (by omega) hcw).mono ?_
            rintro e w8 ⟨x, rfl, x0, x1, c8, g8, s8⟩
            have hg8 := gr_trans hg g8
            have HR8 := Lib.hid (HR.out.cur g8 hcb)
            have HS8 := Lib.hid hg8.size
            clear s8 g8 HR hg hcw
            by_cases hlt : (zs.length : Int) < 64 + x
            · go_wp2_with (at_builtin; refine wpList_append_own _ rfl _ _ 59 rfl w.heap.size 3 i0 (.int .i64 0) 1 8 Try.underlying59 hi hz0 hz1 hz2 rfl (by decide) _ _ _ rfl (World.ownsRow.alloc HR8.out _) ⟨w8.heap.size, 0, none⟩ 1 1 [.int .i64 1] rfl rfl (one_int _ _ _) ?c2 ?c3 ?c4 ?c5 ?_)
              case c2 => intro u hu; simp at hu; subst hu; rfl
              case c3 => unfold maxLen; omega
              case c4 => omega
              case c5 => have := HS8.out; simp; omega
              intro v' w9 hown9 hgr _
              have ga := World.grownBy_alloc w8 (.cells #[Value.int .i64 1] 3) none
              have hcA := c8.kept (Nat.lt_of_lt_of_le hcb hg8.size) ga (fun k hk => by cases hk)
              have HRA : RowI w.heap.size (.slice az zs.length cz) zs (w8.alloc (.cells #[Value.int .i64 1] 3)) := World.ownsRow.alloc HR8.out _
              have hgA := gr_trans hg8 (gr_none ga (some cb))
              have C9 := Lib.hid (Cur.row hcb hcA hgA HRA hgr HAP.out)
              have G9 := Lib.hid (gr_row hgA HRA hgr)
              have R9 := Lib.hid (show RowI w.heap.size v' (zs ++ [1]) w9 by unfold RowI; simpa using hown9)
              clear hown9 hgr ga hcA HRA hgA HR8 hg8 c8
              go_wp2
              go_roundw
              case rel => exact ⟨zs ++ [1], by simp; omega, HZA.out.snoc (by omega) (by omega), R9.out, C9.out, G9.out⟩
              case measure => rw [R9.out.len]; simp [slLen]; omega
            · go_wp2
              go_ret
              exact ⟨_, zs, rfl, hzl, HZA.out, HR8.out, c8, hg8⟩
end Go.Proofs.Ytdhgachfenkbgaa

/-
  The drawing of Sides (spec.l17List, DrawPlaceAcross, DrawCrossOf): at most 13, their numbers in range, in a row of the call's own; nothing but the cursor turns. Conditions: those of the cursor.
-/
import Derived.Test.YtdpibpelghnihaaSaD
import Derived.Test.YtdpibpelghnihaaSaQ
namespace Go.Proofs.Ytdpibpelghnihaa
open Go.ChangeShapes Go.WideShapes Go.ChangeAt Go.RowKit
set_option linter.unusedVariables false
set_option linter.unusedSimpArgs false
set_option maxRecDepth 20000

def DrewSa (most : Nat) (cb : Nat) (a : Option Addr) (len cap : Nat) (w : World) (e : Ending) (w' : World) : Prop :=
  ∃ (v : Value) (xs : List Sa), e = .returned v ∧ xs.length ≤ most ∧ (∀ x ∈ xs, x.inr) ∧ RowS w.heap.size v xs w' ∧ Cur cb a len cap w' ∧ w.grownBy w' (some cb)
def SaRel (most : Nat) (cb : Nat) (a : Option Addr) (len cap : Nat) (w : World) (v i : Value) (wr : World) : Prop :=
  ∃ (k : Nat) (xs : List Sa), k ≤ most ∧ i = .int .i64 k ∧ xs.length = k ∧ (∀ x ∈ xs, x.inr) ∧ RowS w.heap.size v xs wr ∧ Cur cb a len cap wr ∧ w.grownBy wr (some cb)
def ARel17 (most : Nat) (cb : Nat) (a : Option Addr) (len cap : Nat) (w : World) (v : Value) (wr : World) : Prop :=
  ∃ (xs : List Sa), xs.length ≤ most ∧ (∀ x ∈ xs, x.inr) ∧ RowS w.heap.size v xs wr ∧ Cur cb a len cap wr ∧ w.grownBy wr (some cb)
theorem inr_snoc {xs : List Sa} {x : Sa} (h : ∀ y ∈ xs, y.inr) (hx : x.inr) : ∀ y ∈ xs ++ [x], y.inr := by
  intro y hy
  rcases List.mem_append.1 hy with hy | hy
  · exact h y hy
  · rw [List.mem_singleton.1 hy]; exact hx
/-- The cursor and its code, apart from a row that was made later. -/
theorem Cur.rowS {cb : Nat} {a : Option Addr} {len cap : Nat} {w wr w' : World} {v : Value} {xs : List Sa} (hcb : cb < w.heap.size) (hc : Cur cb a len cap wr) (hg : w.grownBy wr (some cb)) (hr : RowS w.heap.size v xs wr) (hgr : wr.grownBy w' v.ownBlock) (hap : 0 < len → ∀ b off, a = some ⟨b, off, none⟩ → b < w.heap.size) : Cur cb a len cap w' :=
  hc.kept (Nat.lt_of_lt_of_le hcb hg.size) hgr (fun g hg' => by
    have h1 := (World.ownsRow.lt hr g hg').1
    exact ⟨by omega, fun h0 b off e => by have := hap h0 b off e; omega⟩)
theorem gr_rowS {cb : Nat} {w wr w' : World} {v : Value} {xs : List Sa} (hg : w.grownBy wr (some cb)) (hr : RowS w.heap.size v xs wr) (hgr : wr.grownBy w' v.ownBlock) : w.grownBy w' (some cb) :=
  ⟨hgr.os.trans hg.os, hgr.tape.trans hg.tape, hgr.output.trans hg.output, Nat.le_trans hg.size hgr.size, fun i hi hne =>
    (hgr.block i (Nat.lt_of_lt_of_le hi hg.size) (fun e => by have := (World.ownsRow.lt hr i e.symm).1; omega)).trans (hg.block i hi hne)⟩
theorem RowS.cur {b cb : Nat} {v : Value} {xs : List Sa} {w w' : World} (h : RowS b v xs w) (hg : w.grownBy w' (some cb)) (hcb : cb < b) : RowS b v xs w' := h.kept hg (by
  cases h0 : v.ownBlock with
  | none => exact Or.inl rfl
  | some g =>
    refine Or.inr fun e => ?_
    have := (World.ownsRow.lt h g h0).1
    simp at e; omega)
theorem sa_new {w : World} {x : Sa} {t : TypeId} (j : Nat) (u : Value) (hj : x.L[j]? = some u) : (w.alloc (.cells x.A t)).cell? ((⟨w.heap.size, 0, none⟩ : Addr).add j) = some u := by
  have h := range_block (hp_new w (.cells x.A t)) j u hj
  have e : ((⟨w.heap.size, 0, none⟩ : Addr).add j) = ⟨w.heap.size, 0 + j, none⟩ := by
    cases j <;> simp [Addr.add]
  rw [e]
  exact h
theorem RowS.sl {lo : Nat} {v : Value} {xs : List Sa} {w : World} (h : RowS lo v xs w) : ∃ a n c, v = .slice a n c := by
  rcases h.2 with ⟨h, _⟩ | ⟨g, c, _, h, _⟩
  · exact ⟨_, _, _, h⟩
  · exact ⟨_, _, _, h⟩
def slNs : Value → Nat
  | .slice _ n _ => n
  | _ => 0
theorem RowS.len {b : Nat} {v : Value} {xs : List Sa} {w : World} (h : RowS b v xs w) : slNs v = xs.length := by
  rcases h.2 with ⟨h1, h2⟩ | ⟨g, cap, cur, h1, _⟩
  · rw [h1, h2]; rfl
  · rw [h1]; rfl
set_option maxHeartbeats 4000000 in
theorem drawsas (cb : Nat) (a : Option Addr) (len cap : Nat) (w : World) (hcb : cb < w.heap.size) (hap : 0 < len → ∀ b off, a = some ⟨b, off, none⟩ → b < w.heap.size) (hc : Cur cb a len cap w) :
    Calls Try.prog 33 #[.pointer (some ⟨cb, 0, none⟩)] w (DrewSa 13 cb a len cap w) := by
  obtain ⟨i0, hi, hz0, hz1, hz2⟩ := info_parts info_side
  have HAP := Lib.hid hap
  clear hap
  go_enter Try.func33, Try.ntmps33
  go_wp2
  have hr0 : RowS w.heap.size (.slice (some ⟨w.heap.size, 0, none⟩) 0 0) [] (w.alloc (.cells #[] 25)) := World.ownsRow_lit w #[] 0 (Nat.le_refl _) (by unfold maxLen; omega) rfl
  have g0 : w.grownBy (w.alloc (.cells #[] 25)) (some cb) := World.grownBy_alloc w _ _
  have hc0 : Cur cb a len cap (w.alloc (.cells #[] 25)) := hc.kept hcb (World.grownBy_alloc w _ none) (fun k hk => by cases hk)
  have HR0 := Lib.hid hr0
  clear hr0 hc
  generalize w.alloc (.cells #[] 25) = w0 at *
  go_loopw [3, 4] (SaRel 4 cb a len cap w) (fun _ i _ => 4 - (intOf i).toNat)
  case atStart => exact ⟨0, [], by omega, rfl, rfl, (fun z hz => by cases hz), HR0.out, hc0, g0⟩
  case round =>
    obtain ⟨k, xs, hk, rfl, hxl, hxa, hr, hcw, hg⟩ := hrel
    have HXL := Lib.hid hxl
    have HR := Lib.hid hr
    have HXA := Lib.hid hxa
    clear hxl hr HR0 hxa
    go_wp2_with (fail)
    refine (below_pos 5 cb a len cap wr (by omega) (by omega) hcw).mono ?_
    rintro e w1 ⟨x, rfl, x0, x1, c1, g1, s1⟩
    clear s1 hcw
    have hg1 := gr_trans hg g1
    have HR1 := Lib.hid (HR.out.cur g1 hcb)
    clear HR g1 hg
    have hcb1 : cb < w1.heap.size := Nat.lt_of_lt_of_le hcb hg1.size
    by_cases hlt : (k : Int) < x
    · (try dsimp only)
      go_wp2_with (fail)
      refine (once_any 4 cb a len cap w1 (by omega) (by omega) c1).mono ?_
      rintro e w2 ⟨t, rfl, c2, g2⟩
      have hg2 := gr_trans hg1 g2
      have HR2 := Lib.hid (HR1.out.cur g2 hcb)
      have hcb2 : cb < w2.heap.size := Nat.lt_of_lt_of_le hcb hg2.size
      clear HR1 g2 hg1 c1
      cases t
      · (try dsimp only)
        go_wp2_with (fail)
        refine (drawsa cb a len cap w2 hcb2 (fun h0 b off e => Nat.lt_of_lt_of_le (HAP.out h0 b off e) hg2.size) c2).mono ?_
        rintro e w3 ⟨y, rfl, hy0, c3, g3⟩
        have hy : y.inr := hy0.inr
        have hg3 := gr_trans hg2 g3
        have HY := Lib.hid hy
        have HR3 := Lib.hid (HR2.out.cur g3 hcb)
        have HS3 := Lib.hid hg3.size
        have hxl5 : xs.length ≤ 4 := by have := HXL.out; omega
        clear HR2 g3 hg2 c2 hy hy0
        go_wp2_with (at_builtin; refine wpList_append_own _ rfl _ _ 29 rfl w.heap.size 25 i0 _ 7 48 Try.underlying29 hi hz0 hz1 hz2 rfl (by decide) _ _ _ rfl (World.ownsRow.alloc HR3.out _) ⟨w3.heap.size, 0, none⟩ 1 1 y.L rfl rfl sa_new y.L_one ?c3 ?c4 ?c5 ?_)
        case c3 => unfold maxLen; omega
        case c4 => omega
        case c5 => have := HS3.out; simp; omega
        intro v' w9 hown9 hgr _
        have ga := World.grownBy_alloc w3 (.cells y.A 25) none
        have hcA := c3.kept (Nat.lt_of_lt_of_le hcb hg3.size) ga (fun k hk => by cases hk)
        have HRA : RowS w.heap.size u3 xs (w3.alloc (.cells y.A 25)) := World.ownsRow.alloc HR3.out _
        have hgA := gr_trans hg3 (gr_none ga (some cb))
        have C9 := Lib.hid (Cur.rowS hcb hcA hgA HRA hgr HAP.out)
        have G9 := Lib.hid (gr_rowS hgA HRA hgr)
        have R9 := Lib.hid (show RowS w.heap.size v' (xs ++ [y]) w9 by unfold RowS; rw [cellsA_push, List.length_append]; exact hown9)
        clear hown9 hgr ga hcA HRA hgA HR3 hg3 c3
        go_wp2
        go_roundw
        case rel => exact ⟨k + 1, xs ++ [y], by omega, by go_num, by have := HXL.out; simp; omega, inr_snoc HXA.out HY.out, R9.out, C9.out, G9.out⟩
        case measure => simp [intOf]; omega
      · (try dsimp only)
        go_wp2_with (fail)
        refine (drawsany cb a len cap w2 hcb2 (fun h0 b off e => Nat.lt_of_lt_of_le (HAP.out h0 b off e) hg2.size) c2).mono ?_
        rintro e w3 ⟨y, rfl, hy0, c3, g3⟩
        have hy : y.inr := hy0
        have hg3 := gr_trans hg2 g3
        have HY := Lib.hid hy
        have HR3 := Lib.hid (HR2.out.cur g3 hcb)
        have HS3 := Lib.hid hg3.size
        have hxl5 : xs.length ≤ 4 := by have := HXL.out; omega
        clear HR2 g3 hg2 c2 hy hy0
        go_wp2_with (at_builtin; refine wpList_append_own _ rfl _ _ 29 rfl w.heap.size 25 i0 _ 7 48 Try.underlying29 hi hz0 hz1 hz2 rfl (by decide) _ _ _ rfl (World.ownsRow.alloc HR3.out _) ⟨w3.heap.size, 0, none⟩ 1 1 y.L rfl rfl sa_new y.L_one ?c3 ?c4 ?c5 ?_)
        case c3 => unfold maxLen; omega
        case c4 => omega
        case c5 => have := HS3.out; simp; omega
        intro v' w9 hown9 hgr _
        have ga := World.grownBy_alloc w3 (.cells y.A 25) none
        have hcA := c3.kept (Nat.lt_of_lt_of_le hcb hg3.size) ga (fun k hk => by cases hk)
        have HRA : RowS w.heap.size u3 xs (w3.alloc (.cells y.A 25)) := World.ownsRow.alloc HR3.out _
        have hgA := gr_trans hg3 (gr_none ga (some cb))
        have C9 := Lib.hid (Cur.rowS hcb hcA hgA HRA hgr HAP.out)
        have G9 := Lib.hid (gr_rowS hgA HRA hgr)
        have R9 := Lib.hid (show RowS w.heap.size v' (xs ++ [y]) w9 by unfold RowS; rw [cellsA_push, List.length_append]; exact hown9)
        clear hown9 hgr ga hcA HRA hgA HR3 hg3 c3
        go_wp2
        go_roundw
        case rel => exact ⟨k + 1, xs ++ [y], by omega, by go_num, by have := HXL.out; simp; omega, inr_snoc HXA.out HY.out, R9.out, C9.out, G9.out⟩
        case measure => simp [intOf]; omega
    · (try dsimp only)
      have HREL := Lib.hid (show ARel17 4 cb a len cap w u3 w1 from ⟨xs, by have := HXL.out; omega, HXA.out, HR1.out, c1, hg1⟩)
      clear HXL HXA HR1
      go_wp2_with (fail)
      refine (once_any 30 cb a len cap w1 (by omega) (by omega) c1).mono ?_
      rintro e w2 ⟨t, rfl, c2, g2⟩
      obtain ⟨zs, hl, hx, hr, _, _⟩ := HREL.out
      have hr2 := hr.cur g2 hcb
      have hg2 := gr_trans hg1 g2
      have HREL2 := Lib.hid (show ARel17 13 cb a len cap w u3 w2 from ⟨zs, by omega, hx, hr2, c2, hg2⟩)
      clear hr hr2 hl hx HREL c1 c2 hg1 g2 hg2
      cases t
      · (try dsimp only)
        obtain ⟨zs, hl, hx, hr, c2, hg2⟩ := HREL2.out
        have HX := Lib.hid hx
        have HR := Lib.hid hr
        clear hx hr HREL2
        go_wp2
        go_ret
        exact ⟨_, zs, rfl, hl, HX.out, HR.out, c2, hg2⟩
      · (try dsimp only)
        go_wp2_with (fail)
        go_loopw [3] (fun v wr => ARel17 13 cb a len cap w v wr) (fun v _ => 13 - slNs v)
        case atStart => exact HREL2.out
        case round =>
          clear HREL2
          obtain ⟨zs, hl, hx, hr, hcw, hg⟩ := hrel
          have hlen := hr.len
          obtain ⟨va', vn', vc', rfl⟩ := hr.sl
          obtain rfl : vn' = zs.length := hlen
          have HX := Lib.hid hx
          have HR := Lib.hid hr
          clear hx hr
          go_wp2_with (fail)
          refine (below_pos 2 cb a len cap _ (by omega) (by omega) hcw).mono ?_
          rintro e w2 ⟨x, rfl, x0, x1, c2, g2, s2⟩
          clear s2 hcw
          have hg2 := gr_trans hg g2
          have HR2 := Lib.hid (HR.out.cur g2 hcb)
          have hcb2 : cb < w2.heap.size := Nat.lt_of_lt_of_le hcb hg2.size
          clear HR g2 hg
          by_cases hlt : (zs.length : Int) < 12 + x
          · (try dsimp only)
            go_wp2_with (fail)
            refine (drawsa cb a len cap w2 hcb2 (fun h0 b off e => Nat.lt_of_lt_of_le (HAP.out h0 b off e) hg2.size) c2).mono ?_
            rintro e w3 ⟨y, rfl, hy, c3, g3⟩
            have hg3 := gr_trans hg2 g3
            have HY := Lib.hid hy.inr
            have HR3 := Lib.hid (HR2.out.cur g3 hcb)
            have HS3 := Lib.hid hg3.size
            clear HR2 g3 hg2 c2 hy
            go_wp2_with (at_builtin; refine wpList_append_own _ rfl _ _ 29 rfl w.heap.size 25 i0 _ 7 48 Try.underlying29 hi hz0 hz1 hz2 rfl (by decide) _ _ _ rfl (World.ownsRow.alloc HR3.out _) ⟨w3.heap.size, 0, none⟩ 1 1 y.L rfl rfl sa_new y.L_one ?c3 ?c4 ?c5 ?_)
            case c3 => unfold maxLen; omega
            case c4 => omega
            case c5 => have := HS3.out; simp; omega
            intro v' w9 hown9 hgr _
            have ga := World.grownBy_alloc w3 (.cells y.A 25) none
            have hcA := c3.kept (Nat.lt_of_lt_of_le hcb hg3.size) ga (fun k hk => by cases hk)
            have HRA : RowS w.heap.size (.slice va' zs.length vc') zs (w3.alloc (.cells y.A 25)) := World.ownsRow.alloc HR3.out _
            have hgA := gr_trans hg3 (gr_none ga (some cb))
            have C9 := Lib.hid (Cur.rowS hcb hcA hgA HRA hgr HAP.out)
            have G9 := Lib.hid (gr_rowS hgA HRA hgr)
            have R9 := Lib.hid (show RowS w.heap.size v' (zs ++ [y]) w9 by unfold RowS; rw [cellsA_push, List.length_append]; exact hown9)
            clear hown9 hgr ga hcA HRA hgA HR3 hg3 c3
            have hln := R9.out.len
            obtain ⟨va5, vn5, vc5, rfl⟩ := R9.out.sl
            have HLN := Lib.hid (show vn5 = zs.length + 1 by have h : vn5 = (zs ++ [y]).length := hln; rw [h]; simp)
            clear hln
            go_wp2
            go_roundw
            case rel => exact ⟨zs ++ [y], by simp; omega, inr_snoc HX.out HY.out, R9.out, C9.out, G9.out⟩
            case measure => have := HLN.out; simp only [slNs]; omega
          · (try dsimp only)
            go_wp2
            go_ret
            exact ⟨_, zs, rfl, hl, HX.out, HR2.out, c2, hg2⟩
def CoCase (w : World) (e : Ending) (w' : World) : Prop :=
  ∃ (v : Value) (xs : List Sa), e = .returned v ∧ xs.length ≤ 13 ∧ (∀ x ∈ xs, x.inr) ∧ RowS w.heap.size v xs w' ∧ Below w.heap.size w w'
set_option maxHeartbeats 4000000 in
theorem draw_crossof (a : Option Addr) (len cap : Nat) (w : World) (hl : len ≤ 1048576) (hc : Code w a len) :
    Calls Try.prog 13 #[.slice a len cap] w (CoCase w) := by
  go_enter Try.func13, Try.ntmps13
  go_wp2_with (fail)
  refine (new_cur a len cap w hl hc).mono ?_
  rintro e w1 ⟨rfl, c1, b1, l1⟩
  have hap : 0 < len → ∀ b off, a = some ⟨b, off, none⟩ → b < w1.heap.size := fun h0 b off e => Nat.lt_trans (code_lt hc h0 b off e) l1
  clear hc
  (try dsimp only)
  go_wp2_with (fail)
  refine (drawsas w.heap.size a len cap w1 l1 hap c1).mono ?_
  rintro e w2 ⟨v, xs, rfl, hxl, hx, hr, c2, g2⟩
  have B2 := Lib.hid (b1.grown g2 b1.size (fun g hg => by simp at hg; omega))
  have HX := Lib.hid hx
  have HR := Lib.hid (hr.lower b1.size)
  clear c1 b1 hx hr g2 hap c2
  (try dsimp only)
  go_wp2
  go_ret
  exact ⟨_, xs, rfl, hxl, HX.out, HR.out, B2.out⟩

theorem results_sa3 {fn : Func} {p q r : Tmp} {b c : Value} {g : Nat} {t : TypeId} {x : Sa} {w : World} (h : fn.results = #[.cell p 25, .tmp q, .tmp r]) {tmps : Array Value} (hp : tmps.getD p undef = .pointer (some ⟨g, 0, none⟩)) (hq : tmps.getD q undef = b) (hr : tmps.getD r undef = c)
    (hg : w.heap[g]? = some (.cells x.A t)) : (results fn tmps).run Try.prog w = .ok (.tuple #[.agg #[.int .i64 x.size, .int .i64 x.before, .int .i64 x.behind, .bool x.ab, .bool x.ah, .int .i64 x.al, .int .i64 x.base], b, c]) w := by
  have hp' : tmps[p]?.getD undef = .pointer (some ⟨g, 0, none⟩) := by simpa using hp
  have hq' : tmps[q]?.getD undef = b := by simpa using hq
  have hr' : tmps[r]?.getD undef = c := by simpa using hr
  simp [results, h, hp', hq', hr', asAddr, load_sa hg]
theorem sa_end {u : World} {g : Nat} {t : TypeId} {y : Sa} (x : Sa) (h : u.heap[g]? = some (.cells y.A t)) : (u.setCells g 0 x.L).heap[g]? = some (.cells x.A t) := by
  have := hp_puts x.L 0 _ _ h
  rw [putA_all y.A x.L (by rw [Sa.A_size, Sa.L_len])] at this
  exact this
def PaCase (w : World) (e : Ending) (w' : World) : Prop :=
  ∃ (x : Sa) (cross base : Int), e = .returned (.tuple #[.agg #[.int .i64 x.size, .int .i64 x.before, .int .i64 x.behind, .bool x.ab, .bool x.ah, .int .i64 x.al, .int .i64 x.base], .int .i64 cross, .int .i64 base]) ∧ x.inr ∧ (0 ≤ cross ∧ cross ≤ 1000) ∧ (0 ≤ base ∧ base ≤ 300) ∧ Below w.heap.size w w'
set_option maxHeartbeats 4000000 in
theorem draw_placeacross (a : Option Addr) (len cap : Nat) (w : World) (hl : len ≤ 1048576) (hc : Code w a len) :
    Calls Try.prog 11 #[.slice a len cap] w (PaCase w) := by
  have hap := fun h0 => code_lt hc h0
  have bw := Go.Joins.below_alloc1 w (.cells Sa0.A 25)
  have hc0 := hc.below bw
  have hr0 := hp_new w (.cells Sa0.A 25)
  have hs0 : w.heap.size < (w.alloc (.cells Sa0.A 25)).heap.size := by simp
  obtain ⟨u, eu⟩ : ∃ u, u = w.alloc (.cells Sa0.A 25) := ⟨_, rfl⟩
  rw [← eu] at bw hc0 hr0 hs0
  have EU := Lib.hid (show u = w.alloc (.cells #[.int .i64 0, .int .i64 0, .int .i64 0, .bool false, .bool false, .int .i64 0, .int .i64 0] 25) from eu)
  clear eu
  go_enter Try.func11, Try.ntmps11
  go_wp2_with (rw [← EU.out])
  refine (new_cur a len cap u hl hc0).mono ?_
  rintro e w1 ⟨rfl, c1, b1, s1⟩
  have hr1 := hp_below hr0 b1
  have B1 := bw.trans (b1.mono (by omega))
  have HAP := Lib.hid (show 0 < len → ∀ b off, a = some ⟨b, off, none⟩ → b < w.heap.size from hap)
  have hcw : w.heap.size < u.heap.size := hs0
  generalize u.heap.size = cb at *
  clear b1 bw hc0 hr0 hap hc EU
  (try dsimp only)
  go_wp2_with (fail)
  refine (drawsany cb a len cap w1 s1 (fun h b off e => by have := HAP.out h b off e; have := B1.size; omega) c1).mono ?_
  rintro e w2 ⟨x, rfl, hx, c2, g2⟩
  have hr2 := blk_kept hr1 g2 (by omega)
  have B2 := B1.grown g2 B1.size (fun k hk => by simp at hk; omega)
  have s2 : cb < w2.heap.size := by have := g2.size; omega
  have HX := Lib.hid hx
  clear g2 B1 c1 s1 hr1 hx
  (try dsimp only)
  go_wp2_with (fail)
  refine (pick_r 0 1000 (by omega) (by omega) [0, 100, 640, 1000, 33] 5 rfl (by omega) (by omega) (by intro z hz; simp at hz; omega) cb a len cap w2 s2 c2).mono ?_
  rintro e w3 ⟨cross, rfl, p0, q0, c3, g3⟩
  have hr3 := blk_kept hr2 g3 (by omega)
  have B3 := B2.grown g3 B2.size (fun k hk => by simp at hk; omega)
  have s3 : cb < w3.heap.size := by have := g3.size; omega
  clear g3 B2 c2 s2 hr2
  (try dsimp only)
  go_wp2_with (fail)
  refine (pick_r 0 300 (by omega) (by omega) [0, 10, 300, 100] 4 rfl (by omega) (by omega) (by intro z hz; simp at hz; omega) cb a len cap w3 s3 c3).mono ?_
  rintro e w4 ⟨base, rfl, p1, q1, c4, g4⟩
  have hr4 := blk_kept hr3 g4 (by omega)
  have B4 := B3.grown g4 B3.size (fun k hk => by simp at hk; omega)
  clear g4 B3 c3 s3 hr3 c4
  have T := Lib.hid (there_block hr4 0 7 (by rw [Sa.A_size]; omega))
  have E := Lib.hid (sa_end x hr4)
  have B5 := Lib.hid (bel_cellsA (Nat.le_refl _) x.L 0 w4 B4 : Below w.heap.size w (w4.setCells w.heap.size 0 x.L))
  clear hr4 B4
  (try dsimp only)
  go_wp2_with (first | ((with_reducible apply list_store_sa (x := x)); exact rfl; exact rfl; exact rfl; exact rfl; (with_reducible exact T.out); simp only [World.size_alloc, Act.put, List.setIfInBounds_toArray, List.set_cons_succ, List.set_cons_zero]) | fail)
  exact bodyPost_ret (results_sa3 rfl rfl rfl rfl E.out) rfl ⟨x, cross, base, rfl, HX.out, ⟨p0, q0⟩, ⟨p1, q1⟩, B5.out⟩
end Go.Proofs.Ytdpibpelghnihaa

import Derived.Test.YtnncdpkmhpjmbaaZmAL
section
namespace Go.Proofs.Ytnncdpkmhpjmbaa
open Go.ChangeShapes Go.WideShapes Go.ChangeAt Go.RowKit
set_option linter.unusedVariables false
set_option linter.unusedSimpArgs false
set_option maxRecDepth 20000

def DrewT (most : Nat) (cb : Nat) (a : Option Addr) (len cap : Nat) (w : World) (e : Ending) (w' : World) : Prop :=
  ∃ (v : Value) (xs : List It), e = .returned v ∧ xs.length ≤ most ∧ (∀ x ∈ xs, x.Dr) ∧ RowT w.heap.size v xs w' ∧ Cur cb a len cap w' ∧ w.grownBy w' (some cb)
def TRel (most : Nat) (cb : Nat) (a : Option Addr) (len cap : Nat) (w : World) (v i : Value) (wr : World) : Prop :=
  ∃ (k : Nat) (xs : List It), k ≤ most ∧ i = .int .i64 k ∧ xs.length = k ∧ (∀ x ∈ xs, x.Dr) ∧ RowT w.heap.size v xs wr ∧ Cur cb a len cap wr ∧ w.grownBy wr (some cb)
theorem dr_snoc {xs : List It} {x : It} (h : ∀ y ∈ xs, y.Dr) (hx : x.Dr) : ∀ y ∈ xs ++ [x], y.Dr := by
  intro y hy
  rcases List.mem_append.1 hy with hy | hy
  · exact h y hy
  · rw [List.mem_singleton.1 hy]; exact hx
/-- The cursor and its code, apart from a row that was made later. -/
theorem Cur.rowT {cb : Nat} {a : Option Addr} {len cap : Nat} {w wr w' : World} {v : Value} {xs : List It} (hcb : cb < w.heap.size) (hc : Cur cb a len cap wr) (hg : w.grownBy wr (some cb)) (hr : RowT w.heap.size v xs wr) (hgr : wr.grownBy w' v.ownBlock) (hap : 0 < len → ∀ b off, a = some ⟨b, off, none⟩ → b < w.heap.size) : Cur cb a len cap w' :=
  hc.kept (Nat.lt_of_lt_of_le hcb hg.size) hgr (fun g hg' => by
    have h1 := (World.ownsRow.lt hr g hg').1
    exact ⟨by omega, fun h0 b off e => by have := hap h0 b off e; omega⟩)
theorem gr_rowT {cb : Nat} {w wr w' : World} {v : Value} {xs : List It} (hg : w.grownBy wr (some cb)) (hr : RowT w.heap.size v xs wr) (hgr : wr.grownBy w' v.ownBlock) : w.grownBy w' (some cb) :=
  ⟨hgr.os.trans hg.os, hgr.tape.trans hg.tape, hgr.output.trans hg.output, Nat.le_trans hg.size hgr.size, fun i hi hne =>
    (hgr.block i (Nat.lt_of_lt_of_le hi hg.size) (fun e => by have := (World.ownsRow.lt hr i e.symm).1; omega)).trans (hg.block i hi hne)⟩
theorem RowT.cur {b cb : Nat} {v : Value} {xs : List It} {w w' : World} (h : RowT b v xs w) (hg : w.grownBy w' (some cb)) (hcb : cb < b) : RowT b v xs w' := h.kept hg (by
  cases h0 : v.ownBlock with
  | none => exact Or.inl rfl
  | some g =>
    refine Or.inr fun e => ?_
    have := (World.ownsRow.lt h g h0).1
    simp at e; omega)
theorem it_new {w : World} {x : It} {t : TypeId} (j : Nat) (u : Value) (hj : x.L[j]? = some u) : (w.alloc (.cells x.A t)).cell? ((⟨w.heap.size, 0, none⟩ : Addr).add j) = some u := by
  have h := range_block (hp_new w (.cells x.A t)) j u hj
  have e : ((⟨w.heap.size, 0, none⟩ : Addr).add j) = ⟨w.heap.size, 0 + j, none⟩ := by
    cases j <;> simp [Addr.add]
  rw [e]
  exact h
set_option maxHeartbeats 2000000 in
theorem drawits (cb : Nat) (a : Option Addr) (len cap : Nat) (w : World) (hcb : cb < w.heap.size) (hap : 0 < len → ∀ b off, a = some ⟨b, off, none⟩ → b < w.heap.size) (hc : Cur cb a len cap w) :
    Calls Try.prog 83 #[.pointer (some ⟨cb, 0, none⟩)] w (DrewT 5 cb a len cap w) := by
  obtain ⟨i0, hi, hz0, hz1, hz2⟩ := info_parts info_item
  have HAP := Lib.hid hap
  clear hap
  go_enter Try.func83, Try.ntmps83
  go_wp2
  have hr0 : RowT w.heap.size (.slice (some ⟨w.heap.size, 0, none⟩) 0 0) [] (w.alloc (.cells #[] 40)) := World.ownsRow_lit w #[] 0 (Nat.le_refl _) (by unfold maxLen; omega) rfl
  have g0 : w.grownBy (w.alloc (.cells #[] 40)) (some cb) := World.grownBy_alloc w _ _
  have hc0 : Cur cb a len cap (w.alloc (.cells #[] 40)) := hc.kept hcb (World.grownBy_alloc w _ none) (fun k hk => by cases hk)
  have HR0 := Lib.hid hr0
  clear hr0 hc
  generalize w.alloc (.cells #[] 40) = w0 at *
  go_loopw [3, 4] (TRel 5 cb a len cap w) (fun _ i _ => 5 - (intOf i).toNat)
  case atStart => exact ⟨0, [], by omega, rfl, rfl, (fun z hz => by cases hz), HR0.out, hc0, g0⟩
  case round =>
    obtain ⟨k, xs, hk, rfl, hxl, hxa, hr, hcw, hg⟩ := hrel
    have HXL := Lib.hid hxl
    have HR := Lib.hid hr
    have HXA := Lib.hid hxa
    clear hxl hr HR0 hxa
    go_wp2_with (fail)
    refine (below_pos 6 cb a len cap wr (by omega) (by omega) hcw).mono ?_
    rintro e w1 ⟨x, rfl, x0, x1, c1, g1, s1⟩
    clear s1 hcw
    have hg1 := gr_trans hg g1
    have HR1 := Lib.hid (HR.out.cur g1 hcb)
    clear HR g1 hg
    have hcb1 : cb < w1.heap.size := Nat.lt_of_lt_of_le hcb hg1.size
    by_cases hlt : (k : Int) < x
    · go_wp2_with (fail)
      refine (drawit cb a len cap w1 hcb1 (fun h0 b off e => Nat.lt_of_lt_of_le (HAP.out h0 b off e) hg1.size) c1).mono ?_
      rintro e w2 ⟨y, rfl, hy, c2, g2⟩
      have hg2 := gr_trans hg1 g2
      have HY := Lib.hid hy
      have HR2 := Lib.hid (HR1.out.cur g2 hcb)
      have HS2 := Lib.hid hg2.size
      have hxl5 : xs.length ≤ 5 := by have := HXL.out; omega
      clear HR1 g2 hg1 c1 hy
      go_wp2_with (at_builtin; refine wpList_append_own _ rfl _ _ 34 rfl w.heap.size 40 i0 _ 9 64 Try.underlying34 hi hz0 hz1 hz2 rfl (by decide) _ _ _ rfl (World.ownsRow.alloc HR2.out _) ⟨w2.heap.size, 0, none⟩ 1 1 y.L rfl rfl it_new y.L_one ?c3 ?c4 ?c5 ?_)
      case c3 => unfold maxLen; omega
      case c4 => omega
      case c5 => have := HS2.out; simp; omega
      intro v' w3 hown3 hgr _
      have ga := World.grownBy_alloc w2 (.cells y.A 40) none
      have hcA := c2.kept (Nat.lt_of_lt_of_le hcb hg2.size) ga (fun k hk => by cases hk)
      have HRA : RowT w.heap.size u3 xs (w2.alloc (.cells y.A 40)) := World.ownsRow.alloc HR2.out _
      have hgA := gr_trans hg2 (gr_none ga (some cb))
      have C3 := Lib.hid (Cur.rowT hcb hcA hgA HRA hgr HAP.out)
      have G3 := Lib.hid (gr_rowT hgA HRA hgr)
      have R3 := Lib.hid (show RowT w.heap.size v' (xs ++ [y]) w3 by unfold RowT; rw [cellsI_push, List.length_append]; exact hown3)
      clear hown3 hgr ga hcA HRA hgA HR2 hg2 c2
      go_wp2
      go_roundw
      case rel => exact ⟨k + 1, xs ++ [y], by omega, by go_num, by have := HXL.out; simp; omega, dr_snoc HXA.out HY.out, R3.out, C3.out, G3.out⟩
      case measure => simp [intOf]; omega
    · go_wp2
      go_ret
      exact ⟨_, xs, rfl, by have := HXL.out; omega, HXA.out, HR1.out, c1, hg1⟩
theorem cellsI_put (xs : List It) {i j : Nat} (hi : i < xs.length) (hj : j < 9) (x' : It) (v : Value) (e : x'.L = (itD xs i).L.set j v) : (cellsI xs).set (i * 9 + j) v = cellsI (xs.set i x') := by
  apply List.ext_getElem?
  intro q
  have hq : q / 9 * 9 + q % 9 = q := by omega
  have h9 : q % 9 < 9 := Nat.mod_lt _ (by decide)
  have e1 := cellsI_at (xs.set i x') (q / 9) (q % 9) h9
  have e2 := cellsI_at xs (q / 9) (q % 9) h9
  rw [hq] at e1 e2
  rw [e1]
  by_cases h : q / 9 = i
  · rw [h, List.getElem?_set_self hi, Option.bind_some, e]
    by_cases hk : q % 9 = j
    · rw [show q = i * 9 + j by omega, List.getElem?_set_self (by rw [cellsI_len]; omega), show (i * 9 + j) % 9 = j by omega, List.getElem?_set_self (by rw [It.L_len]; exact hj)]
    · rw [List.getElem?_set_ne (by omega), List.getElem?_set_ne (by omega), e2, h, itD_eq hi, Option.bind_some]
  · rw [List.getElem?_set_ne (by omega), List.getElem?_set_ne (by omega), e2]
theorem RowT.sl {lo : Nat} {v : Value} {xs : List It} {w : World} (h : RowT lo v xs w) : ∃ a n c, v = .slice a n c := by
  rcases h.2 with ⟨h, _⟩ | ⟨g, c, _, h, _⟩
  · exact ⟨_, _, _, h⟩
  · exact ⟨_, _, _, h⟩
def slN : Value → Nat
  | .slice _ n _ => n
  | _ => 0
theorem RowT.len {b : Nat} {v : Value} {xs : List It} {w : World} (h : RowT b v xs w) : slN v = xs.length := by
  rcases h.2 with ⟨h1, h2⟩ | ⟨g, cap, cur, h1, _⟩
  · rw [h1, h2]; rfl
  · rw [h1]; rfl
theorem RowT.put {lo g n cap i j : Nat} {xs : List It} {w : World} (h : RowT lo (.slice (some ⟨g, 0, none⟩) n cap) xs w) (hi : i < xs.length) (hj : j < 9) (x' : It) (v : Value) (e : x'.L = (itD xs i).L.set j v) : RowT lo (.slice (some ⟨g, 0, none⟩) n cap) (xs.set i x') (w.setCell ⟨g, i * 9 + j, none⟩ v) := by
  have hn : n = xs.length := h.len
  subst hn
  have := (World.ownsRow.stored h (i * 9 + j) v).1
  rw [cellsI_put xs hi hj x' v e] at this
  unfold RowT
  rw [List.length_set]
  exact this
theorem dr_set {xs : List It} {x' : It} (h : ∀ y ∈ xs, y.Dr) (hx : x'.Dr) (i : Nat) : ∀ y ∈ xs.set i x', y.Dr := by
  intro y hy
  rcases List.mem_or_eq_of_mem_set hy with hy | hy
  · exact h y hy
  · rw [hy]; exact hx
/-- A drawn row, one of whose fields is stored into. -/
theorem TRow.put {cb g n cap0 j : Nat} {a : Option Addr} {len cap : Nat} {w wr : World} {xs : List It} (hcb : cb < w.heap.size) (hap : 0 < len → ∀ b off, a = some ⟨b, off, none⟩ → b < w.heap.size) (hr : RowT w.heap.size (.slice (some ⟨g, 0, none⟩) n cap0) xs wr) (hc : Cur cb a len cap wr) (hg : w.grownBy wr (some cb)) (h0 : 0 < xs.length) (hj : j < 9) (x' : It) (v : Value) (e : x'.L = (itD xs 0).L.set j v) :
    RowT w.heap.size (.slice (some ⟨g, 0, none⟩) n cap0) (xs.set 0 x') (wr.setCell ⟨g, j, none⟩ v) ∧ Cur cb a len cap (wr.setCell ⟨g, j, none⟩ v) ∧ w.grownBy (wr.setCell ⟨g, j, none⟩ v) (some cb) := by
  have hl := (World.ownsRow.lt hr g rfl).1
  have h1 := hr.put h0 hj x' v e
  rw [Nat.zero_mul, Nat.zero_add] at h1
  exact ⟨h1, hc.stored (Nat.lt_of_lt_of_le hcb hg.size) (by omega) (fun h0 b off e => by have := hap h0 b off e; omega) v, gr_store hg hl⟩
def ARel (most : Nat) (cb : Nat) (a : Option Addr) (len cap : Nat) (w : World) (v : Value) (wr : World) : Prop :=
  ∃ (xs : List It), xs.length ≤ most ∧ (∀ x ∈ xs, x.Dr) ∧ RowT w.heap.size v xs wr ∧ Cur cb a len cap wr ∧ w.grownBy wr (some cb)
set_option maxHeartbeats 4000000 in
theorem drawany (cb : Nat) (a : Option Addr) (len cap : Nat) (w : World) (hcb : cb < w.heap.size) (hap : 0 < len → ∀ b off, a = some ⟨b, off, none⟩ → b < w.heap.size) (hc : Cur cb a len cap w) :
    Calls Try.prog 69 #[.pointer (some ⟨cb, 0, none⟩)] w (DrewT 13 cb a len cap w) := by
  obtain ⟨i0, hi, hz0, hz1, hz2⟩ := info_parts info_item
  have HAP := Lib.hid hap
  go_enter Try.func69, Try.ntmps69
  go_wp2_with (fail)
  refine (drawits cb a len cap w hcb hap hc).mono ?_
  rintro e w1 ⟨v, xs, rfl, hl, hx, hr, c1, g1⟩
  have hlen := hr.len
  obtain ⟨va, vn, vc, ev⟩ : ∃ va vn vc, v = .slice va vn vc := hr.sl
  have hvn : vn = xs.length := by rw [ev] at hlen; exact hlen
  have HCB := Lib.hid hcb
  have HREL := Lib.hid (show ARel 5 cb a len cap w v w1 from ⟨xs, hl, hx, hr, c1, g1⟩)
  have HX := Lib.hid hx
  have HR := Lib.hid hr
  subst ev hvn
  clear hap hc hx hr hlen
  (try dsimp only)
  go_upto_if 8 with (fail)
  go_cut [] from 8 to 42 (fun wx => ARel 5 cb a len cap w (.slice va xs.length vc) wx)
  case first =>
    by_cases h0 : 0 < xs.length
    · obtain ⟨g, rfl⟩ : ∃ g, va = some ⟨g, 0, none⟩ := by
        rcases HR.out.2 with ⟨h1, h2⟩ | ⟨g, c, _, h1, _⟩
        · have : xs.length = 0 := h2
          omega
        · injection h1 with e1 _ _; exact ⟨g, e1⟩
      go_wp2_with (fail)
      refine (below_pos 16 cb a len cap w1 (by omega) (by omega) c1).mono ?_
      rintro e w2 ⟨x, rfl, x0, x1, c2, g2, s2⟩
      clear s2 c1
      have HR2 := Lib.hid (HR.out.cur g2 HCB.out)
      have hg2 := gr_trans g1 g2
      have HREL2 := Lib.hid (show ARel 5 cb a len cap w (.slice (some ⟨g, 0, none⟩) xs.length vc) w2 from ⟨xs, hl, HX.out, HR2.out, c2, hg2⟩)
      have h2cb : cb < w2.heap.size := Nat.lt_of_lt_of_le hcb hg2.size
      clear HR HREL g1 g2
      have hd0 := HX.out _ (itD_mem h0)
      obtain ⟨d0, d1, d2, d3, d4, d5, d6⟩ := hd0
      by_cases e0 : x = 0
      · subst e0
        (try dsimp only)
        go_wp2_with (fail)
        refine (pick_r (-1) 1048577 (by omega) (by omega) [-1, 1048576, 1048577] 3 rfl (by omega) (by omega) (by intro z hz; simp at hz; omega) cb a len cap w2 h2cb c2).mono ?_
        rintro e w3 ⟨y, rfl, y0, y1, c3, g3⟩
        have HR3 := Lib.hid (HR2.out.cur g3 HCB.out)
        have hg3 := gr_trans hg2 g3
        obtain ⟨sp, fz⟩ := HR3.out.spots h0
        obtain ⟨q, dq⟩ := sp 0 (by decide)
        have fq := fz 0
        have hput := TRow.put HCB.out HAP.out HR3.out c3 hg3 h0 (j := 0) (by decide) (⟨y, (itD xs 0).least, (itD xs 0).most, (itD xs 0).grow, (itD xs 0).shrink, (itD xs 0).before, (itD xs 0).behind, (itD xs 0).ab, (itD xs 0).ah⟩ : It) (.int .i64 y) rfl
        have HPUT := Lib.hid hput
        have hdn : It.Dr (⟨y, (itD xs 0).least, (itD xs 0).most, (itD xs 0).grow, (itD xs 0).shrink, (itD xs 0).before, (itD xs 0).behind, (itD xs 0).ab, (itD xs 0).ah⟩ : It) := ⟨⟨by show _ ≤ y; omega, by show y ≤ _; omega⟩, d1, d2, d3, d4, d5, d6⟩
        have HDN := Lib.hid hdn
        simp only [Nat.zero_mul, Nat.zero_add] at dq
        clear HR2 HR3 sp fz hput hdn g3 hg3 c3 c2
        (try dsimp only)
        go_wp2_with (fail)
        go_meet
        case rel => exact ⟨_, by rw [List.length_set]; exact hl, dr_set HX.out HDN.out 0, HPUT.out.1, HPUT.out.2.1, HPUT.out.2.2⟩
      by_cases e1 : x = 1
      · subst e1
        (try dsimp only)
        go_wp2_with (fail)
        refine (pick_r (-1) 1001 (by omega) (by omega) [-1, 1000, 1001] 3 rfl (by omega) (by omega) (by intro z hz; simp at hz; omega) cb a len cap w2 h2cb c2).mono ?_
        rintro e w3 ⟨y, rfl, y0, y1, c3, g3⟩
        have HR3 := Lib.hid (HR2.out.cur g3 HCB.out)
        have hg3 := gr_trans hg2 g3
        obtain ⟨sp, fz⟩ := HR3.out.spots h0
        obtain ⟨q, dq⟩ := sp 3 (by decide)
        have fq := fz 3
        have hput := TRow.put HCB.out HAP.out HR3.out c3 hg3 h0 (j := 3) (by decide) (⟨(itD xs 0).base, (itD xs 0).least, (itD xs 0).most, y, (itD xs 0).shrink, (itD xs 0).before, (itD xs 0).behind, (itD xs 0).ab, (itD xs 0).ah⟩ : It) (.int .i64 y) rfl
        have HPUT := Lib.hid hput
        have hdn : It.Dr (⟨(itD xs 0).base, (itD xs 0).least, (itD xs 0).most, y, (itD xs 0).shrink, (itD xs 0).before, (itD xs 0).behind, (itD xs 0).ab, (itD xs 0).ah⟩ : It) := ⟨d0, d1, d2, ⟨by show _ ≤ y; omega, by show y ≤ _; omega⟩, d4, d5, d6⟩
        have HDN := Lib.hid hdn
        simp only [Nat.zero_mul, Nat.zero_add] at dq
        clear HR2 HR3 sp fz hput hdn g3 hg3 c3 c2
        (try dsimp only)
        go_wp2_with (fail)
        go_meet
        case rel => exact ⟨_, by rw [List.length_set]; exact hl, dr_set HX.out HDN.out 0, HPUT.out.1, HPUT.out.2.1, HPUT.out.2.2⟩
      by_cases e2 : x = 2
      · subst e2
        (try dsimp only)
        go_wp2_with (fail)
        refine (pick_r (-2) 1048577 (by omega) (by omega) [-2, 1048577, 0] 3 rfl (by omega) (by omega) (by intro z hz; simp at hz; omega) cb a len cap w2 h2cb c2).mono ?_
        rintro e w3 ⟨y, rfl, y0, y1, c3, g3⟩
        have HR3 := Lib.hid (HR2.out.cur g3 HCB.out)
        have hg3 := gr_trans hg2 g3
        obtain ⟨sp, fz⟩ := HR3.out.spots h0
        obtain ⟨q, dq⟩ := sp 2 (by decide)
        have fq := fz 2
        have hput := TRow.put HCB.out HAP.out HR3.out c3 hg3 h0 (j := 2) (by decide) (⟨(itD xs 0).base, (itD xs 0).least, y, (itD xs 0).grow, (itD xs 0).shrink, (itD xs 0).before, (itD xs 0).behind, (itD xs 0).ab, (itD xs 0).ah⟩ : It) (.int .i64 y) rfl
        have HPUT := Lib.hid hput
        have hdn : It.Dr (⟨(itD xs 0).base, (itD xs 0).least, y, (itD xs 0).grow, (itD xs 0).shrink, (itD xs 0).before, (itD xs 0).behind, (itD xs 0).ab, (itD xs 0).ah⟩ : It) := ⟨d0, d1, ⟨by show _ ≤ y; omega, by show y ≤ _; omega⟩, d3, d4, d5, d6⟩
        have HDN := Lib.hid hdn
        simp only [Nat.zero_mul, Nat.zero_add] at dq
        clear HR2 HR3 sp fz hput hdn g3 hg3 c3 c2
        (try dsimp only)
        go_wp2_with (fail)
        go_meet
        case rel => exact ⟨_, by rw [List.length_set]; exact hl, dr_set HX.out HDN.out 0, HPUT.out.1, HPUT.out.2.1, HPUT.out.2.2⟩
      by_cases e3 : x = 3
      · subst e3
        (try dsimp only)
        go_wp2_with (fail)
        refine (pick_r (-1048576) 1048577 (by omega) (by omega) [1048577, -1048576, 1048576] 3 rfl (by omega) (by omega) (by intro z hz; simp at hz; omega) cb a len cap w2 h2cb c2).mono ?_
        rintro e w3 ⟨y, rfl, y0, y1, c3, g3⟩
        have HR3 := Lib.hid (HR2.out.cur g3 HCB.out)
        have hg3 := gr_trans hg2 g3
        obtain ⟨sp, fz⟩ := HR3.out.spots h0
        obtain ⟨q, dq⟩ := sp 5 (by decide)
        have fq := fz 5
        have hput := TRow.put HCB.out HAP.out HR3.out c3 hg3 h0 (j := 5) (by decide) (⟨(itD xs 0).base, (itD xs 0).least, (itD xs 0).most, (itD xs 0).grow, (itD xs 0).shrink, y, (itD xs 0).behind, (itD xs 0).ab, (itD xs 0).ah⟩ : It) (.int .i64 y) rfl
        have HPUT := Lib.hid hput
        have hdn : It.Dr (⟨(itD xs 0).base, (itD xs 0).least, (itD xs 0).most, (itD xs 0).grow, (itD xs 0).shrink, y, (itD xs 0).behind, (itD xs 0).ab, (itD xs 0).ah⟩ : It) := ⟨d0, d1, d2, d3, d4, ⟨by show _ ≤ y; omega, by show y ≤ _; omega⟩, d6⟩
        have HDN := Lib.hid hdn
        simp only [Nat.zero_mul, Nat.zero_add] at dq
        clear HR2 HR3 sp fz hput hdn g3 hg3 c3 c2
        (try dsimp only)
        go_wp2_with (fail)
        go_meet
        case rel => exact ⟨_, by rw [List.length_set]; exact hl, dr_set HX.out HDN.out 0, HPUT.out.1, HPUT.out.2.1, HPUT.out.2.2⟩
      (try dsimp only)
      go_wp2_with (fail)
      go_meet
      case rel => exact HREL2.out
    · clear HR HX
      go_wp2_with (fail)
      go_meet
      case rel => exact HREL.out
  case rest =>
    clear HREL HR HX c1 g1 hl
    obtain ⟨ys, hl, hx, hr, c1, g1⟩ := hcut
    have HX := Lib.hid hx
    have HR := Lib.hid hr
    clear hx hr
    (try dsimp only)
    go_wp2_with (fail)
    refine (once_any 30 cb a len cap _ (by omega) (by omega) c1).mono ?_
    rintro e w2 ⟨t, rfl, c2, g2⟩
    have HR2 := Lib.hid (HR.out.cur g2 HCB.out)
    have g2 := gr_trans g1 g2
    clear HR c1 g1
    cases t with
    | false =>
      (try dsimp only)
      go_wp2
      go_ret
      exact ⟨_, ys, rfl, by omega, HX.out, HR2.out, c2, g2⟩
    | true =>
      have HREL := Lib.hid (show ARel 13 cb a len cap w (.slice va xs.length vc) w2 from ⟨ys, by omega, HX.out, HR2.out, c2, g2⟩)
      clear HX HR2 hl c2 g2
      (try dsimp only)
      go_wp2_with (fail)
      go_loopw [3] (fun v wr => ARel 13 cb a len cap w v wr) (fun v _ => 13 - slN v)
      case atStart => exact HREL.out
      case round =>
        clear HREL
        obtain ⟨zs, hl, hx, hr, hcw, hg⟩ := hrel
        have hlen := hr.len
        obtain ⟨va', vn', vc', rfl⟩ := hr.sl
        obtain rfl : vn' = zs.length := hlen
        have HX := Lib.hid hx
        have HR := Lib.hid hr
        clear hx hr
        go_wp2_with (fail)
        refine (below_pos 2 cb a len cap _ (by omega) (by omega) hcw).mono ?_
        rintro e w3 ⟨x, rfl, x0, x1, c3, g3, s3⟩
        clear s3 hcw
        have hg3 := gr_trans hg g3
        have HR3 := Lib.hid (HR.out.cur g3 HCB.out)
        have hcb3 : cb < w3.heap.size := Nat.lt_of_lt_of_le hcb hg3.size
        clear HR g3 hg
        by_cases hlt : (zs.length : Int) < 12 + x
        · go_wp2_with (fail)
          refine (drawit cb a len cap w3 hcb3 (fun h0 b off e => Nat.lt_of_lt_of_le (HAP.out h0 b off e) hg3.size) c3).mono ?_
          rintro e w4 ⟨y, rfl, hy, c4, g4⟩
          have hg4 := gr_trans hg3 g4
          have HY := Lib.hid hy
          have HR4 := Lib.hid (HR3.out.cur g4 HCB.out)
          have HS4 := Lib.hid hg4.size
          clear HR3 g4 hg3 c3 hy
          go_wp2_with (at_builtin; refine wpList_append_own _ rfl _ _ 34 rfl w.heap.size 40 i0 _ 9 64 Try.underlying34 hi hz0 hz1 hz2 rfl (by decide) _ _ _ rfl (World.ownsRow.alloc HR4.out _) ⟨w4.heap.size, 0, none⟩ 1 1 y.L rfl rfl it_new y.L_one ?c3 ?c4 ?c5 ?_)
          case c3 => unfold maxLen; omega
          case c4 => omega
          case c5 => have := HS4.out; simp; omega
          intro v' w5 hown5 hgr _
          have ga := World.grownBy_alloc w4 (.cells y.A 40) none
          have hcA := c4.kept (Nat.lt_of_lt_of_le hcb hg4.size) ga (fun k hk => by cases hk)
          have HRA : RowT w.heap.size (.slice va' zs.length vc') zs (w4.alloc (.cells y.A 40)) := World.ownsRow.alloc HR4.out _
          have hgA := gr_trans hg4 (gr_none ga (some cb))
          have C5 := Lib.hid (Cur.rowT hcb hcA hgA HRA hgr HAP.out)
          have G5 := Lib.hid (gr_rowT hgA HRA hgr)
          have R5 := Lib.hid (show RowT w.heap.size v' (zs ++ [y]) w5 by unfold RowT; rw [cellsI_push, List.length_append]; exact hown5)
          have hln := R5.out.len
          obtain ⟨va5, vn5, vc5, rfl⟩ := R5.out.sl
          have HLN := Lib.hid (show vn5 = zs.length + 1 by have h : vn5 = (zs ++ [y]).length := hln; rw [h]; simp)
          clear hown5 hgr ga hcA HRA hgA HR4 hg4 c4 hln
          go_wp2
          go_roundw
          case rel => exact ⟨zs ++ [y], by simp; omega, dr_snoc HX.out HY.out, R5.out, C5.out, G5.out⟩
          case measure => have := HLN.out; simp only [slN]; omega
        · go_wp2
          go_ret
          exact ⟨_, zs, rfl, hl, HX.out, HR3.out, c3, hg3⟩
end Go.Proofs.Ytnncdpkmhpjmbaa
end

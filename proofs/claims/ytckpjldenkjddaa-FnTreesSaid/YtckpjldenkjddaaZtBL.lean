import Derived.Test.YtckpjldenkjddaaZtBK
section
namespace Go.Proofs.Ytckpjldenkjddaa
open Go.ChangeShapes Go.WideShapes Go.ChangeAt Go.RowKit
set_option linter.unusedVariables false
set_option linter.unusedSimpArgs false

/-- The table under way lies in block g. -/
structure ARel (cb : Nat) (a : Option Addr) (len cap : Nat) (w : World) (g : Nat) (va : Option Addr) (n vc : Nat) (zs : List Int) (wv : World) : Prop where
  all : AllI zs
  le : n ≤ 7
  cell : wv.heap[g]? = some (.cells #[.slice va n vc] 51)
  res : wv.heap[w.heap.size]? = some (.cells #[.slice none 0 0] 51)
  row : RowR (w.heap.size + 1) (.slice va n vc) n zs wv
  cur : Cur cb a len cap wv
  gr : w.grownBy wv (some cb)
  ap : (Value.slice va n vc).ownBlock ≠ some g
  gt : w.heap.size < g
  cbl : cb < w.heap.size
  sm : ∃ b, va = some ⟨b, 0, none⟩
section
variable {cb len cap g n vc : Nat} {a va : Option Addr} {w wv w' : World} {zs : List Int}
theorem ARel.far (h : ARel cb a len cap w g va n vc zs wv) {k : Nat} (hk : (Value.slice va n vc).ownBlock = some k) : w.heap.size + 1 ≤ k ∧ k < wv.heap.size := World.ownsRow.lt h.row k hk
theorem ARel.next (h : ARel cb a len cap w g va n vc zs wv) (hg : wv.grownBy w' (some cb)) (hc : Cur cb a len cap w') : ARel cb a len cap w g va n vc zs w' :=
  ⟨h.all, h.le, hp_grown' h.cell hg (by have := h.gt; have := h.cbl; simp; omega), hp_grown' h.res hg (by have := h.cbl; simp; omega), h.row.cur hg (by have := h.cbl; omega), hc, gr_trans h.gr hg, h.ap, h.gt, h.cbl, h.sm⟩
theorem ARel.cT (h : ARel cb a len cap w g va n vc zs wv) : wv.cell? ⟨g, 0, none⟩ = some (.slice va n vc) := by have h := Go.Joins.cell_of_block h.cell 0; simpa using h
theorem ARel.cR (h : ARel cb a len cap w g va n vc zs wv) : wv.cell? ⟨w.heap.size, 0, none⟩ = some (.slice none 0 0) := by have h := Go.Joins.cell_of_block h.res 0; simpa using h
theorem ARel.fR (h : ARel cb a len cap w g va n vc zs wv) : wv.frozen? ⟨w.heap.size, 0, none⟩ = false := Go.Joins.unfrozen_of_block h.res 0
theorem ARel.draw (h : ARel cb a len cap w g va n vc zs wv) : ARel cb a len cap w g va n vc zs wv.drew :=
  ⟨h.all, h.le, h.cell, h.res, h.row, h.cur.kept (w' := wv.drew) (row := none) (by have := h.gr.size; have := h.cbl; omega) ⟨rfl, rfl, rfl, Nat.le_refl _, fun _ _ _ => rfl⟩ (fun k hk => by cases hk), ⟨h.gr.os, h.gr.tape, h.gr.output, h.gr.size, h.gr.block⟩, h.ap, h.gt, h.cbl, h.sm⟩
theorem RowR.put' {base g n cap : Nat} {zs : List Int} {w : World} (h : RowR base (.slice (some ⟨g, 0, none⟩) n cap) n zs w) (j : Nat) (x : Int) : RowR base (.slice (some ⟨g, 0, none⟩) n cap) n (zs.set j x) (w.setCell ⟨g, j, none⟩ (.int .i64 x)) := by
  have := (World.ownsRow.stored h j (.int .i64 x)).1
  rw [← List.map_set] at this
  exact this
theorem AllI.set {zs : List Int} (h : AllI zs) (j : Nat) {x : Int} (h0 : -9223372036854775808 ≤ x) (h1 : x ≤ 9223372036854775807) : AllI (zs.set j x) := by
  intro z hz
  rcases List.mem_or_eq_of_mem_set hz with h2 | h2
  · exact h z h2
  · subst h2; exact ⟨h0, h1⟩
/-- A store into a rule. -/
theorem ARel.put {b : Nat} (h : ARel cb a len cap w g (some ⟨b, 0, none⟩) n vc zs wv) (hap : 0 < len → ∀ b off, a = some ⟨b, off, none⟩ → b < w.heap.size) (j : Nat) {x : Int} (h0 : -9223372036854775808 ≤ x) (h1 : x ≤ 9223372036854775807) :
    ARel cb a len cap w g (some ⟨b, 0, none⟩) n vc (zs.set j x) (wv.setCell ⟨b, j, none⟩ (.int .i64 x)) := by
  have hf := h.far (k := b) rfl
  have hne : g ≠ b := fun e => h.ap (by rw [e]; rfl)
  have hgs := gr_self wv b j (.int .i64 x)
  have hcb := h.cbl
  exact ⟨h.all.set j h0 h1, h.le, hp_set h.cell hne j _, hp_set h.res (by omega) j _, h.row.put' j x, h.cur.kept (by have := h.gr.size; omega) hgs (fun k hk => by simp at hk; exact ⟨by omega, fun hl b off e => by have := hap hl b off e; omega⟩), gr_far h.gr hgs (fun k hk => by simp at hk; omega), h.ap, h.gt, h.cbl, h.sm⟩
/-- A new row into the table. -/
theorem ARel.turn {va' : Option Addr} {n' vc' : Nat} {zs' : List Int} (h : ARel cb a len cap w g va n vc zs wv) (hap : 0 < len → ∀ b off, a = some ⟨b, off, none⟩ → b < w.heap.size) {wb : World} {row : Option Nat} (hgr : wv.grownBy wb row) (hrow : ∀ k, row = some k → w.heap.size + 1 ≤ k ∧ k ≠ g)
    (hr : RowR (w.heap.size + 1) (.slice va' n' vc') n' zs' wb) (hn : n' ≤ 7) (ha : AllI zs') (hne : (Value.slice va' n' vc').ownBlock ≠ some g) (hsm : ∃ b, va' = some ⟨b, 0, none⟩) :
    ARel cb a len cap w g va' n' vc' zs' (wb.setCell ⟨g, 0, none⟩ (.slice va' n' vc')) := by
  have hcb := h.cbl
  have hgt := h.gt
  have hgs := gr_self wb g 0 (.slice va' n' vc')
  have hcell := hp_grown' h.cell hgr (fun e => (hrow g e.symm).2 rfl)
  have hres := hp_grown' h.res hgr (fun e => by have := (hrow _ e.symm).1; omega)
  have hcur := h.cur.kept (by have := h.gr.size; omega) hgr (fun k hk => ⟨by have := (hrow k hk).1; omega, fun hl b off e => by have := hap hl b off e; have := (hrow k hk).1; omega⟩)
  have hgw := gr_far h.gr hgr (fun k hk => by have := (hrow k hk).1; omega)
  refine ⟨ha, hn, ?_, hp_set hres (by omega) 0 _, World.ownsRow.kept hr hgs (by cases hv : (Value.slice va' n' vc').ownBlock with | none => exact Or.inl rfl | some k => exact Or.inr (fun e => hne (hv.trans e))), hcur.kept (by have := hgw.size; omega) hgs (fun k hk => by simp at hk; exact ⟨by omega, fun hl b off e => by have := hap hl b off e; omega⟩), gr_far hgw hgs (fun k hk => by simp at hk; omega), hne, hgt, hcb, hsm⟩
  have := Go.Joins.block_setCell hcell (i := 0) (.slice va' n' vc')
  simpa using this
/-- What the draw of any table leaves: its slice is not nil. -/
def AnyDrew (cb : Nat) (a : Option Addr) (len cap : Nat) (w : World) (e : Ending) (w' : World) : Prop :=
  ∃ (b n vc : Nat) (zs : List Int), e = .returned (.agg #[.slice (some ⟨b, 0, none⟩) n vc]) ∧ n ≤ 7 ∧ AllI zs ∧ RowR w.heap.size (.slice (some ⟨b, 0, none⟩) n vc) n zs w' ∧ Cur cb a len cap w' ∧ w.grownBy w' (some cb)
/-- The end: the table is handed back. -/
theorem ARel.fin (h : ARel cb a len cap w g va n vc zs wv) (hap : 0 < len → ∀ b off, a = some ⟨b, off, none⟩ → b < w.heap.size) :
    (wv.setCell ⟨w.heap.size, 0, none⟩ (.slice va n vc)).cell? ⟨w.heap.size, 0, none⟩ = some (.slice va n vc) ∧ AnyDrew cb a len cap w (.returned (.agg #[.slice va n vc])) (wv.setCell ⟨w.heap.size, 0, none⟩ (.slice va n vc)) := by
  have hcb := h.cbl
  obtain ⟨bb, rfl⟩ := h.sm
  have hgs := gr_self wv w.heap.size 0 (.slice (some ⟨bb, 0, none⟩) n vc)
  have hb := Go.Joins.block_setCell h.res (i := 0) (.slice (some ⟨bb, 0, none⟩) n vc)
  refine ⟨by have h := Go.Joins.cell_of_block hb 0; simpa using h, _, n, _, zs, rfl, h.le, h.all, RowR.lower (ownsRow_setCell_below h.row (a := ⟨w.heap.size, 0, none⟩) (by show w.heap.size < w.heap.size + 1; omega) _) (by omega), h.cur.kept (by have := h.gr.size; omega) hgs (fun k hk => by simp at hk; exact ⟨by omega, fun hl b off e => by have := hap hl b off e; omega⟩), gr_far h.gr hgs (fun k hk => by simp at hk; omega)⟩
end
/-- How many rules the table in block g has. -/
def lenAt (w : World) (g : Nat) : Nat := match w.cell? ⟨g, 0, none⟩ with
  | some (.slice _ n _) => n
  | _ => 0
theorem lenAt_of {w : World} {g n vc : Nat} {va : Option Addr} (h : w.cell? ⟨g, 0, none⟩ = some (.slice va n vc)) : lenAt w g = n := by unfold lenAt; rw [h]

set_option maxHeartbeats 2000000 in
set_option maxRecDepth 100000 in
theorem l09a_any (cb : Nat) (a : Option Addr) (len cap : Nat) (w : World) (hcb : cb < w.heap.size) (hap : 0 < len → ∀ b off, a = some ⟨b, off, none⟩ → b < w.heap.size) (hc : Cur cb a len cap w) :
    Calls Try.prog 86 #[.pointer (some ⟨cb, 0, none⟩)] w (AnyDrew cb a len cap w) := by
  have h0 := hp_new w (.cells #[.slice none 0 0] 51)
  have g0 : w.grownBy (w.alloc (.cells #[.slice none 0 0] 51)) (some cb) := World.grownBy_alloc w _ (some cb)
  have hc0 := hc.kept hcb (World.grownBy_alloc w (.cells #[.slice none 0 0] 51) none) (fun k hk => by cases hk)
  have hsz : (w.alloc (.cells #[.slice none 0 0] 51)).heap.size = w.heap.size + 1 := by simp
  obtain ⟨u, eu⟩ : ∃ u, u = w.alloc (.cells #[.slice none 0 0] 51) := ⟨_, rfl⟩
  rw [← eu] at h0 g0 hc0 hsz
  have EU := Lib.hid eu
  have HAP := Lib.hid hap
  obtain ⟨i0, hi, hz0, hz1, hz2⟩ := info_parts info_rule
  clear eu hap hc
  go_enter Try.func86, Try.ntmps86
  go_wp2_with (rw [← EU.out])
  refine (l09t_any cb a len cap u (by omega) (fun h b off e => by have := HAP.out h b off e; omega) hc0).mono ?_
  rintro e w1 ⟨v, n, zs, rfl, hn1, hn3, hza, hr, c1, g1⟩
  obtain ⟨bb, vc, rfl, _, _⟩ := World.ownsRow.form hr (by omega)
  obtain ⟨va, hva⟩ : ∃ va : Option Addr, va = some ⟨bb, 0, none⟩ := ⟨_, rfl⟩
  rw [← hva] at hr ⊢
  rw [hsz] at hr
  have hres1 := hp_grown' h0 g1 (by simp; omega)
  have hgw1 := gr_trans g0 g1
  have hlt1 : w.heap.size < w1.heap.size := hp_lt hres1
  have hA0 : ARel cb a len cap w w1.heap.size va n vc zs (w1.alloc (.cells #[.slice va n vc] 51)) :=
    ⟨hza, by omega, hp_new w1 _, hp_on hres1 _, World.ownsRow.alloc hr _, c1.kept (by omega) (World.grownBy_alloc w1 _ none) (fun k hk => by cases hk), gr_trans hgw1 (gr_none (World.grownBy_alloc w1 _ none) (some cb)), fun e => by have := (World.ownsRow.lt hr _ e).2; omega, hlt1, hcb, ⟨bb, hva⟩⟩
  obtain ⟨v1, ev⟩ : ∃ v1, v1 = w1.alloc (.cells #[.slice va n vc] 51) := ⟨_, rfl⟩
  rw [← ev] at hA0
  have EV := Lib.hid ev
  have A0 := Lib.hid hA0
  clear h0 g0 hc0 g1 hr c1 hres1 hgw1 ev hA0 hva
  (try dsimp only)
  go_wp2_with (rw [← EV.out])
  clear EV EU
  generalize w1.heap.size = g at *
  have hcv : cb < v1.heap.size := by have := A0.out.gr.size; omega
  refine (below_pos 10 cb a len cap v1 (by omega) (by omega) A0.out.cur).mono ?_
  rintro e w2 ⟨x, rfl, x0, x9, c2, g2, s2⟩
  have A2 := Lib.hid (A0.out.next g2 c2)
  clear A0 c2 g2 s2 hcv hsz
  (try dsimp only)
  by_cases e0 : x = 0
  · subst e0
    go_wp2_with (fail)
    obtain ⟨b, vcc, hv, hb1, hb2⟩ := World.ownsRow.form A2.out.row (by omega)
    obtain ⟨rfl, rfl⟩ : va = some ⟨b, 0, none⟩ ∧ vc = vcc := by simpa using hv
    clear hv
    have A2D := Lib.hid A2.out.draw
    have cT := A2.out.cT
    have hcd : cb < w2.drew.heap.size := by have := A2.out.gr.size; show cb < w2.heap.size; omega
    have hlo : (0 : Int) < (n : Int) := by omega
    have hn0 : 0 < n := by omega
    go_region_held3 (fun w' => w'.cell? ⟨g, 0, none⟩ = some (.slice (some ⟨b, 0, none⟩) n vc))
      (first | exact A2D.out.cT | exact A3.out.cT | exact (A3.out.put HAP.out 0 y0 y1).cT)
      (first
        | (go_at_call 127; refine (l02_any cb a len cap w2.drew hcd A2D.out.cur).mono ?_; rintro e w3 ⟨y, rfl, y0, y1, c3, g3⟩; have A3 := Lib.hid (A2D.out.next g3 c3); obtain ⟨⟨d, cD⟩, fD⟩ := A3.out.row.there 0 (by omega))
        | fail)
    have A4 := Lib.hid (A3.out.put HAP.out 0 y0 y1)
    obtain ⟨v4, ev4⟩ : ∃ v4, v4 = w3.setCell ⟨b, 0, none⟩ (.int .i64 y) := ⟨_, rfl⟩
    rw [← ev4] at A4 ⊢
    clear ev4 A3 A2D cT cD fD c3 g3
    have cT := A4.out.cT
    have cR := A4.out.cR
    have fR := A4.out.fR
    obtain ⟨cA, hF⟩ := A4.out.fin HAP.out
    have HF := Lib.hid hF
    clear hF
    go_wp2
    exact bodyPost_ret (v := .agg #[.slice _ _ _]) (by simp [results, Try.results86, go_sem, cA]) rfl HF.out
  · by_cases e1 : x = 1
    · subst e1
      go_wp2_with (fail)
      obtain ⟨b, vcc, hv, hb1, hb2⟩ := World.ownsRow.form A2.out.row (by omega)
      obtain ⟨rfl, rfl⟩ : va = some ⟨b, 0, none⟩ ∧ vc = vcc := by simpa using hv
      clear hv
      have A2D := Lib.hid A2.out.draw
      have cT := A2.out.cT
      have hcd : cb < w2.drew.heap.size := by have := A2.out.gr.size; show cb < w2.heap.size; omega
      have hlo : (0 : Int) < (n : Int) := by omega
      have hn0 : 0 < n := by omega
      go_region_held3 (fun w' => w'.cell? ⟨g, 0, none⟩ = some (.slice (some ⟨b, 0, none⟩) n vc))
        (first | exact A2D.out.cT | exact A3.out.cT | exact (A3.out.put HAP.out 1 y0 y1).cT)
        (first
          | (go_at_call 127; refine (l02_any cb a len cap w2.drew hcd A2D.out.cur).mono ?_; rintro e w3 ⟨y, rfl, y0, y1, c3, g3⟩; have A3 := Lib.hid (A2D.out.next g3 c3); obtain ⟨⟨d, cD⟩, fD⟩ := A3.out.row.there 1 (by omega))
          | fail)
      have A4 := Lib.hid (A3.out.put HAP.out 1 y0 y1)
      obtain ⟨v4, ev4⟩ : ∃ v4, v4 = w3.setCell ⟨b, 1, none⟩ (.int .i64 y) := ⟨_, rfl⟩
      rw [← ev4] at A4 ⊢
      clear ev4 A3 A2D cT cD fD c3 g3
      have cT := A4.out.cT
      have cR := A4.out.cR
      have fR := A4.out.fR
      obtain ⟨cA, hF⟩ := A4.out.fin HAP.out
      have HF := Lib.hid hF
      clear hF
      go_wp2
      exact bodyPost_ret (v := .agg #[.slice _ _ _]) (by simp [results, Try.results86, go_sem, cA]) rfl HF.out
    · by_cases e2 : x = 2
      · subst e2
        obtain ⟨v2, ev2⟩ : ∃ v2, v2 = w2.alloc (.cells #[] 137) := ⟨_, rfl⟩
        have hg2 : w2.grownBy v2 none := ev2 ▸ World.grownBy_alloc w2 _ none
        have hr2 : RowR (w.heap.size + 1) (.slice (some ⟨w2.heap.size, 0, none⟩) 0 0) 0 [] v2 := ev2 ▸ World.ownsRow_lit w2 #[] 0 (by have := hp_lt A2.out.res; omega) (by unfold maxLen; omega) rfl
        obtain ⟨v3, ev3⟩ : ∃ v3, v3 = v2.setCell ⟨g, 0, none⟩ (.slice (some ⟨w2.heap.size, 0, none⟩) 0 0) := ⟨_, rfl⟩
        have hglt := hp_lt A2.out.cell
        have A3 := Lib.hid (ev3 ▸ A2.out.turn HAP.out hg2 (fun k hk => by cases hk) hr2 (by omega) (fun z hz => by cases hz) (fun e => by simp [Value.ownBlock] at e; omega) ⟨_, rfl⟩ : ARel cb a len cap w g (some ⟨w2.heap.size, 0, none⟩) 0 0 [] v3)
        have hc2 := hp_grown' A2.out.cell hg2 (by simp)
        have cT2 := Go.Joins.cell_of_block hc2 0
        have fT2 := Go.Joins.unfrozen_of_block hc2 0
        simp at cT2
        have EV2 := Lib.hid ev2
        have EV3 := Lib.hid ev3
        clear ev2 ev3 hg2 hr2 hc2
        have cT := A3.out.cT
        have cR := A3.out.cR
        have fR := A3.out.fR
        obtain ⟨cA, hF⟩ := A3.out.fin HAP.out
        have HF := Lib.hid hF
        clear hF
        go_wp2_with (first | (rw [← EV2.out]) | (rw [← EV3.out]))
        exact bodyPost_ret (v := .agg #[.slice _ _ _]) (by simp [results, Try.results86, go_sem, cA]) rfl HF.out
      · by_cases e3 : x = 3
        · subst e3
          go_wp2_with (fail)
          go_loopw [30] (fun _ wr => ∃ (va : Option Addr) (n vc : Nat) (zs : List Int), ARel cb a len cap w g va n vc zs wr) (fun _ wr => 7 - lenAt wr g)
          case atStart => exact ⟨va, n, vc, zs, A2.out⟩
          case round =>
            clear A2 hn1 hn3 hza
            obtain ⟨va, n, vc, zs, hA⟩ := hrel
            have AR := Lib.hid hA
            clear hA
            have cT := AR.out.cT
            have hlen := lenAt_of cT
            have ARD := Lib.hid AR.out.draw
            have hcd : cb < wr.drew.heap.size := by have := AR.out.gr.size; show cb < wr.heap.size; omega
            go_wp2_with (fail)
            go_region_held3 (fun w' => w'.cell? ⟨g, 0, none⟩ = some (.slice va n vc))
              (first | exact ARD.out.cT | exact A3.out.cT)
              (first
                | (go_at_call 102; refine (below_pos 2 cb a len cap wr.drew (by omega) (by omega) ARD.out.cur).mono ?_; rintro e w3 ⟨y, rfl, y0, y1, c3, g3, s3⟩; have A3 := Lib.hid (ARD.out.next g3 c3); have hw6 : IntKind.i64.wrap (6 + y) = 6 + y := IntWalk.i64_in _ (by omega); clear s3)
                | fail)
            clear cT ARD hcd c3 g3
            by_cases hlt : (n : Int) < 6 + y
            · have cT := A3.out.cT
              have hn7 : n + 1 ≤ 7 := by omega
              have hU := fun k hk => A3.out.far (k := k) hk
              have hall := A3.out.all
              have hrow : RowR (w.heap.size + 1) (.slice va n vc) n zs (w3.alloc (.cells #[.int .i64 0, .int .i64 0, .int .i64 0] 137)) := World.ownsRow.alloc A3.out.row _
              have hn3 := World.news_of_block (hp_new w3 (.cells #[.int .i64 0, .int .i64 0, .int .i64 0] 137))
              have hsz3 := hp_lt A3.out.res
              go_wp2_with (at_builtin; refine wpList_append_lies _ rfl _ _ 49 rfl (w.heap.size + 1) 137 i0 (.agg #[.int .i64 0, .int .i64 0, .int .i64 0]) 3 24 Try.underlying49 hi hz0 hz1 hz2 rfl (by decide) (.slice va n vc) n (zs.map (Value.int .i64)) rfl hrow ⟨w3.heap.size, 0, none⟩ 1 1 [.int .i64 0, .int .i64 0, .int .i64 0] rfl rfl hn3 (by intro u hu; simp at hu; rcases hu with rfl | rfl | rfl <;> rfl) (by omega) (by unfold maxLen; omega) (by omega) (by simp; omega) _ rfl ?_)
              intro g8 cap8 w8 hown8 hgrow8 hat8 hlt8
              have hr8 : RowR (w.heap.size + 1) (.slice (some ⟨g8, 0, none⟩) (n + 1) cap8) (n + 1) (zs ++ [0, 0, 0]) w8 := by unfold RowR; simpa using hown8
              have hg8 := gr_trans (World.grownBy_alloc w3 (.cells #[.int .i64 0, .int .i64 0, .int .i64 0] 137) (Value.slice va n vc).ownBlock) hgrow8
              have hne8 : (Value.slice (some ⟨g8, 0, none⟩) (n + 1) cap8).ownBlock ≠ some g := fun e => by
                have e' : g8 = g := by simpa [Value.ownBlock] using e
                rcases hat8 with h | h
                · exact A3.out.ap (by rw [h, e'])
                · have := hp_lt A3.out.cell; omega
              have hA8 := A3.out.turn HAP.out hg8 (fun k hk => ⟨(hU k hk).1, fun e => A3.out.ap (by rw [hk, e])⟩) hr8 hn7 (hall.three (by omega) (by omega) (by omega)) hne8 ⟨_, rfl⟩
              have hc8 := hp_grown' A3.out.cell hg8 (fun e => A3.out.ap e.symm)
              have cT8 := Go.Joins.cell_of_block hc8 0
              have fT8 := Go.Joins.unfrozen_of_block hc8 0
              simp at cT8
              have A8 := Lib.hid hA8
              clear hA8 hr8 hg8 hne8 hc8 hown8 hgrow8 hat8 hU hall hrow hn3 cT A3 hlt8
              go_wp2
              go_roundw
              case rel => exact ⟨_, _, _, _, A8.out⟩
              case measure => rw [lenAt_of A8.out.cT, hlen]; omega
            · have hlf : decide ((n : Int) < 6 + y) = false := decide_eq_false hlt
              have cT := A3.out.cT
              have cR := A3.out.cR
              have fR := A3.out.fR
              obtain ⟨cA, hF⟩ := A3.out.fin HAP.out
              have HF := Lib.hid hF
              clear hF
              go_wp2
              exact bodyPost_ret (v := .agg #[.slice _ _ _]) (by simp [results, Try.results86, go_sem, cA]) rfl HF.out
        · have hx : 4 ≤ x := by omega
          have cT := A2.out.cT
          have cR := A2.out.cR
          have fR := A2.out.fR
          obtain ⟨cA, hF⟩ := A2.out.fin HAP.out
          have HF := Lib.hid hF
          clear hF
          go_wp2
          exact bodyPost_ret (v := .agg #[.slice _ _ _]) (by simp [results, Try.results86, go_sem, cA]) rfl HF.out

end Go.Proofs.Ytckpjldenkjddaa
end

import Derived.BigQuiet
import Derived.Lib.QuietBelow
import Derived.Deep.QuietTactic
import Derived.Deep.RegionWith
import Derived.Test.YtnncdpkmhpjmbaaZmAV
import Derived.Test.YtnncdpkmhpjmbaaZmBC
section
namespace Go.Proofs.Ytnncdpkmhpjmbaa
open Go.ChangeShapes Go.WideShapes Go.ChangeAt Go.RowKit
set_option linter.unusedVariables false
set_option linter.unusedSimpArgs false
set_option maxRecDepth 8000

/-- A row of Bools of one's own. -/
def RowB (base : Nat) (v : Value) (xs : List Bool) (w : World) : Prop := w.ownsRow base 4 1 v xs.length (xs.map Value.bool)
theorem RowB.kept {b : Nat} {v : Value} {xs : List Bool} {w w' : World} {row : Option Nat} (h : RowB b v xs w) (hg : w.grownBy w' row) (hne : v.ownBlock = none ∨ v.ownBlock ≠ row) : RowB b v xs w' := World.ownsRow.kept h hg hne
theorem RowB.below {b : Nat} {v : Value} {xs : List Bool} {w w' : World} (h : RowB b v xs w) (hb : Below w.heap.size w w') : RowB b v xs w' :=
  World.ownsRow.kept h ⟨hb.os, hb.tape, hb.output, hb.size, fun k hk _ => hb.block k hk⟩ (by cases v.ownBlock <;> simp : v.ownBlock = none ∨ v.ownBlock ≠ none)
theorem RowB.slice {b : Nat} {v : Value} {xs : List Bool} {w : World} (h : RowB b v xs w) : ∃ a cap, v = .slice a xs.length cap ∧ ∀ k, k < xs.length → ∃ g, a = some ⟨g, 0, none⟩ ∧ w.cell? ⟨g, k, none⟩ = some (.bool (xs.getD k true)) ∧ w.frozen? ⟨g, k, none⟩ = false := by
  rcases h.2 with ⟨h1, h2⟩ | ⟨g, cap, cur, h1, _⟩
  · have h2' : xs.length = 0 := h2
    exact ⟨none, 0, by rw [h1, h2'], fun k hk => by omega⟩
  · subst h1
    refine ⟨_, cap, rfl, fun k hk => ⟨g, rfl, ?_, World.ownsRow.frozenAt h k⟩⟩
    rw [World.ownsRow.cellAt h k (by omega)]
    simp [List.getD, hk]
theorem RowB.put {base g n cap k : Nat} {xs : List Bool} {w : World} (h : RowB base (.slice (some ⟨g, 0, none⟩) n cap) xs w) (hn : xs.length = n) (x : Bool) : RowB base (.slice (some ⟨g, 0, none⟩) n cap) (xs.set k x) (w.setCell ⟨g, k, none⟩ (.bool x)) := by
  subst hn
  have := (World.ownsRow.stored h k (.bool x)).1
  rw [← List.map_set] at this
  unfold RowB
  rw [List.length_set]
  exact this
theorem putB_row {w : World} {v : Value} {xs : List Bool} {b g j : Nat} {u : Value} (h : RowB b v xs w) (hne : v.ownBlock = none ∨ v.ownBlock ≠ some g) : RowB b v xs (w.setCell ⟨g, j, none⟩ u) :=
  h.kept (row := some g) ⟨rfl, rfl, rfl, by simp [World.setCell], fun i hi hn => Below.heap_setCell w ⟨g, j, none⟩ u i (by rintro rfl; exact hn rfl)⟩ hne
def sxC (f : Fx) (a : Option Addr) (cap : Nat) (hv zv : Value) (p : Nat) : Array Value := #[.slice a f.xs.length cap, .int .i64 f.gap, .int .i64 f.inner, .bool f.gr, hv, zv, .int .i64 p]
/-- The run while it is built or passed over: as many as k items stand in its rows. -/
structure SxM (w0 : World) (f : Fx) (a : Option Addr) (cap fb : Nat) (hv zv : Value) (hs : List Bool) (zs : List Int) (p : Nat) (w : World) : Prop where
  its : Its w0 a f.xs
  hb : Below w0.heap.size w0 w
  blk : w.heap[fb]? = some (.cells (sxC f a cap hv zv p) 95)
  rh : RowB w0.heap.size hv hs w
  rz : RowI w0.heap.size zv zs w
  lf : w0.heap.size ≤ fb
  n1 : hv.ownBlock = none ∨ hv.ownBlock ≠ some fb
  n2 : zv.ownBlock = none ∨ zv.ownBlock ≠ some fb
  n3 : hv.ownBlock = none ∨ hv.ownBlock ≠ zv.ownBlock
namespace SxM
variable {w0 : World} {f : Fx} {a : Option Addr} {cap fb : Nat} {hv zv : Value} {hs : List Bool} {zs : List Int} {p : Nat} {w : World}
theorem below {w' : World} (M : SxM w0 f a cap fb hv zv hs zs p w) (b : Below w.heap.size w w') : SxM w0 f a cap fb hv zv hs zs p w' :=
  ⟨M.its, M.hb.trans (b.mono M.hb.size), hp_below M.blk b, M.rh.below b, M.rz.below b, M.lf, M.n1, M.n2, M.n3⟩
theorem itsN (M : SxM w0 f a cap fb hv zv hs zs p w) : Its w a f.xs := M.its.below M.hb
theorem cells (M : SxM w0 f a cap fb hv zv hs zs p w) : w.cell? ⟨fb, 0, none⟩ = some (.slice a f.xs.length cap) ∧ w.cell? ⟨fb, 1, none⟩ = some (.int .i64 f.gap) ∧ w.cell? ⟨fb, 2, none⟩ = some (.int .i64 f.inner) ∧ w.cell? ⟨fb, 3, none⟩ = some (.bool f.gr) ∧
    w.cell? ⟨fb, 4, none⟩ = some hv ∧ w.cell? ⟨fb, 5, none⟩ = some zv ∧ w.cell? ⟨fb, 6, none⟩ = some (.int .i64 p) :=
  ⟨Go.Joins.cell_of_block M.blk 0, Go.Joins.cell_of_block M.blk 1, Go.Joins.cell_of_block M.blk 2, Go.Joins.cell_of_block M.blk 3, Go.Joins.cell_of_block M.blk 4, Go.Joins.cell_of_block M.blk 5, Go.Joins.cell_of_block M.blk 6⟩
theorem fblt (M : SxM w0 f a cap fb hv zv hs zs p w) : fb < w.heap.size := hp_lt M.blk
theorem putP (M : SxM w0 f a cap fb hv zv hs zs p w) : w.frozen? ⟨fb, 6, none⟩ = false ∧ SxM w0 f a cap fb hv zv hs zs (p + 1) (w.setCell ⟨fb, 6, none⟩ (.int .i64 ((p + 1 : Nat) : Int))) :=
  ⟨Go.Joins.unfrozen_of_block M.blk 6, M.its, bl_set M.hb 6 M.lf _, Go.Joins.block_setCell M.blk _, putB_row M.rh M.n1, FxM.put_row M.rz M.n2, M.lf, M.n1, M.n2, M.n3⟩
end SxM
theorem sweight (gr : Bool) (fb : Nat) (a : Option Addr) (cap : Nat) (xs : List It) (k : Nat) (w : World) (hz : Its w a xs) (hk : k < xs.length) (hn : xs.length ≤ 1048576) (hok : itOk (itD xs k) = true)
    (c0 : w.cell? ⟨fb, 0, none⟩ = some (.slice a xs.length cap)) (c3 : w.cell? ⟨fb, 3, none⟩ = some (.bool gr)) :
    Calls Try.prog 100 #[.pointer (some ⟨fb, 0, none⟩), .int .i64 k] w fun e w' => e = .returned (.int .i64 (wtV gr (itD xs k))) ∧ Below w.heap.size w w' := by
  obtain ⟨b, off, rfl, hbl, hrg⟩ := hz.look hk
  have hlo : (0 : Int) ≤ (k : Int) := Int.natCast_nonneg _
  have hhi : (k : Int) < (xs.length : Int) := by omega
  have hm := wtV_in hok false
  generalize itD xs k = x at *
  have hw : IntKind.i64.wrap (x.shrink * x.base) = x.shrink * x.base := IntWalk.i64_in _ (by unfold wtV at hm; simp at hm; omega)
  obtain ⟨d0, d1, d2, d3, d4, d5, d6, d7, d8⟩ := rg_it hrg
  cases gr
  · have q0 := fun d os => cell_regrown c0 d os
    have q1 := fun d os => cell_regrown d4 d os
    have q2 := fun d os => cell_regrown d0 d os
    clear hrg d0 d1 d2 d3 d4 d5 d6 d7 d8 hm hz
    go_enter Try.func100, Try.ntmps100
    go_wp2
    refine wp_region_quiet_below (by kernel_rfl) (by kernel_rfl) ?_
    repeat (go_big_quiet_step (fail))
    refine wpQuiet_nil ?_
    intro _ hw'
    obtain ⟨⟨dq, osq⟩, hw''⟩ := hw'
    subst hw''
    clear q0 q1 q2
    go_wp2
    go_ret
    exact ⟨rfl, below_regrown w dq osq⟩
  · clear hrg hm hw hz d0 d1 d2 d4 d5 d6 d7 d8
    go_enter Try.func100, Try.ntmps100
    go_wp2
    go_ret
    exact ⟨rfl, Below.refl _ _⟩
/-- The model's upper bound. -/
def moV (x : It) : Int := if 0 ≤ x.most ∧ x.most < x.least then x.least else x.most
theorem moV_mm {x : It} (h : 0 ≤ x.most) : moV x = mmV x := by
  unfold moV mmV
  by_cases h1 : x.most < x.least
  · rw [if_pos ⟨h, h1⟩, if_pos h1]
  · rw [if_neg (fun h2 => h1 h2.2), if_neg h1]
theorem smost (x : It) (w : World) :
    Calls Try.prog 106 #[.agg #[.int .i64 x.base, .int .i64 x.least, .int .i64 x.most, .int .i64 x.grow, .int .i64 x.shrink, .int .i64 x.before, .int .i64 x.behind, .bool x.ab, .bool x.ah]] w fun e w' => e = .returned (.int .i64 (moV x)) ∧ Below w.heap.size w w' := by
  have bb := Go.Joins.below_alloc1 w (.cells #[.int .i64 x.base, .int .i64 x.least, .int .i64 x.most, .int .i64 x.grow, .int .i64 x.shrink, .int .i64 x.before, .int .i64 x.behind, .bool x.ab, .bool x.ah] 40)
  have h0 := hp_new w (.cells #[.int .i64 x.base, .int .i64 x.least, .int .i64 x.most, .int .i64 x.grow, .int .i64 x.shrink, .int .i64 x.before, .int .i64 x.behind, .bool x.ab, .bool x.ah] 40)
  obtain ⟨u, eu⟩ : ∃ u, u = w.alloc (.cells #[.int .i64 x.base, .int .i64 x.least, .int .i64 x.most, .int .i64 x.grow, .int .i64 x.shrink, .int .i64 x.before, .int .i64 x.behind, .bool x.ab, .bool x.ah] 40) := ⟨_, rfl⟩
  rw [← eu] at h0 bb
  have EU := Lib.hid eu
  clear eu
  have c0 : u.cell? ⟨w.heap.size, 0, none⟩ = some (.int .i64 x.base) := Go.Joins.cell_of_block h0 0
  have c1 : u.cell? ⟨w.heap.size, 1, none⟩ = some (.int .i64 x.least) := Go.Joins.cell_of_block h0 1
  have c2 : u.cell? ⟨w.heap.size, 2, none⟩ = some (.int .i64 x.most) := Go.Joins.cell_of_block h0 2
  have c3 : u.cell? ⟨w.heap.size, 3, none⟩ = some (.int .i64 x.grow) := Go.Joins.cell_of_block h0 3
  have c4 : u.cell? ⟨w.heap.size, 4, none⟩ = some (.int .i64 x.shrink) := Go.Joins.cell_of_block h0 4
  have c5 : u.cell? ⟨w.heap.size, 5, none⟩ = some (.int .i64 x.before) := Go.Joins.cell_of_block h0 5
  have c6 : u.cell? ⟨w.heap.size, 6, none⟩ = some (.int .i64 x.behind) := Go.Joins.cell_of_block h0 6
  have c7 : u.cell? ⟨w.heap.size, 7, none⟩ = some (.bool x.ab) := Go.Joins.cell_of_block h0 7
  have c8 : u.cell? ⟨w.heap.size, 8, none⟩ = some (.bool x.ah) := Go.Joins.cell_of_block h0 8
  have BB := Lib.hid bb
  clear h0 bb c0 c3 c4 c5 c6 c7 c8
  by_cases h1 : 0 ≤ x.most
  · by_cases h2 : x.most < x.least
    · go_enter Try.func106, Try.ntmps106
      go_wp2_with (rw [← EU.out])
      go_ret
      exact ⟨ret_int (by unfold moV; rw [if_pos ⟨h1, h2⟩]), BB.out⟩
    · go_enter Try.func106, Try.ntmps106
      go_wp2_with (rw [← EU.out])
      go_ret
      exact ⟨ret_int (by unfold moV; rw [if_neg (by omega)]), BB.out⟩
  · go_enter Try.func106, Try.ntmps106
    go_wp2_with (rw [← EU.out])
    go_ret
    exact ⟨ret_int (by unfold moV; rw [if_neg (by omega)]), BB.out⟩
set_option maxHeartbeats 2000000 in
theorem sfree (w0 : World) (f : Fx) (a : Option Addr) (cap fb : Nat) (hv zv : Value) (hs : List Bool) (zs : List Int) (p : Nat) (w : World) (hok : itsOk f.xs = true) (hlz : zs.length = f.xs.length) (hza : AllI zs) (M : SxM w0 f a cap fb hv zv hs zs p w) :
    Calls Try.prog 105 #[.pointer (some ⟨fb, 0, none⟩)] w fun e w' => e = .returned (.int .i64 (f.fr zs)) ∧ Below w.heap.size w w' := by
  have h12 := Fx.n12 hok
  obtain ⟨za, zc, rfl, hzi⟩ := M.rz.slice hza
  have hl2 : zs.length ≤ 1048576 := by omega
  have hl3 : f.xs.length ≤ 1048576 := by omega
  have hits := M.itsN
  have ko := fun (d : Nat) (os : Array Obj) => souter_any a cap f.xs za zs.length zc zs f.gap (Sort.grow (redrawn w d) os) (hits.below (below_regrown w d os)) hl3 (hzi.below (below_regrown w d os)) hl2
  clear hits hl2 hl3 hlz
  obtain ⟨c0, c1, c2, c3, c4, c5, c6⟩ := M.cells
  have q0 := fun d os => cell_regrown c0 d os
  have q1 := fun d os => cell_regrown c1 d os
  have q2 := fun d os => cell_regrown c2 d os
  have q5 := fun d os => cell_regrown c5 d os
  have HM := Lib.hid M
  clear M c0 c1 c2 c3 c4 c5 c6 hzi
  obtain ⟨o, eo⟩ : ∃ q, q = ouV f.xs zs f.gap := ⟨_, rfl⟩
  obtain ⟨s, es⟩ : ∃ q, q = wrap64 (f.inner - o) := ⟨_, rfl⟩
  have HF := Lib.hid (show f.fr zs = frV f.gr s by rw [es, eo]; rfl)
  have HI := Lib.hid (wr_in (f.inner - o))
  rw [← eo] at ko
  have ES := Lib.hid es.symm
  clear eo es
  go_enter Try.func105, Try.ntmps105
  go_wp2
  refine wp_region_quiet_below (by kernel_rfl) (by kernel_rfl) ?_
  repeat (go_big_quiet_step (first
    | (go_at_call 55; exact Calls.regrown_of (ko _ _))
    | fail))
  refine wpQuiet_nil ?_
  intro _ hw'
  obtain ⟨⟨dq, osq⟩, hw''⟩ := hw'
  subst hw''
  clear q0 q1 q2 q5 ko
  have b1 := below_regrown w dq osq
  have M1 := HM.out.below b1
  obtain ⟨_, _, _, d3, _, _, _⟩ := M1.cells
  clear M1
  obtain ⟨u, eu⟩ : ∃ q, q = Sort.grow (redrawn w dq) osq := ⟨_, rfl⟩
  rw [← eu] at b1 d3 ⊢
  have B1 := Lib.hid b1
  clear b1 eu
  rw [ES.out]
  have hin := HI.out
  rw [ES.out] at hin
  have HIN := Lib.hid hin
  clear hin HI ES HM
  have h0 : lenI 0 = 0 := lenI_id (by omega) (by omega)
  cases hg : f.gr with
  | true =>
    rw [hg] at d3
    by_cases h1 : s < 0
    · go_wp2
      go_ret
      exact ⟨ret_int (by rw [HF.out, hg]; unfold frV; rw [if_pos rfl, if_pos h1, h0]), B1.out⟩
    · go_wp2_with (fail)
      refine (slen _ _).mono ?_
      rintro e w2 ⟨rfl, rfl⟩
      go_wp2
      go_ret
      exact ⟨ret_int (by rw [HF.out, hg]; unfold frV; rw [if_pos rfl, if_neg (by omega)]), B1.out⟩
  | false =>
    rw [hg] at d3
    by_cases h1 : 0 < s
    · go_wp2
      go_ret
      exact ⟨ret_int (by rw [HF.out, hg]; unfold frV; rw [if_neg (by simp), if_pos h1, h0]), B1.out⟩
    · go_wp2_with (fail)
      refine (slen _ _).mono ?_
      rintro e w2 ⟨rfl, rfl⟩
      go_wp2
      go_ret
      exact ⟨ret_int (by rw [HF.out, hg]; unfold frV; rw [if_neg (by simp), if_neg (by omega)]), B1.out⟩
end Go.Proofs.Ytnncdpkmhpjmbaa
end

/-
  The draws spec.l07Case, DrawMainSides, DrawAlignOf and DrawMirrored: styles, a bool, ints within their limits; nothing that was there is turned. Conditions: those of the code.
-/
import Derived.Test.YthnfgdflnlafiaaDrG
import Derived.Test.YthnfgdflnlafiaaOnce
namespace Go.Proofs.Ythnfgdflnlafiaa
open Go.ChangeShapes Go.WideShapes Go.ChangeAt Go.RowKit
set_option linter.unusedSimpArgs false
set_option linter.unusedVariables false

def CaseDraw (w : World) (e : Ending) (w' : World) : Prop := ∃ (f : Nat → Int) (t : Bool), e = .returned (.tuple #[.agg (sCells f), .bool t]) ∧ Below w.heap.size w w'
def MirrorDraw (w : World) (e : Ending) (w' : World) : Prop := ∃ (i p s : Int) (t : Bool), e = .returned (.tuple #[.int .i64 i, .int .i64 p, .int .i64 s, .bool t]) ∧ (0 ≤ i ∧ i ≤ 4999) ∧ (0 ≤ p ∧ p ≤ 4999) ∧ (0 ≤ s ∧ s ≤ 499) ∧ Below w.heap.size w w'
theorem results_tmp4 {fn : Func} {t u v x : Tmp} (h : fn.results = #[.tmp t, .tmp u, .tmp v, .tmp x]) (tmps : Array Value) (P : Program) (w : World) :
    (results fn tmps).run P w = .ok (.tuple #[tmps.getD t undef, tmps.getD u undef, tmps.getD v undef, tmps.getD x undef]) w := by
  simp [results, h]
section
variable {g : Nat} {t : TypeId} {f : Nat → Int} {w : World}
/-- Two answers, the first in a cell of its own. -/
theorem results_styb {fn : Func} {p q : Tmp} {b : Value} (h : fn.results = #[.cell p 31, .tmp q]) {tmps : Array Value} (hp : tmps.getD p undef = .pointer (some ⟨g, 0, none⟩)) (hq : tmps.getD q undef = b)
    (hg : w.heap[g]? = some (.cells (sCells f) t)) : (results fn tmps).run Try.prog w = .ok (.tuple #[.agg (sCells f), b]) w := by
  have hp' : tmps[p]?.getD undef = .pointer (some ⟨g, 0, none⟩) := by simpa using hp
  have hq' : tmps[q]?.getD undef = b := by simpa using hq
  simp [results, h, hp', hq', asAddr, load_sty hg]
end

theorem case_sty (a : Option Addr) (len cap : Nat) (w : World) (hl : len ≤ 1048576) (hc : Code w a len) :
    Calls Try.prog 30 #[.slice a len cap] w (CaseDraw w) := by
  have hap := fun h0 => code_lt hc h0
  have bw := Go.Joins.below_alloc1 w (.cells (sCells fun _ => 0) 31)
  have hc0 := hc.below bw
  have hr0 := hp_new w (.cells (sCells fun _ => 0) 31)
  have hs0 : w.heap.size < (w.alloc (.cells (sCells fun _ => 0) 31)).heap.size := by simp
  obtain ⟨u, eu⟩ : ∃ u, u = w.alloc (.cells (sCells fun _ => 0) 31) := ⟨_, rfl⟩
  rw [← eu] at bw hc0 hr0 hs0
  have EU := Lib.hid eu
  clear eu
  go_enter Try.func30, Try.ntmps30
  go_wp2_with (first | (rw [← EU.out]) | ((with_reducible apply list_alloc_sty); exact rfl; exact rfl; simp only [World.size_alloc, Act.put, List.setIfInBounds_toArray, List.set_cons_succ, List.set_cons_zero]))
  refine (new_cur a len cap u hl hc0).mono ?_
  rintro e w1 ⟨rfl, c1, b1, s1⟩
  have hr1 := hp_below hr0 b1
  have B1 := bw.trans (b1.mono (by omega))
  have HAP := Lib.hid (show 0 < len → ∀ b off, a = some ⟨b, off, none⟩ → b < w.heap.size from hap)
  generalize u.heap.size = cb at *
  clear b1 bw hc0 hr0 hap
  (try dsimp only)
  go_wp2_with (fail)
  refine (anysty cb a len cap w1 s1 (fun h b off e => by have := HAP.out h b off e; have := B1.size; omega) c1).mono ?_
  rintro e w2 ⟨f, rfl, c2, g2⟩
  have hr2 := blk_kept hr1 g2 (by omega)
  have B2 := B1.grown g2 B1.size (fun k hk => by simp at hk; omega)
  have s2 : cb < w2.heap.size := by have := g2.size; omega
  clear g2 B1 c1 s1 hr1
  (try dsimp only)
  go_wp2_with (fail)
  refine (once_any 2 cb a len cap w2 (by omega) (by omega) c2).mono ?_
  rintro e w3 ⟨t, rfl, c3, g3⟩
  have hr3 := blk_kept hr2 g3 (by omega)
  have B3 := B2.grown g3 B2.size (fun k hk => by simp at hk; omega)
  have s3 : cb < w3.heap.size := by have := g3.size; omega
  clear g3 B2 c2 s2 hr2
  have h9 := Lib.hid (setRow_heap _ _ _ (sCells f) _ _ hr3)
  have b9 := Lib.hid (below_setRow B3 (g := w.heap.size) (Nat.le_refl _) (sCells f))
  have HR := Lib.hid hr3
  clear hr3 B3 c3
  (try dsimp only)
  go_wp2_with ((with_reducible apply list_store_sty); exact rfl; exact rfl; exact rfl; exact rfl; (with_reducible exact HR.out); simp only [World.size_alloc, Act.put, List.setIfInBounds_toArray, List.set_cons_succ, List.set_cons_zero])
  exact bodyPost_ret (results_styb rfl rfl rfl h9.out) rfl ⟨_, _, rfl, b9.out⟩
theorem draw_mainsides (a : Option Addr) (len cap : Nat) (w : World) (hl : len ≤ 1048576) (hc : Code w a len) :
    Calls Try.prog 12 #[.slice a len cap] w (CaseDraw w) := by
  have hap := fun h0 => code_lt hc h0
  have bw := Go.Joins.below_alloc1 w (.cells (sCells fun _ => 0) 31)
  have hc0 := hc.below bw
  have hr0 := hp_new w (.cells (sCells fun _ => 0) 31)
  have hs0 : w.heap.size < (w.alloc (.cells (sCells fun _ => 0) 31)).heap.size := by simp
  obtain ⟨u, eu⟩ : ∃ u, u = w.alloc (.cells (sCells fun _ => 0) 31) := ⟨_, rfl⟩
  rw [← eu] at bw hc0 hr0 hs0
  have EU := Lib.hid eu
  clear eu
  go_enter Try.func12, Try.ntmps12
  go_wp2_with (first | (rw [← EU.out]) | ((with_reducible apply list_alloc_sty); exact rfl; exact rfl; simp only [World.size_alloc, Act.put, List.setIfInBounds_toArray, List.set_cons_succ, List.set_cons_zero]))
  refine (case_sty a len cap u hl hc0).mono ?_
  rintro e w1 ⟨f, t, rfl, b1⟩
  have hr1 := hp_below hr0 b1
  have B1 := bw.trans (b1.mono (by omega))
  have h9 := Lib.hid (setRow_heap _ _ _ (sCells f) _ _ hr1)
  have b9 := Lib.hid (below_setRow B1 (g := w.heap.size) (Nat.le_refl _) (sCells f))
  have HR := Lib.hid hr1
  clear hr1 hr0 B1 b1 bw hc0 hs0 hap
  (try dsimp only)
  go_wp2_with ((with_reducible apply list_store_sty); exact rfl; exact rfl; exact rfl; exact rfl; (with_reducible exact HR.out); simp only [World.size_alloc, Act.put, List.setIfInBounds_toArray, List.set_cons_succ, List.set_cons_zero])
  exact bodyPost_ret (results_styb rfl rfl rfl h9.out) rfl ⟨_, _, rfl, b9.out⟩
theorem draw_alignof (a : Option Addr) (len cap : Nat) (w : World) (hl : len ≤ 1048576) (hc : Code w a len) :
    Calls Try.prog 19 #[.slice a len cap] w (StylesDraw w) := by
  have hap := fun h0 => code_lt hc h0
  have bw := Go.Joins.below_alloc2 w (.cells (sCells fun _ => 0) 31) (.cells (sCells fun _ => 0) 31)
  have hc0 := hc.below bw
  have hr0 := hp_on (hp_new w (.cells (sCells fun _ => 0) 31)) (.cells (sCells fun _ => 0) 31)
  have hq0 := hp_new (w.alloc (.cells (sCells fun _ => 0) 31)) (.cells (sCells fun _ => 0) 31)
  have hs0 : w.heap.size + 1 < ((w.alloc (.cells (sCells fun _ => 0) 31)).alloc (.cells (sCells fun _ => 0) 31)).heap.size := by simp
  simp only [World.size_alloc] at hr0 hq0
  obtain ⟨u, eu⟩ : ∃ u, u = (w.alloc (.cells (sCells fun _ => 0) 31)).alloc (.cells (sCells fun _ => 0) 31) := ⟨_, rfl⟩
  rw [← eu] at bw hc0 hr0 hq0 hs0
  have EU := Lib.hid eu
  clear eu
  go_enter Try.func19, Try.ntmps19
  go_wp2_with (first | (rw [← EU.out]) | ((with_reducible apply list_alloc_sty); exact rfl; exact rfl; simp only [World.size_alloc, Act.put, List.setIfInBounds_toArray, List.set_cons_succ, List.set_cons_zero]))
  refine (new_cur a len cap u hl hc0).mono ?_
  rintro e w1 ⟨rfl, c1, b1, s1⟩
  have hr1 := hp_below hr0 b1
  have hq1 := hp_below hq0 b1
  have B1 := bw.trans (b1.mono (by omega))
  have HAP := Lib.hid (show 0 < len → ∀ b off, a = some ⟨b, off, none⟩ → b < w.heap.size from hap)
  generalize u.heap.size = cb at *
  clear b1 bw hc0 hr0 hq0 hap
  (try dsimp only)
  go_wp2_with (fail)
  refine (anysty cb a len cap w1 s1 (fun h b off e => by have := HAP.out h b off e; have := B1.size; omega) c1).mono ?_
  rintro e w2 ⟨f, rfl, c2, g2⟩
  have hr2 := blk_kept hr1 g2 (by omega)
  have hq2 := blk_kept hq1 g2 (by omega)
  have B2 := B1.grown g2 B1.size (fun k hk => by simp at hk; omega)
  have s2 : cb < w2.heap.size := by have := g2.size; omega
  clear g2 B1 c1 s1 hr1 hq1
  (try dsimp only)
  go_wp2_with (fail)
  refine (anysty cb a len cap w2 s2 (fun h b off e => by have := HAP.out h b off e; have := B2.size; omega) c2).mono ?_
  rintro e w3 ⟨h, rfl, c3, g3⟩
  have hr3 := blk_kept hr2 g3 (by omega)
  have hq3 := blk_kept hq2 g3 (by omega)
  have B3 := B2.grown g3 B2.size (fun k hk => by simp at hk; omega)
  have s3 : cb < w3.heap.size := by have := g3.size; omega
  clear g3 B2 c2 s2 hr2 hq2
  have hq4 := hp_row hq3 (show w.heap.size + 1 ≠ w.heap.size by omega) (sCells f)
  have h9 := Lib.hid (hp_row (setRow_heap _ _ _ (sCells f) _ _ hr3) (show w.heap.size ≠ w.heap.size + 1 by omega) (sCells h))
  have h8 := Lib.hid (setRow_heap _ _ _ (sCells h) _ _ hq4)
  have b9 := Lib.hid (below_setRow (below_setRow B3 (g := w.heap.size) (Nat.le_refl _) (sCells f)) (g := w.heap.size + 1) (by omega) (sCells h))
  have HR := Lib.hid hr3
  have HQ := Lib.hid hq4
  clear hr3 hq3 hq4 B3 c3
  (try dsimp only)
  go_wp2_with (first | ((with_reducible apply list_store_sty); exact rfl; exact rfl; exact rfl; exact rfl; (with_reducible exact HR.out); simp only [World.size_alloc, Act.put, List.setIfInBounds_toArray, List.set_cons_succ, List.set_cons_zero]) | ((with_reducible apply list_store_sty); exact rfl; exact rfl; exact rfl; exact rfl; (with_reducible exact HQ.out); simp only [World.size_alloc, Act.put, List.setIfInBounds_toArray, List.set_cons_succ, List.set_cons_zero]))
  exact bodyPost_ret (results_sty2 rfl rfl rfl h9.out h8.out) rfl ⟨_, _, rfl, b9.out⟩
theorem draw_mirrored (a : Option Addr) (len cap : Nat) (w : World) (hl : len ≤ 1048576) (hc : Code w a len) :
    Calls Try.prog 17 #[.slice a len cap] w (MirrorDraw w) := by
  go_enter Try.func17, Try.ntmps17
  go_wp2_with (fail)
  refine (new_cur a len cap w hl hc).mono ?_
  rintro e w1 ⟨rfl, c1, b1, s1⟩
  go_wp2_with (fail)
  refine (below_pos 5000 w.heap.size a len cap w1 (by omega) (by omega) c1).mono ?_
  rintro e w2 ⟨x, rfl, x0, x1, c2, g2, _⟩
  go_wp2_with (fail)
  refine (below_pos 5000 w.heap.size a len cap w2 (by omega) (by omega) c2).mono ?_
  rintro e w3 ⟨y, rfl, y0, y1, c3, g3, _⟩
  go_wp2_with (fail)
  refine (below_pos 500 w.heap.size a len cap w3 (by omega) (by omega) c3).mono ?_
  rintro e w4 ⟨z, rfl, z0, z1, c4, g4, _⟩
  go_wp2_with (fail)
  refine (once_any 2 w.heap.size a len cap w4 (by omega) (by omega) c4).mono ?_
  rintro e w5 ⟨t, rfl, c5, g5⟩
  have HB := Lib.hid (b1.grown (gr_trans (gr_trans (gr_trans g2 g3) g4) g5) b1.size (fun k hk => by simp at hk; omega))
  clear b1 g2 g3 g4 g5 c1 c2 c3 c4 c5 s1
  go_wp2
  refine bodyPost_ret (results_tmp4 rfl _ _ _) rfl ?_
  exact ⟨x, y, z, t, rfl, ⟨x0, by omega⟩, ⟨y0, by omega⟩, ⟨z0, by omega⟩, HB.out⟩
end Go.Proofs.Ythnfgdflnlafiaa

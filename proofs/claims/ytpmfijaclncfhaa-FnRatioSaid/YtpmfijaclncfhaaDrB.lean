/-
  The draws spec.l08Base, l08Case, DrawByRatio, DrawBounded and DrawGivenOf: a style, a bool, ints within their range; nothing that was there is turned. Conditions: those of the code.
-/
import Derived.Test.YtpmfijaclncfhaaDrG
import Derived.Test.YtpmfijaclncfhaaOnce
namespace Go.Proofs.Ytpmfijaclncfhaa
open Go.ChangeShapes Go.WideShapes Go.ChangeAt Go.RowKit
set_option linter.unusedSimpArgs false
set_option linter.unusedVariables false

def Case3 (w : World) (e : Ending) (w' : World) : Prop := ∃ (f : Nat → Int) (t : Bool) (x : Int), e = .returned (.tuple #[.agg (sCells f), .bool t, .int .i64 x]) ∧ Below w.heap.size w w'
def Case4 (w : World) (e : Ending) (w' : World) : Prop := ∃ (f : Nat → Int) (t : Bool) (x y : Int), e = .returned (.tuple #[.agg (sCells f), .bool t, .int .i64 x, .int .i64 y]) ∧ Below w.heap.size w w'
section
variable {g : Nat} {t : TypeId} {f : Nat → Int} {w : World}
theorem results_sty3 {fn : Func} {p q r : Tmp} {b c : Value} (h : fn.results = #[.cell p 31, .tmp q, .tmp r]) {tmps : Array Value} (hp : tmps.getD p undef = .pointer (some ⟨g, 0, none⟩)) (hq : tmps.getD q undef = b) (hr : tmps.getD r undef = c)
    (hg : w.heap[g]? = some (.cells (sCells f) t)) : (results fn tmps).run Try.prog w = .ok (.tuple #[.agg (sCells f), b, c]) w := by
  have hp' : tmps[p]?.getD undef = .pointer (some ⟨g, 0, none⟩) := by simpa using hp
  have hq' : tmps[q]?.getD undef = b := by simpa using hq
  have hr' : tmps[r]?.getD undef = c := by simpa using hr
  simp [results, h, hp', hq', hr', asAddr, load_sty hg]
theorem results_sty4 {fn : Func} {p q r s : Tmp} {b c d : Value} (h : fn.results = #[.cell p 31, .tmp q, .tmp r, .tmp s]) {tmps : Array Value} (hp : tmps.getD p undef = .pointer (some ⟨g, 0, none⟩)) (hq : tmps.getD q undef = b) (hr : tmps.getD r undef = c) (hs : tmps.getD s undef = d)
    (hg : w.heap[g]? = some (.cells (sCells f) t)) : (results fn tmps).run Try.prog w = .ok (.tuple #[.agg (sCells f), b, c, d]) w := by
  have hp' : tmps[p]?.getD undef = .pointer (some ⟨g, 0, none⟩) := by simpa using hp
  have hq' : tmps[q]?.getD undef = b := by simpa using hq
  have hr' : tmps[r]?.getD undef = c := by simpa using hr
  have hs' : tmps[s]?.getD undef = d := by simpa using hs
  simp [results, h, hp', hq', hr', hs', asAddr, load_sty hg]
end
theorem base_any (cb : Nat) (a : Option Addr) (len cap : Nat) (w : World) (hcb : cb < w.heap.size) (hc : Cur cb a len cap w) :
    Calls Try.prog 39 #[.pointer (some ⟨cb, 0, none⟩)] w (DrewPost (-9223372036854775808) 9223372036854775807 cb a len cap w) := by
  go_enter Try.func39, Try.ntmps39
  go_wp2_with (fail)
  refine (pick_lit [-1, 0, 640, 1000, 3200, 1048576] 6 rfl (by omega) (by omega) (by decide) cb a len cap w hcb hc).mono ?_
  rintro e w2 ⟨y, rfl, y0, y1, c2, g2⟩
  go_wp2
  go_ret
  exact ⟨y, rfl, y0, y1, c2, g2⟩

theorem case8_sty (a : Option Addr) (len cap : Nat) (w : World) (hl : len ≤ 1048576) (hc : Code w a len) :
    Calls Try.prog 56 #[.slice a len cap] w (Case3 w) := by
  have hap := fun h0 => code_lt hc h0
  have bw := Go.Joins.below_alloc1 w (.cells (sCells fun _ => 0) 31)
  have hc0 := hc.below bw
  have hr0 := hp_new w (.cells (sCells fun _ => 0) 31)
  have hs0 : w.heap.size < (w.alloc (.cells (sCells fun _ => 0) 31)).heap.size := by simp
  obtain ⟨u, eu⟩ : ∃ u, u = w.alloc (.cells (sCells fun _ => 0) 31) := ⟨_, rfl⟩
  rw [← eu] at bw hc0 hr0 hs0
  have EU := Lib.hid eu
  clear eu
  go_enter Try.func56, Try.ntmps56
  go_wp2_with (first | (rw [← EU.out]) | ((with_reducible apply list_alloc_sty); exact rfl; exact rfl; simp only [World.size_alloc, Act.put, List.setIfInBounds_toArray, List.set_cons_succ, List.set_cons_zero]))
  refine (new_cur a len cap u hl hc0).mono ?_
  rintro e w1 ⟨rfl, c1, b1, s1⟩
  have hr1 := hp_below hr0 b1
  have B1 := bw.trans (b1.mono (by omega))
  have HAP := Lib.hid (show 0 < len → ∀ b off, a = some ⟨b, off, none⟩ → b < w.heap.size from hap)
  generalize u.heap.size = cb at *
  clear b1 bw hc0 hr0 hap
  (try dsimp only)
  go_wp2_with (fail)
  refine (anysty cb a len cap w1 s1 (fun h b off e => by have := HAP.out h b off e; have := B1.size; omega) c1).mono ?_
  rintro e w2 ⟨f, rfl, c2, g2⟩
  have hr2 := blk_kept hr1 g2 (by omega)
  have B2 := B1.grown g2 B1.size (fun k hk => by simp at hk; omega)
  have s2 : cb < w2.heap.size := by have := g2.size; omega
  clear g2 B1 c1 s1 hr1
  (try dsimp only)
  go_wp2_with (fail)
  refine (once_any 2 cb a len cap w2 (by omega) (by omega) c2).mono ?_
  rintro e w3 ⟨t, rfl, c3, g3⟩
  have hr3 := blk_kept hr2 g3 (by omega)
  have B3 := B2.grown g3 B2.size (fun k hk => by simp at hk; omega)
  have s3 : cb < w3.heap.size := by have := g3.size; omega
  clear g3 B2 c2 s2 hr2
  (try dsimp only)
  go_wp2_with (fail)
  refine (base_any cb a len cap w3 s3 c3).mono ?_
  rintro e w4 ⟨x, rfl, _, _, c4, g4⟩
  have hr4 := blk_kept hr3 g4 (by omega)
  have B4 := B3.grown g4 B3.size (fun k hk => by simp at hk; omega)
  have s4 : cb < w4.heap.size := by have := g4.size; omega
  clear g4 B3 c3 s3 hr3
  have h9 := Lib.hid (setRow_heap _ _ _ (sCells f) _ _ hr4)
  have b9 := Lib.hid (below_setRow B4 (g := w.heap.size) (Nat.le_refl _) (sCells f))
  have HR := Lib.hid hr4
  clear hr4 B4 c4
  (try dsimp only)
  go_wp2_with ((with_reducible apply list_store_sty); exact rfl; exact rfl; exact rfl; exact rfl; (with_reducible exact HR.out); simp only [World.size_alloc, Act.put, List.setIfInBounds_toArray, List.set_cons_succ, List.set_cons_zero])
  exact bodyPost_ret (results_sty3 rfl rfl rfl rfl h9.out) rfl ⟨f, t, x, rfl, b9.out⟩
theorem draw_bounded (a : Option Addr) (len cap : Nat) (w : World) (hl : len ≤ 1048576) (hc : Code w a len) :
    Calls Try.prog 13 #[.slice a len cap] w (Case4 w) := by
  have hap := fun h0 => code_lt hc h0
  have bw := Go.Joins.below_alloc1 w (.cells (sCells fun _ => 0) 31)
  have hc0 := hc.below bw
  have hr0 := hp_new w (.cells (sCells fun _ => 0) 31)
  have hs0 : w.heap.size < (w.alloc (.cells (sCells fun _ => 0) 31)).heap.size := by simp
  obtain ⟨u, eu⟩ : ∃ u, u = w.alloc (.cells (sCells fun _ => 0) 31) := ⟨_, rfl⟩
  rw [← eu] at bw hc0 hr0 hs0
  have EU := Lib.hid eu
  clear eu
  go_enter Try.func13, Try.ntmps13
  go_wp2_with (first | (rw [← EU.out]) | ((with_reducible apply list_alloc_sty); exact rfl; exact rfl; simp only [World.size_alloc, Act.put, List.setIfInBounds_toArray, List.set_cons_succ, List.set_cons_zero]))
  refine (new_cur a len cap u hl hc0).mono ?_
  rintro e w1 ⟨rfl, c1, b1, s1⟩
  have hr1 := hp_below hr0 b1
  have B1 := bw.trans (b1.mono (by omega))
  have HAP := Lib.hid (show 0 < len → ∀ b off, a = some ⟨b, off, none⟩ → b < w.heap.size from hap)
  generalize u.heap.size = cb at *
  clear b1 bw hc0 hr0 hap
  (try dsimp only)
  go_wp2_with (fail)
  refine (anysty cb a len cap w1 s1 (fun h b off e => by have := HAP.out h b off e; have := B1.size; omega) c1).mono ?_
  rintro e w2 ⟨f, rfl, c2, g2⟩
  have hr2 := blk_kept hr1 g2 (by omega)
  have B2 := B1.grown g2 B1.size (fun k hk => by simp at hk; omega)
  have s2 : cb < w2.heap.size := by have := g2.size; omega
  clear g2 B1 c1 s1 hr1
  (try dsimp only)
  go_wp2_with (fail)
  refine (once_any 2 cb a len cap w2 (by omega) (by omega) c2).mono ?_
  rintro e w3 ⟨t, rfl, c3, g3⟩
  have hr3 := blk_kept hr2 g3 (by omega)
  have B3 := B2.grown g3 B2.size (fun k hk => by simp at hk; omega)
  have s3 : cb < w3.heap.size := by have := g3.size; omega
  clear g3 B2 c2 s2 hr2
  (try dsimp only)
  go_wp2_with (fail)
  refine (base_any cb a len cap w3 s3 c3).mono ?_
  rintro e w4 ⟨x, rfl, _, _, c4, g4⟩
  have hr4 := blk_kept hr3 g4 (by omega)
  have B4 := B3.grown g4 B3.size (fun k hk => by simp at hk; omega)
  have s4 : cb < w4.heap.size := by have := g4.size; omega
  clear g4 B3 c3 s3 hr3
  (try dsimp only)
  go_wp2_with (fail)
  refine (l02_any cb a len cap w4 s4 c4).mono ?_
  rintro e w5 ⟨y, rfl, _, _, c5, g5⟩
  have hr5 := blk_kept hr4 g5 (by omega)
  have B5 := B4.grown g5 B4.size (fun k hk => by simp at hk; omega)
  have s5 : cb < w5.heap.size := by have := g5.size; omega
  clear g5 B4 c4 s4 hr4
  have h9 := Lib.hid (setRow_heap _ _ _ (sCells f) _ _ hr5)
  have b9 := Lib.hid (below_setRow B5 (g := w.heap.size) (Nat.le_refl _) (sCells f))
  have HR := Lib.hid hr5
  clear hr5 B5 c5
  (try dsimp only)
  go_wp2_with ((with_reducible apply list_store_sty); exact rfl; exact rfl; exact rfl; exact rfl; (with_reducible exact HR.out); simp only [World.size_alloc, Act.put, List.setIfInBounds_toArray, List.set_cons_succ, List.set_cons_zero])
  exact bodyPost_ret (results_sty4 rfl rfl rfl rfl rfl h9.out) rfl ⟨f, t, x, y, rfl, b9.out⟩
theorem draw_givenof (a : Option Addr) (len cap : Nat) (w : World) (hl : len ≤ 1048576) (hc : Code w a len) :
    Calls Try.prog 20 #[.slice a len cap] w (Case4 w) := by
  have hap := fun h0 => code_lt hc h0
  have bw := Go.Joins.below_alloc1 w (.cells (sCells fun _ => 0) 31)
  have hc0 := hc.below bw
  have hr0 := hp_new w (.cells (sCells fun _ => 0) 31)
  have hs0 : w.heap.size < (w.alloc (.cells (sCells fun _ => 0) 31)).heap.size := by simp
  obtain ⟨u, eu⟩ : ∃ u, u = w.alloc (.cells (sCells fun _ => 0) 31) := ⟨_, rfl⟩
  rw [← eu] at bw hc0 hr0 hs0
  have EU := Lib.hid eu
  clear eu
  go_enter Try.func20, Try.ntmps20
  go_wp2_with (first | (rw [← EU.out]) | ((with_reducible apply list_alloc_sty); exact rfl; exact rfl; simp only [World.size_alloc, Act.put, List.setIfInBounds_toArray, List.set_cons_succ, List.set_cons_zero]))
  refine (new_cur a len cap u hl hc0).mono ?_
  rintro e w1 ⟨rfl, c1, b1, s1⟩
  have hr1 := hp_below hr0 b1
  have B1 := bw.trans (b1.mono (by omega))
  have HAP := Lib.hid (show 0 < len → ∀ b off, a = some ⟨b, off, none⟩ → b < w.heap.size from hap)
  generalize u.heap.size = cb at *
  clear b1 bw hc0 hr0 hap
  (try dsimp only)
  go_wp2_with (fail)
  refine (anysty cb a len cap w1 s1 (fun h b off e => by have := HAP.out h b off e; have := B1.size; omega) c1).mono ?_
  rintro e w2 ⟨f, rfl, c2, g2⟩
  have hr2 := blk_kept hr1 g2 (by omega)
  have B2 := B1.grown g2 B1.size (fun k hk => by simp at hk; omega)
  have s2 : cb < w2.heap.size := by have := g2.size; omega
  clear g2 B1 c1 s1 hr1
  (try dsimp only)
  go_wp2_with (fail)
  refine (once_any 2 cb a len cap w2 (by omega) (by omega) c2).mono ?_
  rintro e w3 ⟨t, rfl, c3, g3⟩
  have hr3 := blk_kept hr2 g3 (by omega)
  have B3 := B2.grown g3 B2.size (fun k hk => by simp at hk; omega)
  have s3 : cb < w3.heap.size := by have := g3.size; omega
  clear g3 B2 c2 s2 hr2
  (try dsimp only)
  go_wp2_with (fail)
  refine (base_any cb a len cap w3 s3 c3).mono ?_
  rintro e w4 ⟨x, rfl, _, _, c4, g4⟩
  have hr4 := blk_kept hr3 g4 (by omega)
  have B4 := B3.grown g4 B3.size (fun k hk => by simp at hk; omega)
  have s4 : cb < w4.heap.size := by have := g4.size; omega
  clear g4 B3 c3 s3 hr3
  (try dsimp only)
  go_wp2_with (fail)
  refine (base_any cb a len cap w4 s4 c4).mono ?_
  rintro e w5 ⟨y, rfl, _, _, c5, g5⟩
  have hr5 := blk_kept hr4 g5 (by omega)
  have B5 := B4.grown g5 B4.size (fun k hk => by simp at hk; omega)
  have s5 : cb < w5.heap.size := by have := g5.size; omega
  clear g5 B4 c4 s4 hr4
  have h9 := Lib.hid (setRow_heap _ _ _ (sCells f) _ _ hr5)
  have b9 := Lib.hid (below_setRow B5 (g := w.heap.size) (Nat.le_refl _) (sCells f))
  have HR := Lib.hid hr5
  clear hr5 B5 c5
  (try dsimp only)
  go_wp2_with ((with_reducible apply list_store_sty); exact rfl; exact rfl; exact rfl; exact rfl; (with_reducible exact HR.out); simp only [World.size_alloc, Act.put, List.setIfInBounds_toArray, List.set_cons_succ, List.set_cons_zero])
  exact bodyPost_ret (results_sty4 rfl rfl rfl rfl rfl h9.out) rfl ⟨f, t, x, y, rfl, b9.out⟩
theorem draw_byratio (a : Option Addr) (len cap : Nat) (w : World) (hl : len ≤ 1048576) (hc : Code w a len) :
    Calls Try.prog 28 #[.slice a len cap] w (Case3 w) := by
  have hap := fun h0 => code_lt hc h0
  have bw := Go.Joins.below_alloc1 w (.cells (sCells fun _ => 0) 31)
  have hc0 := hc.below bw
  have hr0 := hp_new w (.cells (sCells fun _ => 0) 31)
  have hs0 : w.heap.size < (w.alloc (.cells (sCells fun _ => 0) 31)).heap.size := by simp
  obtain ⟨u, eu⟩ : ∃ u, u = w.alloc (.cells (sCells fun _ => 0) 31) := ⟨_, rfl⟩
  rw [← eu] at bw hc0 hr0 hs0
  have EU := Lib.hid eu
  clear eu
  go_enter Try.func28, Try.ntmps28
  go_wp2_with (first | (rw [← EU.out]) | ((with_reducible apply list_alloc_sty); exact rfl; exact rfl; simp only [World.size_alloc, Act.put, List.setIfInBounds_toArray, List.set_cons_succ, List.set_cons_zero]))
  refine (case8_sty a len cap u hl hc0).mono ?_
  rintro e w1 ⟨f, t, x, rfl, b1⟩
  have hr1 := hp_below hr0 b1
  have B1 := bw.trans (b1.mono (by omega))
  have h9 := Lib.hid (setRow_heap _ _ _ (sCells f) _ _ hr1)
  have b9 := Lib.hid (below_setRow B1 (g := w.heap.size) (Nat.le_refl _) (sCells f))
  have HR := Lib.hid hr1
  clear hr1 hr0 B1 b1 bw hc0 hs0 hap
  (try dsimp only)
  go_wp2_with ((with_reducible apply list_store_sty); exact rfl; exact rfl; exact rfl; exact rfl; (with_reducible exact HR.out); simp only [World.size_alloc, Act.put, List.setIfInBounds_toArray, List.set_cons_succ, List.set_cons_zero])
  exact bodyPost_ret (results_sty3 rfl rfl rfl rfl h9.out) rfl ⟨_, _, _, rfl, b9.out⟩
end Go.Proofs.Ytpmfijaclncfhaa

/-
  For every input, laws.FnExactSameTable returns true: the program answers as the document's model; the arguments read as before. Conditions: none.
-/
import Derived.Test.YtjkecmokmdnjlaaSmT
import Derived.Test.YtjkecmokmdnjlaaTbl
namespace Go.Proofs.Ytjkecmokmdnjlaa.fnExactSameTable
open Go.ChangeShapes Go.WideShapes Go.ChangeAt Go.RowKit
set_option linter.unusedVariables false
set_option linter.unusedSimpArgs false

theorem walk_big0 (a0 : Option Addr) (len0 cap0 : Nat) (z0 : List Int) (a1 : Option Addr) (len1 cap1 : Nat) (z1 : List Int) (w : World) (hz0 : Rls w a0 len0 z0) (hm0 : len0 ≤ 9223372036854775807) (hz1 : Rls w a1 len1 z1) (hm1 : len1 ≤ 9223372036854775807)  (hb : 1048576 < len0) :
    Calls Try.prog 7 #[.agg #[.slice a0 len0 cap0], .agg #[.slice a1 len1 cap1]] w fun e w' => e = .returned (.bool true) ∧ Below w.heap.size w w' := by
  have H0 := hp_on (hp_new w (.cells #[.slice a0 len0 cap0] 44)) (.cells #[.slice a1 len1 cap1] 44)
  have H1 := hp_new (w.alloc (.cells #[.slice a0 len0 cap0] 44)) (.cells #[.slice a1 len1 cap1] 44)
  simp only [World.size_alloc] at H0 H1
  have B : Below w.heap.size w ((w.alloc (.cells #[.slice a0 len0 cap0] 44)).alloc (.cells #[.slice a1 len1 cap1] 44)) := Go.Joins.below_alloc2 ..
  obtain ⟨u, eu⟩ : ∃ u, u = (w.alloc (.cells #[.slice a0 len0 cap0] 44)).alloc (.cells #[.slice a1 len1 cap1] 44) := ⟨_, rfl⟩
  rw [← eu] at B H0 H1
  have EU := Lib.hid eu
  clear eu
  go_enter Try.func7, Try.ntmps7
  have cH0_0 := Go.Joins.cell_of_block H0 0
  simp at cH0_0
  (try dsimp only)
  go_wp2_with (rw [← EU.out])
  clear cH0_0
  refine (szt_big a0 len0 cap0 1048576 _ (by omega) (by omega) hm0).mono ?_
  rintro e w1 ⟨rfl, b1⟩
  replace H0 := hp_below H0 b1
  replace H1 := hp_below H1 b1
  replace B := B.trans (b1.mono B.size)
  clear b1
  (try dsimp only)
  go_wp2_with (fail)
  go_ret
  exact ⟨rfl, B⟩
theorem walk_big1 (a0 : Option Addr) (len0 cap0 : Nat) (z0 : List Int) (a1 : Option Addr) (len1 cap1 : Nat) (z1 : List Int) (w : World) (hz0 : Rls w a0 len0 z0) (hm0 : len0 ≤ 9223372036854775807) (hz1 : Rls w a1 len1 z1) (hm1 : len1 ≤ 9223372036854775807) (hl0 : len0 ≤ 1048576) (hb : 1048576 - len0 < len1) :
    Calls Try.prog 7 #[.agg #[.slice a0 len0 cap0], .agg #[.slice a1 len1 cap1]] w fun e w' => e = .returned (.bool true) ∧ Below w.heap.size w w' := by
  have H0 := hp_on (hp_new w (.cells #[.slice a0 len0 cap0] 44)) (.cells #[.slice a1 len1 cap1] 44)
  have H1 := hp_new (w.alloc (.cells #[.slice a0 len0 cap0] 44)) (.cells #[.slice a1 len1 cap1] 44)
  simp only [World.size_alloc] at H0 H1
  have B : Below w.heap.size w ((w.alloc (.cells #[.slice a0 len0 cap0] 44)).alloc (.cells #[.slice a1 len1 cap1] 44)) := Go.Joins.below_alloc2 ..
  obtain ⟨u, eu⟩ : ∃ u, u = (w.alloc (.cells #[.slice a0 len0 cap0] 44)).alloc (.cells #[.slice a1 len1 cap1] 44) := ⟨_, rfl⟩
  rw [← eu] at B H0 H1
  have EU := Lib.hid eu
  clear eu
  go_enter Try.func7, Try.ntmps7
  have cH0_0 := Go.Joins.cell_of_block H0 0
  simp at cH0_0
  (try dsimp only)
  go_wp2_with (rw [← EU.out])
  clear cH0_0
  refine (szt_fit a0 len0 cap0 1048576 _ (by omega) (by omega)).mono ?_
  rintro e w1 ⟨rfl, b1⟩
  replace H0 := hp_below H0 b1
  replace H1 := hp_below H1 b1
  replace B := B.trans (b1.mono B.size)
  clear b1
  have cH1_0 := Go.Joins.cell_of_block H1 0
  simp at cH1_0
  (try dsimp only)
  go_wp2_with (fail)
  clear cH1_0
  refine (szt_big a1 len1 cap1 _ _ (by omega) (by omega) hm1).mono ?_
  rintro e w2 ⟨rfl, b2⟩
  replace H0 := hp_below H0 b2
  replace H1 := hp_below H1 b2
  replace B := B.trans (b2.mono B.size)
  clear b2
  (try dsimp only)
  go_wp2_with (fail)
  go_ret
  exact ⟨rfl, B⟩
set_option maxHeartbeats 2000000 in
theorem walk_small (a0 : Option Addr) (len0 cap0 : Nat) (z0 : List Int) (a1 : Option Addr) (len1 cap1 : Nat) (z1 : List Int) (w : World) (hz0 : Rls w a0 len0 z0) (hm0 : len0 ≤ 9223372036854775807) (hz1 : Rls w a1 len1 z1) (hm1 : len1 ≤ 9223372036854775807) (hl0 : len0 ≤ 1048576) (hl1 : len1 ≤ 1048576 - len0) :
    Calls Try.prog 7 #[.agg #[.slice a0 len0 cap0], .agg #[.slice a1 len1 cap1]] w fun e w' => e = .returned (.bool true) ∧ Below w.heap.size w w' := by
  have hr0 : AllI z0 := hz0.2.1
  have HZ0 := Lib.hid hz0
  clear hz0
  have hr1 : AllI z1 := hz1.2.1
  have HZ1 := Lib.hid hz1
  clear hz1
  have H0 := hp_on (hp_new w (.cells #[.slice a0 len0 cap0] 44)) (.cells #[.slice a1 len1 cap1] 44)
  have H1 := hp_new (w.alloc (.cells #[.slice a0 len0 cap0] 44)) (.cells #[.slice a1 len1 cap1] 44)
  simp only [World.size_alloc] at H0 H1
  have B : Below w.heap.size w ((w.alloc (.cells #[.slice a0 len0 cap0] 44)).alloc (.cells #[.slice a1 len1 cap1] 44)) := Go.Joins.below_alloc2 ..
  obtain ⟨u, eu⟩ : ∃ u, u = (w.alloc (.cells #[.slice a0 len0 cap0] 44)).alloc (.cells #[.slice a1 len1 cap1] 44) := ⟨_, rfl⟩
  rw [← eu] at B H0 H1
  have EU := Lib.hid eu
  clear eu
  go_enter Try.func7, Try.ntmps7
  have cH0_0 := Go.Joins.cell_of_block H0 0
  simp at cH0_0
  (try dsimp only)
  go_wp2_with (rw [← EU.out])
  clear cH0_0
  refine (szt_fit a0 len0 cap0 1048576 _ (by omega) (by omega)).mono ?_
  rintro e w1 ⟨rfl, b1⟩
  replace H0 := hp_below H0 b1
  replace H1 := hp_below H1 b1
  replace B := B.trans (b1.mono B.size)
  clear b1
  have cH1_0 := Go.Joins.cell_of_block H1 0
  simp at cH1_0
  (try dsimp only)
  go_wp2_with (fail)
  clear cH1_0
  refine (szt_fit a1 len1 cap1 _ _ (by omega) (by omega)).mono ?_
  rintro e w2 ⟨rfl, b2⟩
  replace H0 := hp_below H0 b2
  replace H1 := hp_below H1 b2
  replace B := B.trans (b2.mono B.size)
  clear b2
  have HB := Lib.hid B
  have hza0 : ∀ w', Below w2.heap.size w2 w' → Rls w' a0 len0 z0 := fun w' h => HZ0.out.below (HB.out.trans (h.mono HB.out.size))
  have HZA0 := Lib.hid hza0
  clear hza0
  have hza1 : ∀ w', Below w2.heap.size w2 w' → Rls w' a1 len1 z1 := fun w' h => HZ1.out.below (HB.out.trans (h.mono HB.out.size))
  have HZA1 := Lib.hid hza1
  clear hza1
  have SS : w2.cell? ⟨w.heap.size, 0, none⟩ = some (.slice a0 len0 cap0) ∧ w2.cell? ⟨w.heap.size + 1, 0, none⟩ = some (.slice a1 len1 cap1) ∧ Below w2.heap.size w2 w2 := ⟨by have h := Go.Joins.cell_of_block H0 0; simpa using h, by have h := Go.Joins.cell_of_block H1 0; simpa using h, Below.refl _ _⟩
  have HH0 := Lib.hid H0
  have HH1 := Lib.hid H1
  clear B H0 H1
  (try dsimp only)
  go_wp2_with (fail)
  go_region_held3 (fun w' => w'.cell? ⟨w.heap.size, 0, none⟩ = some (.slice a0 len0 cap0) ∧ w'.cell? ⟨w.heap.size + 1, 0, none⟩ = some (.slice a1 len1 cap1) ∧ Below w2.heap.size w2 w')
    (first | exact keep2 (by assumption) (by assumption) | exact drew2 (by assumption))
    (first
      | (go_at_call_of 23 a0; refine (toT_any a0 len0 cap0 z0 _ (HZA0.out _ (And.right (And.right (by assumption)))) (by omega)).mono ?_; rintro e wt0 ⟨gt0, rfl, rt0, bt0⟩)
      | (go_at_call_of 23 a1; refine (toT_any a1 len1 cap1 z1 _ (HZA1.out _ (And.right (And.right (by assumption)))) (by omega)).mono ?_; rintro e wt1 ⟨gt1, rfl, rt1, bt1⟩)
      | (go_at_call_of 27 gt0; refine (ssametable _ _ len0 len1 len0 len1 z0 z1 _ (by first | exact rt0.rls hr0 | exact (rt0.below bt1).rls hr0) (by first | exact rt1.rls hr1 | exact (rt1.below bt0).rls hr1) (by omega) (by omega)).mono ?_; rintro e w3 ⟨rfl, be⟩)
      | fail)
  all_goals (
    have SE : w3.cell? ⟨w.heap.size, 0, none⟩ = some (.slice a0 len0 cap0) ∧ w3.cell? ⟨w.heap.size + 1, 0, none⟩ = some (.slice a1 len1 cap1) ∧ Below w2.heap.size w2 w3 := by assumption
    have b3 := SE.2.2
    have B := HB.out.trans (b3.mono HB.out.size)
    have H0 := hp_below HH0.out b3
    have H1 := hp_below HH1.out b3
    clear SS SE HZA0 HZA1 HB be rt0 rt1 bt0 bt1 b3 HH0 HH1
    have cH0_0 := Go.Joins.cell_of_block H0 0
    simp at cH0_0
    (try dsimp only)
    go_wp2_with (fail)
    clear cH0_0
    refine (toT_any a0 len0 cap0 z0 _ (HZ0.out.below B) (by omega)).mono ?_
    rintro e w4 ⟨gx0, rfl, rgx0, b4⟩
    replace H0 := hp_below H0 b4
    replace H1 := hp_below H1 b4
    replace B := B.trans (b4.mono B.size)
    clear b4
    have HX0 := hp_new w4 (.cells #[.slice (some ⟨gx0, 0, none⟩) len0 len0] 26)
    replace H0 := hp_on H0 (.cells #[.slice (some ⟨gx0, 0, none⟩) len0 len0] 26)
    replace H1 := hp_on H1 (.cells #[.slice (some ⟨gx0, 0, none⟩) len0 len0] 26)
    replace rgx0 := World.ownsRow.alloc rgx0 (.cells #[.slice (some ⟨gx0, 0, none⟩) len0 len0] 26)
    replace B := B.alloc B.size (.cells #[.slice (some ⟨gx0, 0, none⟩) len0 len0] 26)
    obtain ⟨v0, ev0⟩ : ∃ v, v = w4.alloc (.cells #[.slice (some ⟨gx0, 0, none⟩) len0 len0] 26) := ⟨_, rfl⟩
    rw [← ev0] at B H0 H1 HX0 rgx0
    have rgx0 : RowR _ (.slice (some ⟨gx0, 0, none⟩) len0 len0) len0 z0 v0 := rgx0
    have EV0 := Lib.hid ev0
    clear ev0
    have cH1_0 := Go.Joins.cell_of_block H1 0
    simp at cH1_0
    (try dsimp only)
    go_wp2_with (rw [← EV0.out])
    clear cH1_0
    refine (toT_any a1 len1 cap1 z1 _ (HZ1.out.below B) (by omega)).mono ?_
    rintro e w5 ⟨gx1, rfl, rgx1, b5⟩
    replace H0 := hp_below H0 b5
    replace H1 := hp_below H1 b5
    replace HX0 := hp_below HX0 b5
    replace rgx0 := rgx0.below b5
    replace B := B.trans (b5.mono B.size)
    clear b5
    have HX1 := hp_new w5 (.cells #[.slice (some ⟨gx1, 0, none⟩) len1 len1] 26)
    replace H0 := hp_on H0 (.cells #[.slice (some ⟨gx1, 0, none⟩) len1 len1] 26)
    replace H1 := hp_on H1 (.cells #[.slice (some ⟨gx1, 0, none⟩) len1 len1] 26)
    replace HX0 := hp_on HX0 (.cells #[.slice (some ⟨gx1, 0, none⟩) len1 len1] 26)
    replace rgx0 := World.ownsRow.alloc rgx0 (.cells #[.slice (some ⟨gx1, 0, none⟩) len1 len1] 26)
    replace rgx1 := World.ownsRow.alloc rgx1 (.cells #[.slice (some ⟨gx1, 0, none⟩) len1 len1] 26)
    replace B := B.alloc B.size (.cells #[.slice (some ⟨gx1, 0, none⟩) len1 len1] 26)
    obtain ⟨v1, ev1⟩ : ∃ v, v = w5.alloc (.cells #[.slice (some ⟨gx1, 0, none⟩) len1 len1] 26) := ⟨_, rfl⟩
    rw [← ev1] at B H0 H1 HX0 HX1 rgx0 rgx1
    have rgx0 : RowR _ (.slice (some ⟨gx0, 0, none⟩) len0 len0) len0 z0 v1 := rgx0
    have rgx1 : RowR _ (.slice (some ⟨gx1, 0, none⟩) len1 len1) len1 z1 v1 := rgx1
    have EV1 := Lib.hid ev1
    clear ev1
    have cHX0_0 := Go.Joins.cell_of_block HX0 0
    have cHX1_0 := Go.Joins.cell_of_block HX1 0
    simp at cHX0_0 cHX1_0
    (try dsimp only)
    go_wp2_with (rw [← EV1.out])
    clear cHX0_0 cHX1_0
    refine (isametable (some ⟨gx0, 0, none⟩) (some ⟨gx1, 0, none⟩) len0 len1 len0 len1 z0 z1 _ (rgx0.rls hr0) (rgx1.rls hr1) (by omega) (by omega)).mono ?_
    rintro e w6 ⟨rfl, b6⟩
    replace H0 := hp_below H0 b6
    replace H1 := hp_below H1 b6
    replace HX0 := hp_below HX0 b6
    replace HX1 := hp_below HX1 b6
    replace rgx0 := rgx0.below b6
    replace rgx1 := rgx1.below b6
    replace B := B.trans (b6.mono B.size)
    clear b6
    generalize smB z0 z1 = r0 at *
    (try dsimp only)
    go_wp2_with (fail)
    have HB := Lib.hid B
    have hza : ∀ w', Below w6.heap.size w6 w' → Rls w' a0 len0 z0 := fun w' h => HZ0.out.below (HB.out.trans (h.mono HB.out.size))
    have hxa : ∀ w', Below w6.heap.size w6 w' → Rls w' (some ⟨gx0, 0, none⟩) len0 z0 := fun w' h => (rgx0.rls hr0).below h
    have HZA := Lib.hid hza
    have HXA := Lib.hid hxa
    clear hza hxa
    have SS : w6.cell? ⟨w.heap.size, 0, none⟩ = some (.slice a0 len0 cap0) ∧ w6.cell? ⟨w4.heap.size, 0, none⟩ = some (.slice (some ⟨gx0, 0, none⟩) len0 len0) ∧ Below w6.heap.size w6 w6 := ⟨by have h := Go.Joins.cell_of_block H0 0; simpa using h, by have h := Go.Joins.cell_of_block HX0 0; simpa using h, Below.refl _ _⟩
    have HHH0 := Lib.hid H0
    have HHH1 := Lib.hid H1
    have HHHX0 := Lib.hid HX0
    have HHHX1 := Lib.hid HX1
    have HHrgx0 := Lib.hid rgx0
    have HHrgx1 := Lib.hid rgx1
    clear B H0 H1 HX0 HX1 rgx0 rgx1
    go_region_held3 (fun w' => w'.cell? ⟨w.heap.size, 0, none⟩ = some (.slice a0 len0 cap0) ∧ w'.cell? ⟨w4.heap.size, 0, none⟩ = some (.slice (some ⟨gx0, 0, none⟩) len0 len0) ∧ Below w6.heap.size w6 w')
      (first | exact keep2 (by assumption) (by assumption) | exact drew2 (by assumption))
      (first
        | (go_at_call 23; refine (toT_any a0 len0 cap0 z0 _ (HZA.out _ (And.right (And.right (by assumption)))) (by omega)).mono ?_; rintro e wt ⟨gt, rfl, rt, bt⟩)
        | (go_at_call 24; refine (eqT_any (some ⟨gx0, 0, none⟩) _ len0 len0 len0 z0 _ (HXA.out _ (And.right (And.right (by assumption)))) (rt.rls hr0) (by omega)).mono ?_; rintro e w7 ⟨rfl, be⟩)
        | fail)
    have SE : w7.cell? ⟨w.heap.size, 0, none⟩ = some (.slice a0 len0 cap0) ∧ w7.cell? ⟨w4.heap.size, 0, none⟩ = some (.slice (some ⟨gx0, 0, none⟩) len0 len0) ∧ Below w6.heap.size w6 w7 := by assumption
    have b7 := SE.2.2
    have B := HB.out.trans (b7.mono HB.out.size)
    have H0 := hp_below HHH0.out b7
    have H1 := hp_below HHH1.out b7
    have HX0 := hp_below HHHX0.out b7
    have HX1 := hp_below HHHX1.out b7
    have rgx0 := HHrgx0.out.below b7
    have rgx1 := HHrgx1.out.below b7
    clear SS SE HZA HXA HB be rt bt b7 HHH0 HHH1 HHHX0 HHHX1 HHrgx0 HHrgx1
    (try dsimp only)
    go_wp2_with (fail)
    have HB := Lib.hid B
    have hza : ∀ w', Below w7.heap.size w7 w' → Rls w' a1 len1 z1 := fun w' h => HZ1.out.below (HB.out.trans (h.mono HB.out.size))
    have hxa : ∀ w', Below w7.heap.size w7 w' → Rls w' (some ⟨gx1, 0, none⟩) len1 z1 := fun w' h => (rgx1.rls hr1).below h
    have HZA := Lib.hid hza
    have HXA := Lib.hid hxa
    clear hza hxa
    have SS : w7.cell? ⟨w.heap.size + 1, 0, none⟩ = some (.slice a1 len1 cap1) ∧ w7.cell? ⟨w5.heap.size, 0, none⟩ = some (.slice (some ⟨gx1, 0, none⟩) len1 len1) ∧ Below w7.heap.size w7 w7 := ⟨by have h := Go.Joins.cell_of_block H1 0; simpa using h, by have h := Go.Joins.cell_of_block HX1 0; simpa using h, Below.refl _ _⟩
    have HHH0 := Lib.hid H0
    have HHH1 := Lib.hid H1
    have HHHX0 := Lib.hid HX0
    have HHHX1 := Lib.hid HX1
    have HHrgx0 := Lib.hid rgx0
    have HHrgx1 := Lib.hid rgx1
    clear B H0 H1 HX0 HX1 rgx0 rgx1
    go_region_held3 (fun w' => w'.cell? ⟨w.heap.size + 1, 0, none⟩ = some (.slice a1 len1 cap1) ∧ w'.cell? ⟨w5.heap.size, 0, none⟩ = some (.slice (some ⟨gx1, 0, none⟩) len1 len1) ∧ Below w7.heap.size w7 w')
      (first | exact keep2 (by assumption) (by assumption) | exact drew2 (by assumption))
      (first
        | (go_at_call 23; refine (toT_any a1 len1 cap1 z1 _ (HZA.out _ (And.right (And.right (by assumption)))) (by omega)).mono ?_; rintro e wt ⟨gt, rfl, rt, bt⟩)
        | (go_at_call 24; refine (eqT_any (some ⟨gx1, 0, none⟩) _ len1 len1 len1 z1 _ (HXA.out _ (And.right (And.right (by assumption)))) (rt.rls hr1) (by omega)).mono ?_; rintro e w8 ⟨rfl, be⟩)
        | fail)
    have SE : w8.cell? ⟨w.heap.size + 1, 0, none⟩ = some (.slice a1 len1 cap1) ∧ w8.cell? ⟨w5.heap.size, 0, none⟩ = some (.slice (some ⟨gx1, 0, none⟩) len1 len1) ∧ Below w7.heap.size w7 w8 := by assumption
    have b8 := SE.2.2
    have B := HB.out.trans (b8.mono HB.out.size)
    have H0 := hp_below HHH0.out b8
    have H1 := hp_below HHH1.out b8
    have HX0 := hp_below HHHX0.out b8
    have HX1 := hp_below HHHX1.out b8
    have rgx0 := HHrgx0.out.below b8
    have rgx1 := HHrgx1.out.below b8
    clear SS SE HZA HXA HB be rt bt b8 HHH0 HHH1 HHHX0 HHHX1 HHrgx0 HHrgx1
    (try dsimp only)
    go_wp2_with (fail)
    go_ret
    exact ⟨rfl, B⟩)
theorem walk (a0 : Option Addr) (len0 cap0 : Nat) (z0 : List Int) (a1 : Option Addr) (len1 cap1 : Nat) (z1 : List Int) (w : World) (hz0 : Rls w a0 len0 z0) (hm0 : len0 ≤ 9223372036854775807) (hz1 : Rls w a1 len1 z1) (hm1 : len1 ≤ 9223372036854775807)  :
    Calls Try.prog 7 #[.agg #[.slice a0 len0 cap0], .agg #[.slice a1 len1 cap1]] w fun e w' => e = .returned (.bool true) ∧ Below w.heap.size w w' := by
  by_cases hl0 : len0 ≤ 1048576
  · by_cases hl1 : len1 ≤ 1048576 - len0
    · exact walk_small a0 len0 cap0 z0 a1 len1 cap1 z1 w hz0 hm0 hz1 hm1 hl0 hl1
    · exact walk_big1 a0 len0 cap0 z0 a1 len1 cap1 z1 w hz0 hm0 hz1 hm1 hl0 (by omega)
  · exact walk_big0 a0 len0 cap0 z0 a1 len1 cap1 z1 w hz0 hm0 hz1 hm1 (by omega)

theorem laidOut : laidOutB Try.prog = true := by kernel_rfl

set_option maxRecDepth 100000 in
theorem lifted (os : Os) (started : os.Started) (H : Type) (enc : TypeId × Value → H) :
    ReturnsInHanded {} Try.checked os 7 .any (Rows.fnExactSameTableSpec.pre6 enc Try.prog Try.f7 Rows.fnExactSameTableRow.domain false) (Rows.fnExactSameTableSpec.post enc Try.prog Try.f7 false true false false) := by
  refine returnsInHanded_of_change (C := Try.checked) own started (by kernel_rfl) Try.func7
    (ChangeSpec.witness6 (enc := enc) (C := Try.checked) false ⟨#[], #[.agg #[.slice none 0 0], .agg #[.slice none 0 0]], []⟩ 8 (by kernel_rfl) (by kernel_rfl) (by kernel_rfl) (by kernel_rfl)) ?_
  intro W base args ds gs before hval0 hW hcnd _
  have hval : ∀ (j : Nat) t v, Try.f7.params[j]? = some t → args[j]? = some v → Value.okWide Try.prog W .any base t v := hval0
  have hW' := hW
  obtain ⟨p, q, hA0, hV, rfl, hfz, hnd⟩ := hW
  have hA : DataW.TrodAll enc Try.prog W 0 (fun _ => true) true Try.f7.params.toList args.toList ds p := hA0
  rw [Try.params7] at hA hval
  obtain ⟨v0, vs0, d0, ds0, p0, q0, hargs, rfl, rfl, h0, r0⟩ := trodAll_cons hA
  obtain ⟨v1, vs1, d1, ds1, p1, q1, rfl, rfl, rfl, h1, r1⟩ := trodAll_cons r0
  obtain ⟨rfl, rfl, rfl⟩ := trodAll_nil r1
  obtain rfl : args = #[v0, v1] := by cases args; simp_all
  obtain ⟨rfl, rfl⟩ := trodVars_none hV
  have k0 := h0
  have lt0 : ∀ x ∈ p0, x.block < W.heap.size := by obtain ⟨m, hm⟩ := k0; exact DataW.trod_lt m _ _ _ hm
  obtain ⟨a0, len0, cap0, z0, rfl, hz0, hm0⟩ := tab_of (hval 0 44 v0 rfl rfl) h0
  have k1 := h1
  have lt1 : ∀ x ∈ p1, x.block < W.heap.size := by obtain ⟨m, hm⟩ := k1; exact DataW.trod_lt m _ _ _ hm
  obtain ⟨a1, len1, cap1, z1, rfl, hz1, hm1⟩ := tab_of (hval 1 44 v1 rfl rfl) h1
  clear hA0 hval0
  refine (walk a0 len0 cap0 z0 a1 len1 cap1 z1 W hz0 hm0 hz1 hm1).mono fun e W' ⟨he, bel⟩ => ?_
  subst he
  exact ⟨_, rfl, law_post (pa := _) (pv := []) hW' (trodAll_cons_mk (shut_bool Try.underlying4 _) trodAll_mk0) (trodAll_cons_mk (Below.trod laidOut (by kernel_rfl) (of_decide_eq_true (by kernel_rfl)) k0 bel lt0) (trodAll_cons_mk (Below.trod laidOut (by kernel_rfl) (of_decide_eq_true (by kernel_rfl)) k1 bel lt1) trodAll_mk0)) rfl rfl bel⟩

/-- The given statement. -/
theorem proved : Rows.FnExactSameTableSaid :=
  OpenClaim.holds_of_wide 7 Try.f7 rfl rfl rfl rfl rfl rfl rfl ⟨rfl, rfl, rfl, rfl, rfl⟩ rfl rfl rfl rfl rfl (by kernel_rfl) Try.func7 (by kernel_rfl)
    (of_decide_eq_true (by kernel_rfl)) (by unfold Func.isWrapper; first | (rw [if_pos (by decide +kernel)]; kernel_rfl) | (rw [if_neg (by decide +kernel)]; exact ⟨rfl, rfl⟩))
    (fun os started H enc _ => lifted os started H enc)
#print axioms proved
end Go.Proofs.Ytjkecmokmdnjlaa.fnExactSameTable

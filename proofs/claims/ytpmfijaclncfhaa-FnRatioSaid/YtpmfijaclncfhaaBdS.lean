/-
  The contracts of the model: spec.LeastOf, MostOf, FixedOf. Conditions: none.
-/
import Derived.Test.YtpmfijaclncfhaaBdM
namespace Go.Proofs.Ytpmfijaclncfhaa
open Go.ChangeShapes Go.WideShapes Go.ChangeAt Go.RowKit
set_option linter.unusedSimpArgs false
set_option linter.unusedVariables false

theorem smost (f : Nat → Int) (b : Bool) (base : Int) (w : World) :
    Calls Try.prog 19 #[.agg (sCells f), .bool b, .int .i64 base] w fun e w' => e = .returned (.int .i64 (vzI f b 21 base)) ∧ Below w.heap.size w w' := by
  have h0 := hp_new w (.cells (sCells f) 31)
  have bb : Below w.heap.size w (w.alloc (.cells (sCells f) 31)) := Go.Joins.below_alloc1 ..
  obtain ⟨u, eu⟩ : ∃ u, u = w.alloc (.cells (sCells f) 31) := ⟨_, rfl⟩
  rw [← eu] at h0 bb
  have EU := Lib.hid eu
  clear eu
  have c21 := sty_int h0 21 (by decide)
  have c22 := sty_int h0 22 (by decide)
  have c23 := sty_int h0 23 (by decide)
  have c24 := sty_int h0 24 (by decide)
  go_enter Try.func19, Try.ntmps19
  go_wp2_with (rw [← EU.out])
  (try dsimp only)
  refine (spick b (f 21) (f 22) (f 23) (f 24) _).mono ?_
  rintro e w1 ⟨rfl, b1⟩
  replace bb := bb.trans (b1.mono bb.size)
  clear b1
  go_wp2_with (fail)
  (try dsimp only)
  refine (ssizeof _ _ base _).mono ?_
  rintro e w2 ⟨rfl, b2⟩
  replace bb := bb.trans (b2.mono bb.size)
  clear b2
  go_wp2
  go_ret
  exact ⟨rfl, bb⟩
theorem sfixed (f : Nat → Int) (b : Bool) (base : Int) (w : World) :
    Calls Try.prog 25 #[.agg (sCells f), .bool b, .int .i64 base] w fun e w' => e = .returned (.int .i64 (vzI f b 13 base)) ∧ Below w.heap.size w w' := by
  have h0 := hp_new w (.cells (sCells f) 31)
  have bb : Below w.heap.size w (w.alloc (.cells (sCells f) 31)) := Go.Joins.below_alloc1 ..
  obtain ⟨u, eu⟩ : ∃ u, u = w.alloc (.cells (sCells f) 31) := ⟨_, rfl⟩
  rw [← eu] at h0 bb
  have EU := Lib.hid eu
  clear eu
  have c13 := sty_int h0 13 (by decide)
  have c14 := sty_int h0 14 (by decide)
  have c15 := sty_int h0 15 (by decide)
  have c16 := sty_int h0 16 (by decide)
  go_enter Try.func25, Try.ntmps25
  go_wp2_with (rw [← EU.out])
  (try dsimp only)
  refine (spick b (f 13) (f 14) (f 15) (f 16) _).mono ?_
  rintro e w1 ⟨rfl, b1⟩
  replace bb := bb.trans (b1.mono bb.size)
  clear b1
  go_wp2_with (fail)
  (try dsimp only)
  refine (ssizeof _ _ base _).mono ?_
  rintro e w2 ⟨rfl, b2⟩
  replace bb := bb.trans (b2.mono bb.size)
  clear b2
  go_wp2
  go_ret
  exact ⟨rfl, bb⟩
theorem sleast (f : Nat → Int) (b : Bool) (base : Int) (w : World) :
    Calls Try.prog 18 #[.agg (sCells f), .bool b, .int .i64 base] w fun e w' => e = .returned (.int .i64 (leI f b base)) ∧ Below w.heap.size w w' := by
  have h0 := hp_new w (.cells (sCells f) 31)
  have bb : Below w.heap.size w (w.alloc (.cells (sCells f) 31)) := Go.Joins.below_alloc1 ..
  obtain ⟨u, eu⟩ : ∃ u, u = w.alloc (.cells (sCells f) 31) := ⟨_, rfl⟩
  rw [← eu] at h0 bb
  have EU := Lib.hid eu
  clear eu
  have c17 := sty_int h0 17 (by decide)
  have c18 := sty_int h0 18 (by decide)
  have c19 := sty_int h0 19 (by decide)
  have c20 := sty_int h0 20 (by decide)
  have hf := sfsize f b
  have hz := ssizeof (pkI b (f 17) (f (17 + 2))) (pkI b (f (17 + 1)) (f (17 + 3))) base
  have hv : szV (pkI b (f 17) (f (17 + 2))) (pkI b (f (17 + 1)) (f (17 + 3))) base = vzI f b 17 base := rfl
  rw [hv] at hz
  clear hv
  unfold leI mxI
  generalize frI f b = z at *
  generalize vzI f b 17 base = y at *
  have ho := sorelse y 0
  generalize orI y 0 = x at *
  by_cases e1 : x < z
  · rw [if_pos e1]
    go_enter Try.func18, Try.ntmps18
    go_wp2_with (rw [← EU.out])
    (try dsimp only)
    refine (spick b (f 17) (f 18) (f 19) (f 20) _).mono ?_
    rintro e w1 ⟨rfl, b1⟩
    replace h0 := hp_below h0 b1
    replace bb := bb.trans (b1.mono bb.size)
    clear b1
    go_wp2_with (fail)
    (try dsimp only)
    refine (hz _).mono ?_
    rintro e w2 ⟨rfl, b2⟩
    replace h0 := hp_below h0 b2
    replace bb := bb.trans (b2.mono bb.size)
    clear b2
    go_wp2_with (fail)
    (try dsimp only)
    refine (ho _).mono ?_
    rintro e w3 ⟨rfl, rfl⟩
    go_wp2_with ((with_reducible apply list_load_sty); exact rfl; exact rfl; exact rfl; (with_reducible exact h0); simp only [World.size_alloc, Act.put, List.setIfInBounds_toArray, List.set_cons_succ, List.set_cons_zero])
    (try dsimp only)
    refine (hf _).mono ?_
    rintro e w4 ⟨rfl, b4⟩
    replace h0 := hp_below h0 b4
    replace bb := bb.trans (b4.mono bb.size)
    clear b4
    go_wp2_with ((with_reducible apply list_load_sty); exact rfl; exact rfl; exact rfl; (with_reducible exact h0); simp only [World.size_alloc, Act.put, List.setIfInBounds_toArray, List.set_cons_succ, List.set_cons_zero])
    (try dsimp only)
    refine (hf _).mono ?_
    rintro e w5 ⟨rfl, b5⟩
    replace bb := bb.trans (b5.mono bb.size)
    clear b5
    go_wp2
    go_ret
    exact ⟨rfl, bb⟩
  · rw [if_neg e1]
    go_enter Try.func18, Try.ntmps18
    go_wp2_with (rw [← EU.out])
    (try dsimp only)
    refine (spick b (f 17) (f 18) (f 19) (f 20) _).mono ?_
    rintro e w1 ⟨rfl, b1⟩
    replace h0 := hp_below h0 b1
    replace bb := bb.trans (b1.mono bb.size)
    clear b1
    go_wp2_with (fail)
    (try dsimp only)
    refine (hz _).mono ?_
    rintro e w2 ⟨rfl, b2⟩
    replace h0 := hp_below h0 b2
    replace bb := bb.trans (b2.mono bb.size)
    clear b2
    go_wp2_with (fail)
    (try dsimp only)
    refine (ho _).mono ?_
    rintro e w3 ⟨rfl, rfl⟩
    go_wp2_with ((with_reducible apply list_load_sty); exact rfl; exact rfl; exact rfl; (with_reducible exact h0); simp only [World.size_alloc, Act.put, List.setIfInBounds_toArray, List.set_cons_succ, List.set_cons_zero])
    (try dsimp only)
    refine (hf _).mono ?_
    rintro e w4 ⟨rfl, b4⟩
    replace h0 := hp_below h0 b4
    replace bb := bb.trans (b4.mono bb.size)
    clear b4
    go_wp2
    go_ret
    exact ⟨rfl, bb⟩
end Go.Proofs.Ytpmfijaclncfhaa

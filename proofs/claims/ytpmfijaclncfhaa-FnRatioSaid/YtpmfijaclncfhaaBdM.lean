/-
  The plain functions that say what chapter 8 answers; the contracts of FrameSize and OrElse (program and model) and of spec.l08Pick. Conditions: none.
-/
import Derived.Test.YtpmfijaclncfhaaFrmM
import Derived.Test.YtpmfijaclncfhaaStyW
import Derived.Test.YtpmfijaclncfhaaWit
import Derived.Test.YtpmfijaclncfhaaResI
import Derived.Test.YtpmfijaclncfhaaResS
import Derived.Lib.QuietBelow
import Derived.BigQuiet
namespace Go.Proofs.Ytpmfijaclncfhaa
open Go.ChangeShapes Go.WideShapes Go.ChangeAt Go.RowKit
set_option linter.unusedSimpArgs false
set_option linter.unusedVariables false

/-- The width's, or the height's. -/
def pkI (b : Bool) (x y : Int) : Int := if b then x else y
/-- The first, where it is known. -/
def orI (n m : Int) : Int := if n = -1 then m else n
/-- Padding and border along an axis. -/
def frI (f : Nat → Int) (b : Bool) : Int := pkI b (smI (smI (f 50) (f 54)) (smI (f 52) (f 56))) (smI (smI (f 51) (f 55)) (smI (f 53) (f 57)))
/-- The size of the value whose width begins in cell o. -/
def vzI (f : Nat → Int) (b : Bool) (o : Nat) (base : Int) : Int := szV (pkI b (f o) (f (o + 2))) (pkI b (f (o + 1)) (f (o + 3))) base
def mxI (z x : Int) : Int := if x < z then z else x
def leI (f : Nat → Int) (b : Bool) (base : Int) : Int := mxI (frI f b) (orI (vzI f b 17 base) 0)
def bdI (f : Nat → Int) (b : Bool) (base n : Int) : Int := clI (wiI n (leI f b base) (vzI f b 21 base))
def raI (f : Nat → Int) (b : Bool) (other : Int) : Int := if f 25 ≤ 0 ∨ other < 0 then -1 else pkI b (clI (fdI (clI other * clI (f 25)) 64)) (clI (fdI (clI other * 64) (clI (f 25))))
def giI (f : Nat → Int) (b : Bool) (base other : Int) : Int := orI (vzI f b 13 base) (raI f b other)

theorem frI_in (f : Nat → Int) (b : Bool) : 0 ≤ frI f b ∧ frI f b ≤ 1048576 := by cases b <;> exact smI_in _ _
theorem szV_in (k n b : Int) : szV k n b = -1 ∨ (0 ≤ szV k n b ∧ szV k n b ≤ 1048576) := by
  unfold szV
  split
  · exact .inr (clI_in _)
  · exact .inl rfl
theorem leI_in (f : Nat → Int) (b : Bool) (base : Int) : frI f b ≤ leI f b base ∧ 0 ≤ leI f b base ∧ leI f b base ≤ 1048576 := by
  have h1 := frI_in f b
  have h2 := szV_in (pkI b (f 17) (f (17 + 2))) (pkI b (f (17 + 1)) (f (17 + 3))) base
  unfold leI mxI orI vzI
  (repeat' split) <;> omega
theorem sorelse (n m : Int) (w : World) :
    Calls Try.prog 47 #[.int .i64 n, .int .i64 m] w fun e w' => e = .returned (.int .i64 (orI n m)) ∧ w' = w := by
  by_cases h1 : n = -1
  · subst h1
    go_enter Try.func47, Try.ntmps47
    go_wp2
    go_ret
    exact ⟨rfl, rfl⟩
  · go_enter Try.func47, Try.ntmps47
    go_wp2
    go_ret
    exact ⟨ret_int (by simp [orI, h1]), rfl⟩
theorem sorelseB (n m : Int) (w : World) :
    Calls Try.prog 47 #[.int .i64 n, .int .i64 m] w fun e w' => e = .returned (.int .i64 (orI n m)) ∧ Below w.heap.size w w' := (sorelse n m w).mono fun e w' h => ⟨h.1, h.2 ▸ Below.refl _ _⟩
theorem iorelse (n m : Int) (w : World) :
    Calls Try.prog 55 #[.int .i64 n, .int .i64 m] w fun e w' => e = .returned (.int .i64 (orI n m)) ∧ w' = w := by
  by_cases h1 : n = -1
  · subst h1
    go_enter Try.func55, Try.ntmps55
    go_wp2
    go_ret
    exact ⟨rfl, rfl⟩
  · go_enter Try.func55, Try.ntmps55
    go_wp2
    go_ret
    exact ⟨ret_int (by simp [orI, h1]), rfl⟩
theorem iorelseB (n m : Int) (w : World) :
    Calls Try.prog 55 #[.int .i64 n, .int .i64 m] w fun e w' => e = .returned (.int .i64 (orI n m)) ∧ Below w.heap.size w w' := (iorelse n m w).mono fun e w' h => ⟨h.1, h.2 ▸ Below.refl _ _⟩
theorem spick (b : Bool) (x y z t : Int) (w : World) :
    Calls Try.prog 49 #[.bool b, .agg #[.int .i64 x, .int .i64 y], .agg #[.int .i64 z, .int .i64 t]] w fun e w' => e = .returned (.agg #[.int .i64 (pkI b x z), .int .i64 (pkI b y t)]) ∧ Below w.heap.size w w' := by
  cases b
  ·
    go_enter Try.func49, Try.ntmps49
    go_wp2
    exact bodyPost_ret (v := .agg #[.int .i64 z, .int .i64 t]) (by simp [results, Try.results49, go_sem]) rfl ⟨rfl, Go.Joins.below_alloc3 ..⟩
  ·
    go_enter Try.func49, Try.ntmps49
    go_wp2
    exact bodyPost_ret (v := .agg #[.int .i64 x, .int .i64 y]) (by simp [results, Try.results49, go_sem]) rfl ⟨rfl, Go.Joins.below_alloc3 ..⟩
theorem sfsize (f : Nat → Int) (b : Bool) (w : World) :
    Calls Try.prog 35 #[.agg (sCells f), .bool b] w fun e w' => e = .returned (.int .i64 (frI f b)) ∧ Below w.heap.size w w' := by
  have h0 := hp_new w (.cells (sCells f) 31)
  have bb : Below w.heap.size w (w.alloc (.cells (sCells f) 31)) := Go.Joins.below_alloc1 ..
  obtain ⟨u, eu⟩ : ∃ u, u = w.alloc (.cells (sCells f) 31) := ⟨_, rfl⟩
  rw [← eu] at h0 bb
  have EU := Lib.hid eu
  clear eu
  cases b
  ·
    go_enter Try.func35, Try.ntmps35
    go_wp2_with (first | (rw [← EU.out]) | ((with_reducible apply list_load_sty); exact rfl; exact rfl; exact rfl; (with_reducible exact h0); simp only [World.size_alloc, Act.put, List.setIfInBounds_toArray, List.set_cons_succ, List.set_cons_zero]))
    (try dsimp only)
    refine (sframe f _).mono ?_
    rintro e w1 ⟨rfl, b1⟩
    replace bb := bb.trans (b1.mono bb.size)
    clear b1
    go_wp2_with (fail)
    (try dsimp only)
    refine (shighof _ _ _ _ _).mono ?_
    rintro e w2 ⟨rfl, b2⟩
    replace bb := bb.trans (b2.mono bb.size)
    clear b2
    go_wp2
    go_ret
    exact ⟨rfl, bb⟩
  ·
    go_enter Try.func35, Try.ntmps35
    go_wp2_with (first | (rw [← EU.out]) | ((with_reducible apply list_load_sty); exact rfl; exact rfl; exact rfl; (with_reducible exact h0); simp only [World.size_alloc, Act.put, List.setIfInBounds_toArray, List.set_cons_succ, List.set_cons_zero]))
    (try dsimp only)
    refine (sframe f _).mono ?_
    rintro e w1 ⟨rfl, b1⟩
    replace bb := bb.trans (b1.mono bb.size)
    clear b1
    go_wp2_with (fail)
    (try dsimp only)
    refine (swideof _ _ _ _ _).mono ?_
    rintro e w2 ⟨rfl, b2⟩
    replace bb := bb.trans (b2.mono bb.size)
    clear b2
    go_wp2
    go_ret
    exact ⟨rfl, bb⟩
theorem ifsize (f : Nat → Int) (b : Bool) (w : World) :
    Calls Try.prog 23 #[.agg (sCells f), .bool b] w fun e w' => e = .returned (.int .i64 (frI f b)) ∧ Below w.heap.size w w' := by
  have h0 := hp_new w (.cells (sCells f) 31)
  have bb : Below w.heap.size w (w.alloc (.cells (sCells f) 31)) := Go.Joins.below_alloc1 ..
  obtain ⟨u, eu⟩ : ∃ u, u = w.alloc (.cells (sCells f) 31) := ⟨_, rfl⟩
  rw [← eu] at h0 bb
  have EU := Lib.hid eu
  clear eu
  cases b
  ·
    go_enter Try.func23, Try.ntmps23
    go_wp2_with (first | (rw [← EU.out]) | ((with_reducible apply list_load_sty); exact rfl; exact rfl; exact rfl; (with_reducible exact h0); simp only [World.size_alloc, Act.put, List.setIfInBounds_toArray, List.set_cons_succ, List.set_cons_zero]))
    (try dsimp only)
    refine (iframe f _).mono ?_
    rintro e w1 ⟨rfl, b1⟩
    replace bb := bb.trans (b1.mono bb.size)
    clear b1
    go_wp2_with (fail)
    (try dsimp only)
    refine (ihighof _ _ _ _ _).mono ?_
    rintro e w2 ⟨rfl, b2⟩
    replace bb := bb.trans (b2.mono bb.size)
    clear b2
    go_wp2
    go_ret
    exact ⟨rfl, bb⟩
  ·
    go_enter Try.func23, Try.ntmps23
    go_wp2_with (first | (rw [← EU.out]) | ((with_reducible apply list_load_sty); exact rfl; exact rfl; exact rfl; (with_reducible exact h0); simp only [World.size_alloc, Act.put, List.setIfInBounds_toArray, List.set_cons_succ, List.set_cons_zero]))
    (try dsimp only)
    refine (iframe f _).mono ?_
    rintro e w1 ⟨rfl, b1⟩
    replace bb := bb.trans (b1.mono bb.size)
    clear b1
    go_wp2_with (fail)
    (try dsimp only)
    refine (iwideof _ _ _ _ _).mono ?_
    rintro e w2 ⟨rfl, b2⟩
    replace bb := bb.trans (b2.mono bb.size)
    clear b2
    go_wp2
    go_ret
    exact ⟨rfl, bb⟩
end Go.Proofs.Ytpmfijaclncfhaa

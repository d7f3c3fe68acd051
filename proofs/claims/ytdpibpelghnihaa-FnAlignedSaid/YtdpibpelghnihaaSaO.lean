/-
  Sides: whether one is valid, is on the base line, fills its line (SideOk, OnBase, Fills, program and model); the program's alignmentOf and the functions that it hands on. Conditions: none.
-/
import Derived.Test.YtdpibpelghnihaaSaM
import Derived.Test.YtdpibpelghnihaaSaQ
import Derived.Test.YtdpibpelghnihaaLsE
import Derived.Test.YtdpibpelghnihaaFd
import Derived.Deep.RegionWith
import Derived.Deep.QuietTactic
import Derived.BigQuiet
namespace Go.Proofs.Ytdpibpelghnihaa
open Go.ChangeShapes Go.WideShapes Go.ChangeAt Go.RowKit
set_option linter.unusedVariables false
set_option linter.unusedSimpArgs false
set_option maxRecDepth 8000

theorem cell_sa {w w' : World} {p : Addr} {v : Value} (h : w.cell? p = some v) (hb : Below w.heap.size w w') : w'.cell? p = some v := (hb.cell (World.block_lt_of_cell? w _ h)).trans h
/-- Whether a Side is valid. -/
def saOk (x : Sa) : Bool := rnB x.size 0 1048576 && rnB x.base 0 1048576 && rnB x.before (-1048576) 1048576 && rnB x.behind (-1048576) 1048576 && rnB x.al 1 5
/-- Whether a margin is auto; whether it is on the base line; whether it fills its line. -/
def saAu (x : Sa) : Bool := x.ab || x.ah
def saOn (x : Sa) : Bool := decide (x.al = 5) && !(x.ab || x.ah)
def saFi (x : Sa) : Bool := decide (x.al = 1) && !(x.ab || x.ah)
/-- The function that places it. -/
def plF17 (x : Sa) : FuncId := if saAu x = true then 46 else if x.al = 3 then 48 else if x.al = 4 then 49 else if x.al = 5 then 50 else 47
/-- Where it begins. -/
def plA (x : Sa) (free base : Int) : Int := if saAu x = true then (if free ≤ 0 ∨ x.ab = false then x.before else if x.ah = true then wrap64 (x.before + fdI free 2) else wrap64 (x.before + free)) else if x.al = 3 then wrap64 (x.before + free) else if x.al = 4 then wrap64 (x.before + fdI free 2) else if x.al = 5 then wrap64 (base - x.base) else x.before

set_option maxHeartbeats 2000000 in
theorem isaok_raw (s f h l b : Int) (p q : Bool) (w : World) :
    Calls Try.prog 19 #[.agg #[.int .i64 s, .int .i64 f, .int .i64 h, .bool p, .bool q, .int .i64 l, .int .i64 b]] w fun e w' => e = .returned (.bool (rnB s 0 1048576 && rnB b 0 1048576 && rnB f (-1048576) 1048576 && rnB h (-1048576) 1048576 && rnB l 1 5)) ∧ Below w.heap.size w w' := by
  have ks := fun w => ilens_two s b w
  have kf := irng f (-1048576) 1048576
  have kh := irng h (-1048576) 1048576
  have kl := irng l 1 5
  have hdef : (rnB s 0 1048576 && rnB b 0 1048576 && rnB f (-1048576) 1048576 && rnB h (-1048576) 1048576 && rnB l 1 5) = (((rnB s 0 1048576 && rnB b 0 1048576) && rnB f (-1048576) 1048576) && rnB h (-1048576) 1048576 && rnB l 1 5) := rfl
  rw [hdef]
  clear hdef
  generalize (rnB s 0 1048576 && rnB b 0 1048576) = ts at *
  generalize rnB f (-1048576) 1048576 = tf at *
  generalize rnB h (-1048576) 1048576 = th at *
  generalize rnB l 1 5 = tl at *
  have bb := Go.Joins.below_alloc1 w (.cells #[.int .i64 s, .int .i64 f, .int .i64 h, .bool p, .bool q, .int .i64 l, .int .i64 b] 25)
  have h0 := hp_new w (.cells #[.int .i64 s, .int .i64 f, .int .i64 h, .bool p, .bool q, .int .i64 l, .int .i64 b] 25)
  obtain ⟨u, eu⟩ : ∃ u, u = w.alloc (.cells #[.int .i64 s, .int .i64 f, .int .i64 h, .bool p, .bool q, .int .i64 l, .int .i64 b] 25) := ⟨_, rfl⟩
  rw [← eu] at h0 bb
  have EU := Lib.hid eu
  clear eu
  have c0 : u.cell? ⟨w.heap.size, 0, none⟩ = some (.int .i64 s) := Go.Joins.cell_of_block h0 0
  have c1 : u.cell? ⟨w.heap.size, 1, none⟩ = some (.int .i64 f) := Go.Joins.cell_of_block h0 1
  have c2 : u.cell? ⟨w.heap.size, 2, none⟩ = some (.int .i64 h) := Go.Joins.cell_of_block h0 2
  have c3 : u.cell? ⟨w.heap.size, 3, none⟩ = some (.bool p) := Go.Joins.cell_of_block h0 3
  have c4 : u.cell? ⟨w.heap.size, 4, none⟩ = some (.bool q) := Go.Joins.cell_of_block h0 4
  have c5 : u.cell? ⟨w.heap.size, 5, none⟩ = some (.int .i64 l) := Go.Joins.cell_of_block h0 5
  have c6 : u.cell? ⟨w.heap.size, 6, none⟩ = some (.int .i64 b) := Go.Joins.cell_of_block h0 6
  have BB := Lib.hid bb
  clear h0 bb
  cases ts with
  | false =>
    go_enter Try.func19, Try.ntmps19
    go_wp2_with (first | (rw [← EU.out]) | fail)
    refine (ks _).mono ?_
    rintro e w1 ⟨rfl, b1⟩
    have B1 := Lib.hid (BB.out.trans (b1.mono BB.out.size))
    have d1 := cell_sa c1 b1
    have d2 := cell_sa c2 b1
    have d5 := cell_sa c5 b1
    clear c0 c1 c2 c3 c4 c5 c6 b1
    (try dsimp only)
    go_wp2
    go_ret
    exact ⟨by simp, B1.out⟩
  | true =>
    cases tf with
    | false =>
      go_enter Try.func19, Try.ntmps19
      go_wp2_with (first | (rw [← EU.out]) | fail)
      refine (ks _).mono ?_
      rintro e w1 ⟨rfl, b1⟩
      have B1 := Lib.hid (BB.out.trans (b1.mono BB.out.size))
      have d1 := cell_sa c1 b1
      have d2 := cell_sa c2 b1
      have d5 := cell_sa c5 b1
      clear c0 c1 c2 c3 c4 c5 c6 b1
      (try dsimp only)
      go_wp2_with (fail)
      refine (kf _).mono ?_
      rintro e w2 ⟨rfl, rfl⟩
      (try dsimp only)
      go_wp2
      go_ret
      exact ⟨by simp, B1.out⟩
    | true =>
      cases th with
      | false =>
        go_enter Try.func19, Try.ntmps19
        go_wp2_with (first | (rw [← EU.out]) | fail)
        refine (ks _).mono ?_
        rintro e w1 ⟨rfl, b1⟩
        have B1 := Lib.hid (BB.out.trans (b1.mono BB.out.size))
        have d1 := cell_sa c1 b1
        have d2 := cell_sa c2 b1
        have d5 := cell_sa c5 b1
        clear c0 c1 c2 c3 c4 c5 c6 b1
        (try dsimp only)
        go_wp2_with (fail)
        refine (kf _).mono ?_
        rintro e w2 ⟨rfl, rfl⟩
        (try dsimp only)
        go_wp2_with (fail)
        refine (kh _).mono ?_
        rintro e w3 ⟨rfl, rfl⟩
        (try dsimp only)
        go_wp2
        go_ret
        exact ⟨by simp, B1.out⟩
      | true =>
        cases tl with
        | false =>
          go_enter Try.func19, Try.ntmps19
          go_wp2_with (first | (rw [← EU.out]) | fail)
          refine (ks _).mono ?_
          rintro e w1 ⟨rfl, b1⟩
          have B1 := Lib.hid (BB.out.trans (b1.mono BB.out.size))
          have d1 := cell_sa c1 b1
          have d2 := cell_sa c2 b1
          have d5 := cell_sa c5 b1
          clear c0 c1 c2 c3 c4 c5 c6 b1
          (try dsimp only)
          go_wp2_with (fail)
          refine (kf _).mono ?_
          rintro e w2 ⟨rfl, rfl⟩
          (try dsimp only)
          go_wp2_with (fail)
          refine (kh _).mono ?_
          rintro e w3 ⟨rfl, rfl⟩
          (try dsimp only)
          go_wp2_with (fail)
          refine (kl _).mono ?_
          rintro e w4 ⟨rfl, rfl⟩
          (try dsimp only)
          go_wp2
          go_ret
          exact ⟨by simp, B1.out⟩
        | true =>
          go_enter Try.func19, Try.ntmps19
          go_wp2_with (first | (rw [← EU.out]) | fail)
          refine (ks _).mono ?_
          rintro e w1 ⟨rfl, b1⟩
          have B1 := Lib.hid (BB.out.trans (b1.mono BB.out.size))
          have d1 := cell_sa c1 b1
          have d2 := cell_sa c2 b1
          have d5 := cell_sa c5 b1
          clear c0 c1 c2 c3 c4 c5 c6 b1
          (try dsimp only)
          go_wp2_with (fail)
          refine (kf _).mono ?_
          rintro e w2 ⟨rfl, rfl⟩
          (try dsimp only)
          go_wp2_with (fail)
          refine (kh _).mono ?_
          rintro e w3 ⟨rfl, rfl⟩
          (try dsimp only)
          go_wp2_with (fail)
          refine (kl _).mono ?_
          rintro e w4 ⟨rfl, rfl⟩
          (try dsimp only)
          go_wp2
          go_ret
          exact ⟨by simp, B1.out⟩
theorem isaok (x : Sa) (w : World) :
    Calls Try.prog 19 #[.agg #[.int .i64 x.size, .int .i64 x.before, .int .i64 x.behind, .bool x.ab, .bool x.ah, .int .i64 x.al, .int .i64 x.base]] w fun e w' => e = .returned (.bool (saOk x)) ∧ Below w.heap.size w w' := isaok_raw x.size x.before x.behind x.al x.base x.ab x.ah w
set_option maxHeartbeats 2000000 in
theorem ssaok_raw (s f h l b : Int) (p q : Bool) (w : World) :
    Calls Try.prog 20 #[.agg #[.int .i64 s, .int .i64 f, .int .i64 h, .bool p, .bool q, .int .i64 l, .int .i64 b]] w fun e w' => e = .returned (.bool (rnB s 0 1048576 && rnB b 0 1048576 && rnB f (-1048576) 1048576 && rnB h (-1048576) 1048576 && rnB l 1 5)) ∧ Below w.heap.size w w' := by
  have ks := srng s 0 1048576
  have kb := srng b 0 1048576
  have kf := srng f (-1048576) 1048576
  have kh := srng h (-1048576) 1048576
  have kl := srng l 1 5
  generalize rnB s 0 1048576 = ts at *
  generalize rnB b 0 1048576 = tb at *
  generalize rnB f (-1048576) 1048576 = tf at *
  generalize rnB h (-1048576) 1048576 = th at *
  generalize rnB l 1 5 = tl at *
  have bb := Go.Joins.below_alloc1 w (.cells #[.int .i64 s, .int .i64 f, .int .i64 h, .bool p, .bool q, .int .i64 l, .int .i64 b] 25)
  have h0 := hp_new w (.cells #[.int .i64 s, .int .i64 f, .int .i64 h, .bool p, .bool q, .int .i64 l, .int .i64 b] 25)
  obtain ⟨u, eu⟩ : ∃ u, u = w.alloc (.cells #[.int .i64 s, .int .i64 f, .int .i64 h, .bool p, .bool q, .int .i64 l, .int .i64 b] 25) := ⟨_, rfl⟩
  rw [← eu] at h0 bb
  have EU := Lib.hid eu
  clear eu
  have c0 : u.cell? ⟨w.heap.size, 0, none⟩ = some (.int .i64 s) := Go.Joins.cell_of_block h0 0
  have c1 : u.cell? ⟨w.heap.size, 1, none⟩ = some (.int .i64 f) := Go.Joins.cell_of_block h0 1
  have c2 : u.cell? ⟨w.heap.size, 2, none⟩ = some (.int .i64 h) := Go.Joins.cell_of_block h0 2
  have c3 : u.cell? ⟨w.heap.size, 3, none⟩ = some (.bool p) := Go.Joins.cell_of_block h0 3
  have c4 : u.cell? ⟨w.heap.size, 4, none⟩ = some (.bool q) := Go.Joins.cell_of_block h0 4
  have c5 : u.cell? ⟨w.heap.size, 5, none⟩ = some (.int .i64 l) := Go.Joins.cell_of_block h0 5
  have c6 : u.cell? ⟨w.heap.size, 6, none⟩ = some (.int .i64 b) := Go.Joins.cell_of_block h0 6
  have BB := Lib.hid bb
  clear h0 bb
  cases ts with
  | false =>
    go_enter Try.func20, Try.ntmps20
    go_wp2_with (first | (rw [← EU.out]) | fail)
    refine (ks _).mono ?_
    rintro e w1 ⟨rfl, rfl⟩
    (try dsimp only)
    go_wp2
    go_ret
    exact ⟨by simp, BB.out⟩
  | true =>
    cases tb with
    | false =>
      go_enter Try.func20, Try.ntmps20
      go_wp2_with (first | (rw [← EU.out]) | fail)
      refine (ks _).mono ?_
      rintro e w1 ⟨rfl, rfl⟩
      (try dsimp only)
      go_wp2_with (fail)
      refine (kb _).mono ?_
      rintro e w2 ⟨rfl, rfl⟩
      (try dsimp only)
      go_wp2
      go_ret
      exact ⟨by simp, BB.out⟩
    | true =>
      cases tf with
      | false =>
        go_enter Try.func20, Try.ntmps20
        go_wp2_with (first | (rw [← EU.out]) | fail)
        refine (ks _).mono ?_
        rintro e w1 ⟨rfl, rfl⟩
        (try dsimp only)
        go_wp2_with (fail)
        refine (kb _).mono ?_
        rintro e w2 ⟨rfl, rfl⟩
        (try dsimp only)
        go_wp2_with (fail)
        refine (kf _).mono ?_
        rintro e w3 ⟨rfl, rfl⟩
        (try dsimp only)
        go_wp2
        go_ret
        exact ⟨by simp, BB.out⟩
      | true =>
        cases th with
        | false =>
          go_enter Try.func20, Try.ntmps20
          go_wp2_with (first | (rw [← EU.out]) | fail)
          refine (ks _).mono ?_
          rintro e w1 ⟨rfl, rfl⟩
          (try dsimp only)
          go_wp2_with (fail)
          refine (kb _).mono ?_
          rintro e w2 ⟨rfl, rfl⟩
          (try dsimp only)
          go_wp2_with (fail)
          refine (kf _).mono ?_
          rintro e w3 ⟨rfl, rfl⟩
          (try dsimp only)
          go_wp2_with (fail)
          refine (kh _).mono ?_
          rintro e w4 ⟨rfl, rfl⟩
          (try dsimp only)
          go_wp2
          go_ret
          exact ⟨by simp, BB.out⟩
        | true =>
          cases tl with
          | false =>
            go_enter Try.func20, Try.ntmps20
            go_wp2_with (first | (rw [← EU.out]) | fail)
            refine (ks _).mono ?_
            rintro e w1 ⟨rfl, rfl⟩
            (try dsimp only)
            go_wp2_with (fail)
            refine (kb _).mono ?_
            rintro e w2 ⟨rfl, rfl⟩
            (try dsimp only)
            go_wp2_with (fail)
            refine (kf _).mono ?_
            rintro e w3 ⟨rfl, rfl⟩
            (try dsimp only)
            go_wp2_with (fail)
            refine (kh _).mono ?_
            rintro e w4 ⟨rfl, rfl⟩
            (try dsimp only)
            go_wp2_with (fail)
            refine (kl _).mono ?_
            rintro e w5 ⟨rfl, rfl⟩
            (try dsimp only)
            go_wp2
            go_ret
            exact ⟨by simp, BB.out⟩
          | true =>
            go_enter Try.func20, Try.ntmps20
            go_wp2_with (first | (rw [← EU.out]) | fail)
            refine (ks _).mono ?_
            rintro e w1 ⟨rfl, rfl⟩
            (try dsimp only)
            go_wp2_with (fail)
            refine (kb _).mono ?_
            rintro e w2 ⟨rfl, rfl⟩
            (try dsimp only)
            go_wp2_with (fail)
            refine (kf _).mono ?_
            rintro e w3 ⟨rfl, rfl⟩
            (try dsimp only)
            go_wp2_with (fail)
            refine (kh _).mono ?_
            rintro e w4 ⟨rfl, rfl⟩
            (try dsimp only)
            go_wp2_with (fail)
            refine (kl _).mono ?_
            rintro e w5 ⟨rfl, rfl⟩
            (try dsimp only)
            go_wp2
            go_ret
            exact ⟨by simp, BB.out⟩
theorem ssaok (x : Sa) (w : World) :
    Calls Try.prog 20 #[.agg #[.int .i64 x.size, .int .i64 x.before, .int .i64 x.behind, .bool x.ab, .bool x.ah, .int .i64 x.al, .int .i64 x.base]] w fun e w' => e = .returned (.bool (saOk x)) ∧ Below w.heap.size w w' := ssaok_raw x.size x.before x.behind x.al x.base x.ab x.ah w
theorem sauto17_raw (s f h l b : Int) (p q : Bool) (w : World) :
    Calls Try.prog 36 #[.agg #[.int .i64 s, .int .i64 f, .int .i64 h, .bool p, .bool q, .int .i64 l, .int .i64 b]] w fun e w' => e = .returned (.bool (p || q)) ∧ Below w.heap.size w w' := by
  have bb := Go.Joins.below_alloc1 w (.cells #[.int .i64 s, .int .i64 f, .int .i64 h, .bool p, .bool q, .int .i64 l, .int .i64 b] 25)
  have h0 := hp_new w (.cells #[.int .i64 s, .int .i64 f, .int .i64 h, .bool p, .bool q, .int .i64 l, .int .i64 b] 25)
  obtain ⟨u, eu⟩ : ∃ u, u = w.alloc (.cells #[.int .i64 s, .int .i64 f, .int .i64 h, .bool p, .bool q, .int .i64 l, .int .i64 b] 25) := ⟨_, rfl⟩
  rw [← eu] at h0 bb
  have EU := Lib.hid eu
  clear eu
  have c0 : u.cell? ⟨w.heap.size, 0, none⟩ = some (.int .i64 s) := Go.Joins.cell_of_block h0 0
  have c1 : u.cell? ⟨w.heap.size, 1, none⟩ = some (.int .i64 f) := Go.Joins.cell_of_block h0 1
  have c2 : u.cell? ⟨w.heap.size, 2, none⟩ = some (.int .i64 h) := Go.Joins.cell_of_block h0 2
  have c3 : u.cell? ⟨w.heap.size, 3, none⟩ = some (.bool p) := Go.Joins.cell_of_block h0 3
  have c4 : u.cell? ⟨w.heap.size, 4, none⟩ = some (.bool q) := Go.Joins.cell_of_block h0 4
  have c5 : u.cell? ⟨w.heap.size, 5, none⟩ = some (.int .i64 l) := Go.Joins.cell_of_block h0 5
  have c6 : u.cell? ⟨w.heap.size, 6, none⟩ = some (.int .i64 b) := Go.Joins.cell_of_block h0 6
  have RG := Lib.hid (range_block h0 : u.rangeAt w.heap.size 0 (⟨s, f, h, p, q, l, b⟩ : Sa).L)
  have BB := Lib.hid bb
  clear h0 bb
  cases p <;> cases q <;>
  (go_enter Try.func36, Try.ntmps36
   go_wp2_with (first | (rw [← EU.out]) | fail)
   go_ret
   exact ⟨rfl, BB.out⟩)
theorem sauto17 (x : Sa) (w : World) :
    Calls Try.prog 36 #[.agg #[.int .i64 x.size, .int .i64 x.before, .int .i64 x.behind, .bool x.ab, .bool x.ah, .int .i64 x.al, .int .i64 x.base]] w fun e w' => e = .returned (.bool (saAu x)) ∧ Below w.heap.size w w' := sauto17_raw x.size x.before x.behind x.al x.base x.ab x.ah w
set_option maxHeartbeats 1000000 in
theorem sson_raw (s f h l b : Int) (p q : Bool) (w : World) :
    Calls Try.prog 22 #[.agg #[.int .i64 s, .int .i64 f, .int .i64 h, .bool p, .bool q, .int .i64 l, .int .i64 b]] w fun e w' => e = .returned (.bool (decide (l = 5) && !(p || q))) ∧ Below w.heap.size w w' := by
  by_cases hk : l = 5
  · subst hk
    have KA := fun w => sauto17_raw s f h 5 b p q w
    have bb := Go.Joins.below_alloc1 w (.cells #[.int .i64 s, .int .i64 f, .int .i64 h, .bool p, .bool q, .int .i64 5, .int .i64 b] 25)
    have h0 := hp_new w (.cells #[.int .i64 s, .int .i64 f, .int .i64 h, .bool p, .bool q, .int .i64 5, .int .i64 b] 25)
    obtain ⟨u, eu⟩ : ∃ u, u = w.alloc (.cells #[.int .i64 s, .int .i64 f, .int .i64 h, .bool p, .bool q, .int .i64 5, .int .i64 b] 25) := ⟨_, rfl⟩
    rw [← eu] at h0 bb
    have EU := Lib.hid eu
    clear eu
    have c0 : u.cell? ⟨w.heap.size, 0, none⟩ = some (.int .i64 s) := Go.Joins.cell_of_block h0 0
    have c1 : u.cell? ⟨w.heap.size, 1, none⟩ = some (.int .i64 f) := Go.Joins.cell_of_block h0 1
    have c2 : u.cell? ⟨w.heap.size, 2, none⟩ = some (.int .i64 h) := Go.Joins.cell_of_block h0 2
    have c3 : u.cell? ⟨w.heap.size, 3, none⟩ = some (.bool p) := Go.Joins.cell_of_block h0 3
    have c4 : u.cell? ⟨w.heap.size, 4, none⟩ = some (.bool q) := Go.Joins.cell_of_block h0 4
    have c5 : u.cell? ⟨w.heap.size, 5, none⟩ = some (.int .i64 5) := Go.Joins.cell_of_block h0 5
    have c6 : u.cell? ⟨w.heap.size, 6, none⟩ = some (.int .i64 b) := Go.Joins.cell_of_block h0 6
    have RG := Lib.hid (range_block h0 : u.rangeAt w.heap.size 0 (⟨s, f, h, p, q, 5, b⟩ : Sa).L)
    have BB := Lib.hid bb
    clear h0 bb
    generalize (p || q) = t at *
    go_enter Try.func22, Try.ntmps22
    go_wp2_with (first | (rw [← EU.out]) | ((with_reducible apply list_load_gsa (x := (⟨s, f, h, p, q, 5, b⟩ : Sa))); exact rfl; exact rfl; exact rfl; (with_reducible exact RG.out); simp only [Act.put, List.setIfInBounds_toArray, List.set_cons_succ, List.set_cons_zero]) | fail)
    refine (KA _).mono ?_
    rintro e w1 ⟨rfl, b1⟩
    have B1 := Lib.hid (BB.out.trans (b1.mono BB.out.size))
    (try dsimp only)
    go_wp2
    go_ret
    exact ⟨by simp, B1.out⟩
  · have hk2 : (l == 5) = false := by simp [hk]
    have bb := Go.Joins.below_alloc1 w (.cells #[.int .i64 s, .int .i64 f, .int .i64 h, .bool p, .bool q, .int .i64 l, .int .i64 b] 25)
    have h0 := hp_new w (.cells #[.int .i64 s, .int .i64 f, .int .i64 h, .bool p, .bool q, .int .i64 l, .int .i64 b] 25)
    obtain ⟨u, eu⟩ : ∃ u, u = w.alloc (.cells #[.int .i64 s, .int .i64 f, .int .i64 h, .bool p, .bool q, .int .i64 l, .int .i64 b] 25) := ⟨_, rfl⟩
    rw [← eu] at h0 bb
    have EU := Lib.hid eu
    clear eu
    have c0 : u.cell? ⟨w.heap.size, 0, none⟩ = some (.int .i64 s) := Go.Joins.cell_of_block h0 0
    have c1 : u.cell? ⟨w.heap.size, 1, none⟩ = some (.int .i64 f) := Go.Joins.cell_of_block h0 1
    have c2 : u.cell? ⟨w.heap.size, 2, none⟩ = some (.int .i64 h) := Go.Joins.cell_of_block h0 2
    have c3 : u.cell? ⟨w.heap.size, 3, none⟩ = some (.bool p) := Go.Joins.cell_of_block h0 3
    have c4 : u.cell? ⟨w.heap.size, 4, none⟩ = some (.bool q) := Go.Joins.cell_of_block h0 4
    have c5 : u.cell? ⟨w.heap.size, 5, none⟩ = some (.int .i64 l) := Go.Joins.cell_of_block h0 5
    have c6 : u.cell? ⟨w.heap.size, 6, none⟩ = some (.int .i64 b) := Go.Joins.cell_of_block h0 6
    have RG := Lib.hid (range_block h0 : u.rangeAt w.heap.size 0 (⟨s, f, h, p, q, l, b⟩ : Sa).L)
    have BB := Lib.hid bb
    clear h0 bb
    go_enter Try.func22, Try.ntmps22
    go_wp2_with (first | (rw [← EU.out]) | fail)
    go_ret
    exact ⟨by simp [hk], BB.out⟩
theorem sson (x : Sa) (w : World) :
    Calls Try.prog 22 #[.agg #[.int .i64 x.size, .int .i64 x.before, .int .i64 x.behind, .bool x.ab, .bool x.ah, .int .i64 x.al, .int .i64 x.base]] w fun e w' => e = .returned (.bool (saOn x)) ∧ Below w.heap.size w w' := sson_raw x.size x.before x.behind x.al x.base x.ab x.ah w
set_option maxHeartbeats 1000000 in
theorem ssfi_raw (s f h l b : Int) (p q : Bool) (w : World) :
    Calls Try.prog 24 #[.agg #[.int .i64 s, .int .i64 f, .int .i64 h, .bool p, .bool q, .int .i64 l, .int .i64 b]] w fun e w' => e = .returned (.bool (decide (l = 1) && !(p || q))) ∧ Below w.heap.size w w' := by
  by_cases hk : l = 1
  · subst hk
    have KA := fun w => sauto17_raw s f h 1 b p q w
    have bb := Go.Joins.below_alloc1 w (.cells #[.int .i64 s, .int .i64 f, .int .i64 h, .bool p, .bool q, .int .i64 1, .int .i64 b] 25)
    have h0 := hp_new w (.cells #[.int .i64 s, .int .i64 f, .int .i64 h, .bool p, .bool q, .int .i64 1, .int .i64 b] 25)
    obtain ⟨u, eu⟩ : ∃ u, u = w.alloc (.cells #[.int .i64 s, .int .i64 f, .int .i64 h, .bool p, .bool q, .int .i64 1, .int .i64 b] 25) := ⟨_, rfl⟩
    rw [← eu] at h0 bb
    have EU := Lib.hid eu
    clear eu
    have c0 : u.cell? ⟨w.heap.size, 0, none⟩ = some (.int .i64 s) := Go.Joins.cell_of_block h0 0
    have c1 : u.cell? ⟨w.heap.size, 1, none⟩ = some (.int .i64 f) := Go.Joins.cell_of_block h0 1
    have c2 : u.cell? ⟨w.heap.size, 2, none⟩ = some (.int .i64 h) := Go.Joins.cell_of_block h0 2
    have c3 : u.cell? ⟨w.heap.size, 3, none⟩ = some (.bool p) := Go.Joins.cell_of_block h0 3
    have c4 : u.cell? ⟨w.heap.size, 4, none⟩ = some (.bool q) := Go.Joins.cell_of_block h0 4
    have c5 : u.cell? ⟨w.heap.size, 5, none⟩ = some (.int .i64 1) := Go.Joins.cell_of_block h0 5
    have c6 : u.cell? ⟨w.heap.size, 6, none⟩ = some (.int .i64 b) := Go.Joins.cell_of_block h0 6
    have RG := Lib.hid (range_block h0 : u.rangeAt w.heap.size 0 (⟨s, f, h, p, q, 1, b⟩ : Sa).L)
    have BB := Lib.hid bb
    clear h0 bb
    generalize (p || q) = t at *
    go_enter Try.func24, Try.ntmps24
    go_wp2_with (first | (rw [← EU.out]) | ((with_reducible apply list_load_gsa (x := (⟨s, f, h, p, q, 1, b⟩ : Sa))); exact rfl; exact rfl; exact rfl; (with_reducible exact RG.out); simp only [Act.put, List.setIfInBounds_toArray, List.set_cons_succ, List.set_cons_zero]) | fail)
    refine (KA _).mono ?_
    rintro e w1 ⟨rfl, b1⟩
    have B1 := Lib.hid (BB.out.trans (b1.mono BB.out.size))
    (try dsimp only)
    go_wp2
    go_ret
    exact ⟨by simp, B1.out⟩
  · have hk2 : (l == 1) = false := by simp [hk]
    have bb := Go.Joins.below_alloc1 w (.cells #[.int .i64 s, .int .i64 f, .int .i64 h, .bool p, .bool q, .int .i64 l, .int .i64 b] 25)
    have h0 := hp_new w (.cells #[.int .i64 s, .int .i64 f, .int .i64 h, .bool p, .bool q, .int .i64 l, .int .i64 b] 25)
    obtain ⟨u, eu⟩ : ∃ u, u = w.alloc (.cells #[.int .i64 s, .int .i64 f, .int .i64 h, .bool p, .bool q, .int .i64 l, .int .i64 b] 25) := ⟨_, rfl⟩
    rw [← eu] at h0 bb
    have EU := Lib.hid eu
    clear eu
    have c0 : u.cell? ⟨w.heap.size, 0, none⟩ = some (.int .i64 s) := Go.Joins.cell_of_block h0 0
    have c1 : u.cell? ⟨w.heap.size, 1, none⟩ = some (.int .i64 f) := Go.Joins.cell_of_block h0 1
    have c2 : u.cell? ⟨w.heap.size, 2, none⟩ = some (.int .i64 h) := Go.Joins.cell_of_block h0 2
    have c3 : u.cell? ⟨w.heap.size, 3, none⟩ = some (.bool p) := Go.Joins.cell_of_block h0 3
    have c4 : u.cell? ⟨w.heap.size, 4, none⟩ = some (.bool q) := Go.Joins.cell_of_block h0 4
    have c5 : u.cell? ⟨w.heap.size, 5, none⟩ = some (.int .i64 l) := Go.Joins.cell_of_block h0 5
    have c6 : u.cell? ⟨w.heap.size, 6, none⟩ = some (.int .i64 b) := Go.Joins.cell_of_block h0 6
    have RG := Lib.hid (range_block h0 : u.rangeAt w.heap.size 0 (⟨s, f, h, p, q, l, b⟩ : Sa).L)
    have BB := Lib.hid bb
    clear h0 bb
    go_enter Try.func24, Try.ntmps24
    go_wp2_with (first | (rw [← EU.out]) | fail)
    go_ret
    exact ⟨by simp [hk], BB.out⟩
theorem ssfi (x : Sa) (w : World) :
    Calls Try.prog 24 #[.agg #[.int .i64 x.size, .int .i64 x.before, .int .i64 x.behind, .bool x.ab, .bool x.ah, .int .i64 x.al, .int .i64 x.base]] w fun e w' => e = .returned (.bool (saFi x)) ∧ Below w.heap.size w w' := ssfi_raw x.size x.before x.behind x.al x.base x.ab x.ah w
theorem al_under : Try.prog.underlying 48 = some (.struct (Try.prog.fieldsOf 48)) := by kernel_rfl
theorem results_al {fn : Func} {p : Tmp} (h : fn.results = #[.cell p 48]) {tmps : Array Value} {w : World} {g : Nat} {t : TypeId} {x y z : Value} (hp : tmps.getD p undef = .pointer (some ⟨g, 0, none⟩)) (hg : w.heap[g]? = some (.cells #[x, y, z] t)) :
    (results fn tmps).run Try.prog w = .ok (.agg #[x, y, z]) w := results_cell_row h tmps w g t _ _ _ hp hg al_under rfl (by kernel_rfl)
theorem al_end {u : World} {g : Nat} {t : TypeId} {x y z a b c : Value} (h : u.heap[g]? = some (.cells #[a, b, c] t)) : (u.setCells g 0 [x, y, z]).heap[g]? = some (.cells #[x, y, z] t) := by
  have := hp_puts [x, y, z] 0 _ _ h
  rw [putA_all #[a, b, c] [x, y, z] rfl] at this
  exact this
theorem list_store_al {ops : Array Oper} {rest : List Oper} {op : Oper} {a : Act} {w : World} {Q : Exit → Act → World → Prop} {g : Nat} {x y : Bool} {f : FuncId} (hgd : op.guard = none) (p q : Operand) (ho : op.op = .store 48 p q) (hx : a.eval p = .pointer (some ⟨g, 0, none⟩)) (hy : a.eval q = .agg #[.bool x, .bool y, .func (.func f) #[] #[]]) (ht : w.there g 0 3)
    (h : wpList Try.prog ops Q rest (a.put op.dst undef) (w.setCells g 0 [.bool x, .bool y, .func (.func f) #[] #[]])) : wpList Try.prog ops Q (op :: rest) a w :=
  wpList_store_mid hgd _ p q ho g 0 #[.bool x, .bool y, .func (.func f) #[] #[]] hx hy ht (by kernel_rfl) (by simp [Value.oneCell']) h

set_option maxHeartbeats 1000000 in
theorem ialignment_raw (s f h l b : Int) (p q : Bool) (w : World) :
    Calls Try.prog 32 #[.agg #[.int .i64 s, .int .i64 f, .int .i64 h, .bool p, .bool q, .int .i64 l, .int .i64 b]] w fun e w' => e = .returned (.agg #[.bool (decide (l = 5) && !(p || q)), .bool (decide (l = 1) && !(p || q)), .func (.func (if (p || q) = true then 46 else if l = 3 then 48 else if l = 4 then 49 else if l = 5 then 50 else 47 : FuncId)) #[] #[]]) ∧ Below w.heap.size w w' := by
  cases p
  · cases q
    · by_cases h1 : l = 1
      · subst h1
        have bb := Go.Joins.below_alloc1 w (.cells #[.int .i64 s, .int .i64 f, .int .i64 h, .bool false, .bool false, .int .i64 1, .int .i64 b] 25)
        have h0 := hp_new w (.cells #[.int .i64 s, .int .i64 f, .int .i64 h, .bool false, .bool false, .int .i64 1, .int .i64 b] 25)
        obtain ⟨u, eu⟩ : ∃ u, u = w.alloc (.cells #[.int .i64 s, .int .i64 f, .int .i64 h, .bool false, .bool false, .int .i64 1, .int .i64 b] 25) := ⟨_, rfl⟩
        have hs : w.heap.size < u.heap.size := by rw [eu]; simp
        rw [← eu] at h0 bb
        have EU := Lib.hid eu
        clear eu
        have h2 := hp_new u (.cells #[.bool false, .bool false, .nilFunc] 48)
        have h1 := hp_on h0 (.cells #[.bool false, .bool false, .nilFunc] 48)
        have bn := fun (vs : List Value) => bel_cellsA (g := u.heap.size) (by omega) vs 0 _ (bb.alloc (by omega) (.cells #[.bool false, .bool false, .nilFunc] 48))
        obtain ⟨v, ev⟩ : ∃ v, v = u.alloc (.cells #[.bool false, .bool false, .nilFunc] 48) := ⟨_, rfl⟩
        rw [← ev] at h1 h2
        simp only [← ev] at bn
        have BN := Lib.hid bn
        have EV := Lib.hid ev
        have T2 := Lib.hid (there_block h2 0 3 (by decide))
        have EN := Lib.hid (fun x y z => al_end (x := x) (y := y) (z := z) h2)
        have c3 : v.cell? ⟨w.heap.size, 3, none⟩ = some (.bool false) := Go.Joins.cell_of_block h1 3
        have c4 : v.cell? ⟨w.heap.size, 4, none⟩ = some (.bool false) := Go.Joins.cell_of_block h1 4
        have c5 : v.cell? ⟨w.heap.size, 5, none⟩ = some (.int .i64 1) := Go.Joins.cell_of_block h1 5
        clear h0 h1 h2 hs bb bn ev
        go_enter Try.func32, Try.ntmps32
        go_wp2_with (first | (rw [← EU.out]) | (rw [← EV.out]) | ((with_reducible apply list_store_al); exact rfl; exact rfl; exact rfl; exact rfl; (with_reducible exact T2.out); simp only [Act.put, List.setIfInBounds_toArray, List.set_cons_succ, List.set_cons_zero]) | fail)
        exact bodyPost_ret (results_al rfl rfl (EN.out _ _ _)) rfl ⟨by simp, BN.out _⟩
      by_cases h3 : l = 3
      · subst h3
        have bb := Go.Joins.below_alloc1 w (.cells #[.int .i64 s, .int .i64 f, .int .i64 h, .bool false, .bool false, .int .i64 3, .int .i64 b] 25)
        have h0 := hp_new w (.cells #[.int .i64 s, .int .i64 f, .int .i64 h, .bool false, .bool false, .int .i64 3, .int .i64 b] 25)
        obtain ⟨u, eu⟩ : ∃ u, u = w.alloc (.cells #[.int .i64 s, .int .i64 f, .int .i64 h, .bool false, .bool false, .int .i64 3, .int .i64 b] 25) := ⟨_, rfl⟩
        have hs : w.heap.size < u.heap.size := by rw [eu]; simp
        rw [← eu] at h0 bb
        have EU := Lib.hid eu
        clear eu
        have h2 := hp_new u (.cells #[.bool false, .bool false, .nilFunc] 48)
        have h1 := hp_on h0 (.cells #[.bool false, .bool false, .nilFunc] 48)
        have bn := fun (vs : List Value) => bel_cellsA (g := u.heap.size) (by omega) vs 0 _ (bb.alloc (by omega) (.cells #[.bool false, .bool false, .nilFunc] 48))
        obtain ⟨v, ev⟩ : ∃ v, v = u.alloc (.cells #[.bool false, .bool false, .nilFunc] 48) := ⟨_, rfl⟩
        rw [← ev] at h1 h2
        simp only [← ev] at bn
        have BN := Lib.hid bn
        have EV := Lib.hid ev
        have T2 := Lib.hid (there_block h2 0 3 (by decide))
        have EN := Lib.hid (fun x y z => al_end (x := x) (y := y) (z := z) h2)
        have c3 : v.cell? ⟨w.heap.size, 3, none⟩ = some (.bool false) := Go.Joins.cell_of_block h1 3
        have c4 : v.cell? ⟨w.heap.size, 4, none⟩ = some (.bool false) := Go.Joins.cell_of_block h1 4
        have c5 : v.cell? ⟨w.heap.size, 5, none⟩ = some (.int .i64 3) := Go.Joins.cell_of_block h1 5
        clear h0 h1 h2 hs bb bn ev
        go_enter Try.func32, Try.ntmps32
        go_wp2_with (first | (rw [← EU.out]) | (rw [← EV.out]) | ((with_reducible apply list_store_al); exact rfl; exact rfl; exact rfl; exact rfl; (with_reducible exact T2.out); simp only [Act.put, List.setIfInBounds_toArray, List.set_cons_succ, List.set_cons_zero]) | fail)
        exact bodyPost_ret (results_al rfl rfl (EN.out _ _ _)) rfl ⟨by simp, BN.out _⟩
      by_cases h4 : l = 4
      · subst h4
        have bb := Go.Joins.below_alloc1 w (.cells #[.int .i64 s, .int .i64 f, .int .i64 h, .bool false, .bool false, .int .i64 4, .int .i64 b] 25)
        have h0 := hp_new w (.cells #[.int .i64 s, .int .i64 f, .int .i64 h, .bool false, .bool false, .int .i64 4, .int .i64 b] 25)
        obtain ⟨u, eu⟩ : ∃ u, u = w.alloc (.cells #[.int .i64 s, .int .i64 f, .int .i64 h, .bool false, .bool false, .int .i64 4, .int .i64 b] 25) := ⟨_, rfl⟩
        have hs : w.heap.size < u.heap.size := by rw [eu]; simp
        rw [← eu] at h0 bb
        have EU := Lib.hid eu
        clear eu
        have h2 := hp_new u (.cells #[.bool false, .bool false, .nilFunc] 48)
        have h1 := hp_on h0 (.cells #[.bool false, .bool false, .nilFunc] 48)
        have bn := fun (vs : List Value) => bel_cellsA (g := u.heap.size) (by omega) vs 0 _ (bb.alloc (by omega) (.cells #[.bool false, .bool false, .nilFunc] 48))
        obtain ⟨v, ev⟩ : ∃ v, v = u.alloc (.cells #[.bool false, .bool false, .nilFunc] 48) := ⟨_, rfl⟩
        rw [← ev] at h1 h2
        simp only [← ev] at bn
        have BN := Lib.hid bn
        have EV := Lib.hid ev
        have T2 := Lib.hid (there_block h2 0 3 (by decide))
        have EN := Lib.hid (fun x y z => al_end (x := x) (y := y) (z := z) h2)
        have c3 : v.cell? ⟨w.heap.size, 3, none⟩ = some (.bool false) := Go.Joins.cell_of_block h1 3
        have c4 : v.cell? ⟨w.heap.size, 4, none⟩ = some (.bool false) := Go.Joins.cell_of_block h1 4
        have c5 : v.cell? ⟨w.heap.size, 5, none⟩ = some (.int .i64 4) := Go.Joins.cell_of_block h1 5
        clear h0 h1 h2 hs bb bn ev
        go_enter Try.func32, Try.ntmps32
        go_wp2_with (first | (rw [← EU.out]) | (rw [← EV.out]) | ((with_reducible apply list_store_al); exact rfl; exact rfl; exact rfl; exact rfl; (with_reducible exact T2.out); simp only [Act.put, List.setIfInBounds_toArray, List.set_cons_succ, List.set_cons_zero]) | fail)
        exact bodyPost_ret (results_al rfl rfl (EN.out _ _ _)) rfl ⟨by simp, BN.out _⟩
      by_cases h5 : l = 5
      · subst h5
        have bb := Go.Joins.below_alloc1 w (.cells #[.int .i64 s, .int .i64 f, .int .i64 h, .bool false, .bool false, .int .i64 5, .int .i64 b] 25)
        have h0 := hp_new w (.cells #[.int .i64 s, .int .i64 f, .int .i64 h, .bool false, .bool false, .int .i64 5, .int .i64 b] 25)
        obtain ⟨u, eu⟩ : ∃ u, u = w.alloc (.cells #[.int .i64 s, .int .i64 f, .int .i64 h, .bool false, .bool false, .int .i64 5, .int .i64 b] 25) := ⟨_, rfl⟩
        have hs : w.heap.size < u.heap.size := by rw [eu]; simp
        rw [← eu] at h0 bb
        have EU := Lib.hid eu
        clear eu
        have h2 := hp_new u (.cells #[.bool false, .bool false, .nilFunc] 48)
        have h1 := hp_on h0 (.cells #[.bool false, .bool false, .nilFunc] 48)
        have bn := fun (vs : List Value) => bel_cellsA (g := u.heap.size) (by omega) vs 0 _ (bb.alloc (by omega) (.cells #[.bool false, .bool false, .nilFunc] 48))
        obtain ⟨v, ev⟩ : ∃ v, v = u.alloc (.cells #[.bool false, .bool false, .nilFunc] 48) := ⟨_, rfl⟩
        rw [← ev] at h1 h2
        simp only [← ev] at bn
        have BN := Lib.hid bn
        have EV := Lib.hid ev
        have T2 := Lib.hid (there_block h2 0 3 (by decide))
        have EN := Lib.hid (fun x y z => al_end (x := x) (y := y) (z := z) h2)
        have c3 : v.cell? ⟨w.heap.size, 3, none⟩ = some (.bool false) := Go.Joins.cell_of_block h1 3
        have c4 : v.cell? ⟨w.heap.size, 4, none⟩ = some (.bool false) := Go.Joins.cell_of_block h1 4
        have c5 : v.cell? ⟨w.heap.size, 5, none⟩ = some (.int .i64 5) := Go.Joins.cell_of_block h1 5
        clear h0 h1 h2 hs bb bn ev
        go_enter Try.func32, Try.ntmps32
        go_wp2_with (first | (rw [← EU.out]) | (rw [← EV.out]) | ((with_reducible apply list_store_al); exact rfl; exact rfl; exact rfl; exact rfl; (with_reducible exact T2.out); simp only [Act.put, List.setIfInBounds_toArray, List.set_cons_succ, List.set_cons_zero]) | fail)
        exact bodyPost_ret (results_al rfl rfl (EN.out _ _ _)) rfl ⟨by simp, BN.out _⟩
      have n1 : (l == 1) = false := by simp [h1]
      have n3 : (l == 3) = false := by simp [h3]
      have n4 : (l == 4) = false := by simp [h4]
      have n5 : (l == 5) = false := by simp [h5]
      have bb := Go.Joins.below_alloc1 w (.cells #[.int .i64 s, .int .i64 f, .int .i64 h, .bool false, .bool false, .int .i64 l, .int .i64 b] 25)
      have h0 := hp_new w (.cells #[.int .i64 s, .int .i64 f, .int .i64 h, .bool false, .bool false, .int .i64 l, .int .i64 b] 25)
      obtain ⟨u, eu⟩ : ∃ u, u = w.alloc (.cells #[.int .i64 s, .int .i64 f, .int .i64 h, .bool false, .bool false, .int .i64 l, .int .i64 b] 25) := ⟨_, rfl⟩
      have hs : w.heap.size < u.heap.size := by rw [eu]; simp
      rw [← eu] at h0 bb
      have EU := Lib.hid eu
      clear eu
      have h2 := hp_new u (.cells #[.bool false, .bool false, .nilFunc] 48)
      have h1 := hp_on h0 (.cells #[.bool false, .bool false, .nilFunc] 48)
      have bn := fun (vs : List Value) => bel_cellsA (g := u.heap.size) (by omega) vs 0 _ (bb.alloc (by omega) (.cells #[.bool false, .bool false, .nilFunc] 48))
      obtain ⟨v, ev⟩ : ∃ v, v = u.alloc (.cells #[.bool false, .bool false, .nilFunc] 48) := ⟨_, rfl⟩
      rw [← ev] at h1 h2
      simp only [← ev] at bn
      have BN := Lib.hid bn
      have EV := Lib.hid ev
      have T2 := Lib.hid (there_block h2 0 3 (by decide))
      have EN := Lib.hid (fun x y z => al_end (x := x) (y := y) (z := z) h2)
      have c3 : v.cell? ⟨w.heap.size, 3, none⟩ = some (.bool false) := Go.Joins.cell_of_block h1 3
      have c4 : v.cell? ⟨w.heap.size, 4, none⟩ = some (.bool false) := Go.Joins.cell_of_block h1 4
      have c5 : v.cell? ⟨w.heap.size, 5, none⟩ = some (.int .i64 l) := Go.Joins.cell_of_block h1 5
      clear h0 h1 h2 hs bb bn ev
      go_enter Try.func32, Try.ntmps32
      go_wp2_with (first | (rw [← EU.out]) | (rw [← EV.out]) | ((with_reducible apply list_store_al); exact rfl; exact rfl; exact rfl; exact rfl; (with_reducible exact T2.out); simp only [Act.put, List.setIfInBounds_toArray, List.set_cons_succ, List.set_cons_zero]) | fail)
      exact bodyPost_ret (results_al rfl rfl (EN.out _ _ _)) rfl ⟨by simp [h1, h3, h4, h5], BN.out _⟩
    · have bb := Go.Joins.below_alloc1 w (.cells #[.int .i64 s, .int .i64 f, .int .i64 h, .bool false, .bool true, .int .i64 l, .int .i64 b] 25)
      have h0 := hp_new w (.cells #[.int .i64 s, .int .i64 f, .int .i64 h, .bool false, .bool true, .int .i64 l, .int .i64 b] 25)
      obtain ⟨u, eu⟩ : ∃ u, u = w.alloc (.cells #[.int .i64 s, .int .i64 f, .int .i64 h, .bool false, .bool true, .int .i64 l, .int .i64 b] 25) := ⟨_, rfl⟩
      have hs : w.heap.size < u.heap.size := by rw [eu]; simp
      rw [← eu] at h0 bb
      have EU := Lib.hid eu
      clear eu
      have h2 := hp_new u (.cells #[.bool false, .bool false, .nilFunc] 48)
      have h1 := hp_on h0 (.cells #[.bool false, .bool false, .nilFunc] 48)
      have bn := fun (vs : List Value) => bel_cellsA (g := u.heap.size) (by omega) vs 0 _ (bb.alloc (by omega) (.cells #[.bool false, .bool false, .nilFunc] 48))
      obtain ⟨v, ev⟩ : ∃ v, v = u.alloc (.cells #[.bool false, .bool false, .nilFunc] 48) := ⟨_, rfl⟩
      rw [← ev] at h1 h2
      simp only [← ev] at bn
      have BN := Lib.hid bn
      have EV := Lib.hid ev
      have T2 := Lib.hid (there_block h2 0 3 (by decide))
      have EN := Lib.hid (fun x y z => al_end (x := x) (y := y) (z := z) h2)
      have c3 : v.cell? ⟨w.heap.size, 3, none⟩ = some (.bool false) := Go.Joins.cell_of_block h1 3
      have c4 : v.cell? ⟨w.heap.size, 4, none⟩ = some (.bool true) := Go.Joins.cell_of_block h1 4
      have c5 : v.cell? ⟨w.heap.size, 5, none⟩ = some (.int .i64 l) := Go.Joins.cell_of_block h1 5
      clear h0 h1 h2 hs bb bn ev
      go_enter Try.func32, Try.ntmps32
      go_wp2_with (first | (rw [← EU.out]) | (rw [← EV.out]) | ((with_reducible apply list_store_al); exact rfl; exact rfl; exact rfl; exact rfl; (with_reducible exact T2.out); simp only [Act.put, List.setIfInBounds_toArray, List.set_cons_succ, List.set_cons_zero]) | fail)
      exact bodyPost_ret (results_al rfl rfl (EN.out _ _ _)) rfl ⟨by simp, BN.out _⟩
  · cases q
    · have bb := Go.Joins.below_alloc1 w (.cells #[.int .i64 s, .int .i64 f, .int .i64 h, .bool true, .bool false, .int .i64 l, .int .i64 b] 25)
      have h0 := hp_new w (.cells #[.int .i64 s, .int .i64 f, .int .i64 h, .bool true, .bool false, .int .i64 l, .int .i64 b] 25)
      obtain ⟨u, eu⟩ : ∃ u, u = w.alloc (.cells #[.int .i64 s, .int .i64 f, .int .i64 h, .bool true, .bool false, .int .i64 l, .int .i64 b] 25) := ⟨_, rfl⟩
      have hs : w.heap.size < u.heap.size := by rw [eu]; simp
      rw [← eu] at h0 bb
      have EU := Lib.hid eu
      clear eu
      have h2 := hp_new u (.cells #[.bool false, .bool false, .nilFunc] 48)
      have h1 := hp_on h0 (.cells #[.bool false, .bool false, .nilFunc] 48)
      have bn := fun (vs : List Value) => bel_cellsA (g := u.heap.size) (by omega) vs 0 _ (bb.alloc (by omega) (.cells #[.bool false, .bool false, .nilFunc] 48))
      obtain ⟨v, ev⟩ : ∃ v, v = u.alloc (.cells #[.bool false, .bool false, .nilFunc] 48) := ⟨_, rfl⟩
      rw [← ev] at h1 h2
      simp only [← ev] at bn
      have BN := Lib.hid bn
      have EV := Lib.hid ev
      have T2 := Lib.hid (there_block h2 0 3 (by decide))
      have EN := Lib.hid (fun x y z => al_end (x := x) (y := y) (z := z) h2)
      have c3 : v.cell? ⟨w.heap.size, 3, none⟩ = some (.bool true) := Go.Joins.cell_of_block h1 3
      have c4 : v.cell? ⟨w.heap.size, 4, none⟩ = some (.bool false) := Go.Joins.cell_of_block h1 4
      have c5 : v.cell? ⟨w.heap.size, 5, none⟩ = some (.int .i64 l) := Go.Joins.cell_of_block h1 5
      clear h0 h1 h2 hs bb bn ev
      go_enter Try.func32, Try.ntmps32
      go_wp2_with (first | (rw [← EU.out]) | (rw [← EV.out]) | ((with_reducible apply list_store_al); exact rfl; exact rfl; exact rfl; exact rfl; (with_reducible exact T2.out); simp only [Act.put, List.setIfInBounds_toArray, List.set_cons_succ, List.set_cons_zero]) | fail)
      exact bodyPost_ret (results_al rfl rfl (EN.out _ _ _)) rfl ⟨by simp, BN.out _⟩
    · have bb := Go.Joins.below_alloc1 w (.cells #[.int .i64 s, .int .i64 f, .int .i64 h, .bool true, .bool true, .int .i64 l, .int .i64 b] 25)
      have h0 := hp_new w (.cells #[.int .i64 s, .int .i64 f, .int .i64 h, .bool true, .bool true, .int .i64 l, .int .i64 b] 25)
      obtain ⟨u, eu⟩ : ∃ u, u = w.alloc (.cells #[.int .i64 s, .int .i64 f, .int .i64 h, .bool true, .bool true, .int .i64 l, .int .i64 b] 25) := ⟨_, rfl⟩
      have hs : w.heap.size < u.heap.size := by rw [eu]; simp
      rw [← eu] at h0 bb
      have EU := Lib.hid eu
      clear eu
      have h2 := hp_new u (.cells #[.bool false, .bool false, .nilFunc] 48)
      have h1 := hp_on h0 (.cells #[.bool false, .bool false, .nilFunc] 48)
      have bn := fun (vs : List Value) => bel_cellsA (g := u.heap.size) (by omega) vs 0 _ (bb.alloc (by omega) (.cells #[.bool false, .bool false, .nilFunc] 48))
      obtain ⟨v, ev⟩ : ∃ v, v = u.alloc (.cells #[.bool false, .bool false, .nilFunc] 48) := ⟨_, rfl⟩
      rw [← ev] at h1 h2
      simp only [← ev] at bn
      have BN := Lib.hid bn
      have EV := Lib.hid ev
      have T2 := Lib.hid (there_block h2 0 3 (by decide))
      have EN := Lib.hid (fun x y z => al_end (x := x) (y := y) (z := z) h2)
      have c3 : v.cell? ⟨w.heap.size, 3, none⟩ = some (.bool true) := Go.Joins.cell_of_block h1 3
      have c4 : v.cell? ⟨w.heap.size, 4, none⟩ = some (.bool true) := Go.Joins.cell_of_block h1 4
      have c5 : v.cell? ⟨w.heap.size, 5, none⟩ = some (.int .i64 l) := Go.Joins.cell_of_block h1 5
      clear h0 h1 h2 hs bb bn ev
      go_enter Try.func32, Try.ntmps32
      go_wp2_with (first | (rw [← EU.out]) | (rw [← EV.out]) | ((with_reducible apply list_store_al); exact rfl; exact rfl; exact rfl; exact rfl; (with_reducible exact T2.out); simp only [Act.put, List.setIfInBounds_toArray, List.set_cons_succ, List.set_cons_zero]) | fail)
      exact bodyPost_ret (results_al rfl rfl (EN.out _ _ _)) rfl ⟨by simp, BN.out _⟩
theorem ialignment (x : Sa) (w : World) :
    Calls Try.prog 32 #[.agg #[.int .i64 x.size, .int .i64 x.before, .int .i64 x.behind, .bool x.ab, .bool x.ah, .int .i64 x.al, .int .i64 x.base]] w fun e w' => e = .returned (.agg #[.bool (saOn x), .bool (saFi x), .func (.func (plF17 x)) #[] #[]]) ∧ Below w.heap.size w w' := ialignment_raw x.size x.before x.behind x.al x.base x.ab x.ah w

end Go.Proofs.Ytdpibpelghnihaa

/-
  The program's OnBase and Fills, the functions that place a Side (atBeginning, atEnd, atMiddle, atBaseline, betweenAutos), PlaceAcross of both. Conditions: numbers in range.
-/
import Derived.Test.YtdpibpelghnihaaSaO
import Derived.Lib.QuietBelow
namespace Go.Proofs.Ytdpibpelghnihaa
open Go.ChangeShapes Go.WideShapes Go.ChangeAt Go.RowKit
set_option linter.unusedVariables false
set_option linter.unusedSimpArgs false
set_option maxRecDepth 8000

theorem fldAl0 (x y z : Value) (w : World) : (Instr.field 48 (.agg #[x, y, z]) 0).run Try.prog w = .ok x w := by kernel_rfl
theorem fldAl1 (x y z : Value) (w : World) : (Instr.field 48 (.agg #[x, y, z]) 1).run Try.prog w = .ok y w := by kernel_rfl
theorem fldAl2 (x y z : Value) (w : World) : (Instr.field 48 (.agg #[x, y, z]) 2).run Try.prog w = .ok z w := by kernel_rfl

theorem ison (x : Sa) (w : World) :
    Calls Try.prog 21 #[.agg #[.int .i64 x.size, .int .i64 x.before, .int .i64 x.behind, .bool x.ab, .bool x.ah, .int .i64 x.al, .int .i64 x.base]] w fun e w' => e = .returned (.bool (saOn x)) ∧ Below w.heap.size w w' := by
  have bb := Go.Joins.below_alloc1 w (.cells #[.int .i64 x.size, .int .i64 x.before, .int .i64 x.behind, .bool x.ab, .bool x.ah, .int .i64 x.al, .int .i64 x.base] 25)
  have h0 := hp_new w (.cells #[.int .i64 x.size, .int .i64 x.before, .int .i64 x.behind, .bool x.ab, .bool x.ah, .int .i64 x.al, .int .i64 x.base] 25)
  obtain ⟨u, eu⟩ : ∃ u, u = w.alloc (.cells #[.int .i64 x.size, .int .i64 x.before, .int .i64 x.behind, .bool x.ab, .bool x.ah, .int .i64 x.al, .int .i64 x.base] 25) := ⟨_, rfl⟩
  rw [← eu] at h0 bb
  have EU := Lib.hid eu
  clear eu
  have c0 : u.cell? ⟨w.heap.size, 0, none⟩ = some (.int .i64 x.size) := Go.Joins.cell_of_block h0 0
  have c1 : u.cell? ⟨w.heap.size, 1, none⟩ = some (.int .i64 x.before) := Go.Joins.cell_of_block h0 1
  have c2 : u.cell? ⟨w.heap.size, 2, none⟩ = some (.int .i64 x.behind) := Go.Joins.cell_of_block h0 2
  have c3 : u.cell? ⟨w.heap.size, 3, none⟩ = some (.bool x.ab) := Go.Joins.cell_of_block h0 3
  have c4 : u.cell? ⟨w.heap.size, 4, none⟩ = some (.bool x.ah) := Go.Joins.cell_of_block h0 4
  have c5 : u.cell? ⟨w.heap.size, 5, none⟩ = some (.int .i64 x.al) := Go.Joins.cell_of_block h0 5
  have c6 : u.cell? ⟨w.heap.size, 6, none⟩ = some (.int .i64 x.base) := Go.Joins.cell_of_block h0 6
  have RG := Lib.hid (range_block h0 : u.rangeAt w.heap.size 0 x.L)
  have BB := Lib.hid bb
  clear h0 bb
  have KA := Lib.hid (fun w => ialignment x w)
  go_enter Try.func21, Try.ntmps21
  go_wp2_with (first | (rw [← EU.out]) | ((with_reducible apply list_load_sa); exact rfl; exact rfl; exact rfl; (with_reducible exact RG.out); simp only [Act.put, List.setIfInBounds_toArray, List.set_cons_succ, List.set_cons_zero]) | fail)
  refine (KA.out _).mono ?_
  rintro e w1 ⟨rfl, b1⟩
  have B1 := Lib.hid (BB.out.trans (b1.mono BB.out.size))
  clear b1 KA c0 c1 c2 c3 c4 c5 c6 RG
  have hf := fldAl0 (.bool (saOn x)) (.bool (saFi x)) (.func (.func (plF17 x)) #[] #[]) w1
  (try dsimp only)
  go_wp2
  go_ret
  exact ⟨rfl, B1.out⟩
theorem isfi (x : Sa) (w : World) :
    Calls Try.prog 23 #[.agg #[.int .i64 x.size, .int .i64 x.before, .int .i64 x.behind, .bool x.ab, .bool x.ah, .int .i64 x.al, .int .i64 x.base]] w fun e w' => e = .returned (.bool (saFi x)) ∧ Below w.heap.size w w' := by
  have bb := Go.Joins.below_alloc1 w (.cells #[.int .i64 x.size, .int .i64 x.before, .int .i64 x.behind, .bool x.ab, .bool x.ah, .int .i64 x.al, .int .i64 x.base] 25)
  have h0 := hp_new w (.cells #[.int .i64 x.size, .int .i64 x.before, .int .i64 x.behind, .bool x.ab, .bool x.ah, .int .i64 x.al, .int .i64 x.base] 25)
  obtain ⟨u, eu⟩ : ∃ u, u = w.alloc (.cells #[.int .i64 x.size, .int .i64 x.before, .int .i64 x.behind, .bool x.ab, .bool x.ah, .int .i64 x.al, .int .i64 x.base] 25) := ⟨_, rfl⟩
  rw [← eu] at h0 bb
  have EU := Lib.hid eu
  clear eu
  have c0 : u.cell? ⟨w.heap.size, 0, none⟩ = some (.int .i64 x.size) := Go.Joins.cell_of_block h0 0
  have c1 : u.cell? ⟨w.heap.size, 1, none⟩ = some (.int .i64 x.before) := Go.Joins.cell_of_block h0 1
  have c2 : u.cell? ⟨w.heap.size, 2, none⟩ = some (.int .i64 x.behind) := Go.Joins.cell_of_block h0 2
  have c3 : u.cell? ⟨w.heap.size, 3, none⟩ = some (.bool x.ab) := Go.Joins.cell_of_block h0 3
  have c4 : u.cell? ⟨w.heap.size, 4, none⟩ = some (.bool x.ah) := Go.Joins.cell_of_block h0 4
  have c5 : u.cell? ⟨w.heap.size, 5, none⟩ = some (.int .i64 x.al) := Go.Joins.cell_of_block h0 5
  have c6 : u.cell? ⟨w.heap.size, 6, none⟩ = some (.int .i64 x.base) := Go.Joins.cell_of_block h0 6
  have RG := Lib.hid (range_block h0 : u.rangeAt w.heap.size 0 x.L)
  have BB := Lib.hid bb
  clear h0 bb
  have KA := Lib.hid (fun w => ialignment x w)
  go_enter Try.func23, Try.ntmps23
  go_wp2_with (first | (rw [← EU.out]) | ((with_reducible apply list_load_sa); exact rfl; exact rfl; exact rfl; (with_reducible exact RG.out); simp only [Act.put, List.setIfInBounds_toArray, List.set_cons_succ, List.set_cons_zero]) | fail)
  refine (KA.out _).mono ?_
  rintro e w1 ⟨rfl, b1⟩
  have B1 := Lib.hid (BB.out.trans (b1.mono BB.out.size))
  clear b1 KA c0 c1 c2 c3 c4 c5 c6 RG
  have hf := fldAl1 (.bool (saOn x)) (.bool (saFi x)) (.func (.func (plF17 x)) #[] #[]) w1
  (try dsimp only)
  go_wp2
  go_ret
  exact ⟨rfl, B1.out⟩
theorem ibeg17 (x : Sa) (free base : Int) (w : World) :
    Calls Try.prog 47 #[.agg #[.int .i64 x.size, .int .i64 x.before, .int .i64 x.behind, .bool x.ab, .bool x.ah, .int .i64 x.al, .int .i64 x.base], .int .i64 free, .int .i64 base] w fun e w' => e = .returned (.int .i64 (x.before)) ∧ Below w.heap.size w w' := by
  have bb := Go.Joins.below_alloc1 w (.cells #[.int .i64 x.size, .int .i64 x.before, .int .i64 x.behind, .bool x.ab, .bool x.ah, .int .i64 x.al, .int .i64 x.base] 25)
  have h0 := hp_new w (.cells #[.int .i64 x.size, .int .i64 x.before, .int .i64 x.behind, .bool x.ab, .bool x.ah, .int .i64 x.al, .int .i64 x.base] 25)
  obtain ⟨u, eu⟩ : ∃ u, u = w.alloc (.cells #[.int .i64 x.size, .int .i64 x.before, .int .i64 x.behind, .bool x.ab, .bool x.ah, .int .i64 x.al, .int .i64 x.base] 25) := ⟨_, rfl⟩
  rw [← eu] at h0 bb
  have EU := Lib.hid eu
  clear eu
  have c0 : u.cell? ⟨w.heap.size, 0, none⟩ = some (.int .i64 x.size) := Go.Joins.cell_of_block h0 0
  have c1 : u.cell? ⟨w.heap.size, 1, none⟩ = some (.int .i64 x.before) := Go.Joins.cell_of_block h0 1
  have c2 : u.cell? ⟨w.heap.size, 2, none⟩ = some (.int .i64 x.behind) := Go.Joins.cell_of_block h0 2
  have c3 : u.cell? ⟨w.heap.size, 3, none⟩ = some (.bool x.ab) := Go.Joins.cell_of_block h0 3
  have c4 : u.cell? ⟨w.heap.size, 4, none⟩ = some (.bool x.ah) := Go.Joins.cell_of_block h0 4
  have c5 : u.cell? ⟨w.heap.size, 5, none⟩ = some (.int .i64 x.al) := Go.Joins.cell_of_block h0 5
  have c6 : u.cell? ⟨w.heap.size, 6, none⟩ = some (.int .i64 x.base) := Go.Joins.cell_of_block h0 6
  have RG := Lib.hid (range_block h0 : u.rangeAt w.heap.size 0 x.L)
  have BB := Lib.hid bb
  clear h0 bb
  go_enter Try.func47, Try.ntmps47
  go_wp2_with (first | (rw [← EU.out]) | fail)
  go_ret
  exact ⟨rfl, BB.out⟩
theorem iend17 (x : Sa) (free base : Int) (w : World) :
    Calls Try.prog 48 #[.agg #[.int .i64 x.size, .int .i64 x.before, .int .i64 x.behind, .bool x.ab, .bool x.ah, .int .i64 x.al, .int .i64 x.base], .int .i64 free, .int .i64 base] w fun e w' => e = .returned (.int .i64 (wrap64 (x.before + free))) ∧ Below w.heap.size w w' := by
  have bb := Go.Joins.below_alloc1 w (.cells #[.int .i64 x.size, .int .i64 x.before, .int .i64 x.behind, .bool x.ab, .bool x.ah, .int .i64 x.al, .int .i64 x.base] 25)
  have h0 := hp_new w (.cells #[.int .i64 x.size, .int .i64 x.before, .int .i64 x.behind, .bool x.ab, .bool x.ah, .int .i64 x.al, .int .i64 x.base] 25)
  obtain ⟨u, eu⟩ : ∃ u, u = w.alloc (.cells #[.int .i64 x.size, .int .i64 x.before, .int .i64 x.behind, .bool x.ab, .bool x.ah, .int .i64 x.al, .int .i64 x.base] 25) := ⟨_, rfl⟩
  rw [← eu] at h0 bb
  have EU := Lib.hid eu
  clear eu
  have c0 : u.cell? ⟨w.heap.size, 0, none⟩ = some (.int .i64 x.size) := Go.Joins.cell_of_block h0 0
  have c1 : u.cell? ⟨w.heap.size, 1, none⟩ = some (.int .i64 x.before) := Go.Joins.cell_of_block h0 1
  have c2 : u.cell? ⟨w.heap.size, 2, none⟩ = some (.int .i64 x.behind) := Go.Joins.cell_of_block h0 2
  have c3 : u.cell? ⟨w.heap.size, 3, none⟩ = some (.bool x.ab) := Go.Joins.cell_of_block h0 3
  have c4 : u.cell? ⟨w.heap.size, 4, none⟩ = some (.bool x.ah) := Go.Joins.cell_of_block h0 4
  have c5 : u.cell? ⟨w.heap.size, 5, none⟩ = some (.int .i64 x.al) := Go.Joins.cell_of_block h0 5
  have c6 : u.cell? ⟨w.heap.size, 6, none⟩ = some (.int .i64 x.base) := Go.Joins.cell_of_block h0 6
  have RG := Lib.hid (range_block h0 : u.rangeAt w.heap.size 0 x.L)
  have BB := Lib.hid bb
  clear h0 bb
  go_enter Try.func48, Try.ntmps48
  go_wp2_with (first | (rw [← EU.out]) | fail)
  go_ret
  exact ⟨rfl, BB.out⟩
theorem ibas17 (x : Sa) (free base : Int) (w : World) :
    Calls Try.prog 50 #[.agg #[.int .i64 x.size, .int .i64 x.before, .int .i64 x.behind, .bool x.ab, .bool x.ah, .int .i64 x.al, .int .i64 x.base], .int .i64 free, .int .i64 base] w fun e w' => e = .returned (.int .i64 (wrap64 (base - x.base))) ∧ Below w.heap.size w w' := by
  have bb := Go.Joins.below_alloc1 w (.cells #[.int .i64 x.size, .int .i64 x.before, .int .i64 x.behind, .bool x.ab, .bool x.ah, .int .i64 x.al, .int .i64 x.base] 25)
  have h0 := hp_new w (.cells #[.int .i64 x.size, .int .i64 x.before, .int .i64 x.behind, .bool x.ab, .bool x.ah, .int .i64 x.al, .int .i64 x.base] 25)
  obtain ⟨u, eu⟩ : ∃ u, u = w.alloc (.cells #[.int .i64 x.size, .int .i64 x.before, .int .i64 x.behind, .bool x.ab, .bool x.ah, .int .i64 x.al, .int .i64 x.base] 25) := ⟨_, rfl⟩
  rw [← eu] at h0 bb
  have EU := Lib.hid eu
  clear eu
  have c0 : u.cell? ⟨w.heap.size, 0, none⟩ = some (.int .i64 x.size) := Go.Joins.cell_of_block h0 0
  have c1 : u.cell? ⟨w.heap.size, 1, none⟩ = some (.int .i64 x.before) := Go.Joins.cell_of_block h0 1
  have c2 : u.cell? ⟨w.heap.size, 2, none⟩ = some (.int .i64 x.behind) := Go.Joins.cell_of_block h0 2
  have c3 : u.cell? ⟨w.heap.size, 3, none⟩ = some (.bool x.ab) := Go.Joins.cell_of_block h0 3
  have c4 : u.cell? ⟨w.heap.size, 4, none⟩ = some (.bool x.ah) := Go.Joins.cell_of_block h0 4
  have c5 : u.cell? ⟨w.heap.size, 5, none⟩ = some (.int .i64 x.al) := Go.Joins.cell_of_block h0 5
  have c6 : u.cell? ⟨w.heap.size, 6, none⟩ = some (.int .i64 x.base) := Go.Joins.cell_of_block h0 6
  have RG := Lib.hid (range_block h0 : u.rangeAt w.heap.size 0 x.L)
  have BB := Lib.hid bb
  clear h0 bb
  go_enter Try.func50, Try.ntmps50
  go_wp2_with (first | (rw [← EU.out]) | fail)
  go_ret
  exact ⟨rfl, BB.out⟩
theorem imid17 (x : Sa) (free base : Int) (f0 : -9223372036854775808 ≤ free) (f1 : free ≤ 9223372036854775807) (w : World) :
    Calls Try.prog 49 #[.agg #[.int .i64 x.size, .int .i64 x.before, .int .i64 x.behind, .bool x.ab, .bool x.ah, .int .i64 x.al, .int .i64 x.base], .int .i64 free, .int .i64 base] w fun e w' => e = .returned (.int .i64 (wrap64 (x.before + fdI free 2))) ∧ Below w.heap.size w w' := by
  have bb := Go.Joins.below_alloc1 w (.cells #[.int .i64 x.size, .int .i64 x.before, .int .i64 x.behind, .bool x.ab, .bool x.ah, .int .i64 x.al, .int .i64 x.base] 25)
  have h0 := hp_new w (.cells #[.int .i64 x.size, .int .i64 x.before, .int .i64 x.behind, .bool x.ab, .bool x.ah, .int .i64 x.al, .int .i64 x.base] 25)
  obtain ⟨u, eu⟩ : ∃ u, u = w.alloc (.cells #[.int .i64 x.size, .int .i64 x.before, .int .i64 x.behind, .bool x.ab, .bool x.ah, .int .i64 x.al, .int .i64 x.base] 25) := ⟨_, rfl⟩
  rw [← eu] at h0 bb
  have EU := Lib.hid eu
  clear eu
  have c0 : u.cell? ⟨w.heap.size, 0, none⟩ = some (.int .i64 x.size) := Go.Joins.cell_of_block h0 0
  have c1 : u.cell? ⟨w.heap.size, 1, none⟩ = some (.int .i64 x.before) := Go.Joins.cell_of_block h0 1
  have c2 : u.cell? ⟨w.heap.size, 2, none⟩ = some (.int .i64 x.behind) := Go.Joins.cell_of_block h0 2
  have c3 : u.cell? ⟨w.heap.size, 3, none⟩ = some (.bool x.ab) := Go.Joins.cell_of_block h0 3
  have c4 : u.cell? ⟨w.heap.size, 4, none⟩ = some (.bool x.ah) := Go.Joins.cell_of_block h0 4
  have c5 : u.cell? ⟨w.heap.size, 5, none⟩ = some (.int .i64 x.al) := Go.Joins.cell_of_block h0 5
  have c6 : u.cell? ⟨w.heap.size, 6, none⟩ = some (.int .i64 x.base) := Go.Joins.cell_of_block h0 6
  have RG := Lib.hid (range_block h0 : u.rangeAt w.heap.size 0 x.L)
  have BB := Lib.hid bb
  clear h0 bb
  go_enter Try.func49, Try.ntmps49
  go_wp2_with (first | (rw [← EU.out]) | fail)
  go_quiet (first
    | (go_at_call 55; exact Calls.quiet_of_same (ifd_any free 2 _ f0 f1))
    | fail)
  go_wp2
  go_ret
  exact ⟨rfl, BB.out.trans ((below_drawn _ _).mono BB.out.size)⟩
def beV (f free : Int) (p q : Bool) : Int := if free ≤ 0 ∨ p = false then f else if q = true then wrap64 (f + fdI free 2) else wrap64 (f + free)
set_option maxHeartbeats 1000000 in
theorem ibet17_raw (s f h l b : Int) (p q : Bool) (free base : Int) (f0 : -9223372036854775808 ≤ free) (f1 : free ≤ 9223372036854775807) (w : World) :
    Calls Try.prog 46 #[.agg #[.int .i64 s, .int .i64 f, .int .i64 h, .bool p, .bool q, .int .i64 l, .int .i64 b], .int .i64 free, .int .i64 base] w fun e w' => e = .returned (.int .i64 (beV f free p q)) ∧ Below w.heap.size w w' := by
  by_cases hf : free ≤ 0
  · have bb := Go.Joins.below_alloc1 w (.cells #[.int .i64 s, .int .i64 f, .int .i64 h, .bool p, .bool q, .int .i64 l, .int .i64 b] 25)
    have h0 := hp_new w (.cells #[.int .i64 s, .int .i64 f, .int .i64 h, .bool p, .bool q, .int .i64 l, .int .i64 b] 25)
    obtain ⟨u, eu⟩ : ∃ u, u = w.alloc (.cells #[.int .i64 s, .int .i64 f, .int .i64 h, .bool p, .bool q, .int .i64 l, .int .i64 b] 25) := ⟨_, rfl⟩
    rw [← eu] at h0 bb
    have EU := Lib.hid eu
    clear eu
    have c0 : u.cell? ⟨w.heap.size, 0, none⟩ = some (.int .i64 s) := Go.Joins.cell_of_block h0 0
    have c1 : u.cell? ⟨w.heap.size, 1, none⟩ = some (.int .i64 f) := Go.Joins.cell_of_block h0 1
    have c2 : u.cell? ⟨w.heap.size, 2, none⟩ = some (.int .i64 h) := Go.Joins.cell_of_block h0 2
    have c3 : u.cell? ⟨w.heap.size, 3, none⟩ = some (.bool p) := Go.Joins.cell_of_block h0 3
    have c4 : u.cell? ⟨w.heap.size, 4, none⟩ = some (.bool q) := Go.Joins.cell_of_block h0 4
    have c5 : u.cell? ⟨w.heap.size, 5, none⟩ = some (.int .i64 l) := Go.Joins.cell_of_block h0 5
    have c6 : u.cell? ⟨w.heap.size, 6, none⟩ = some (.int .i64 b) := Go.Joins.cell_of_block h0 6
    have RG := Lib.hid (range_block h0 : u.rangeAt w.heap.size 0 (⟨s, f, h, p, q, l, b⟩ : Sa).L)
    have BB := Lib.hid bb
    clear h0 bb
    go_enter Try.func46, Try.ntmps46
    go_wp2_with (first | (rw [← EU.out]) | ((with_reducible apply list_load_sa (x := (⟨s, f, h, p, q, l, b⟩ : Sa))); exact rfl; exact rfl; exact rfl; (with_reducible exact RG.out); simp only [Act.put, List.setIfInBounds_toArray, List.set_cons_succ, List.set_cons_zero]) | fail)
    refine (ibeg17 ⟨s, f, h, p, q, l, b⟩ free base _).mono ?_
    rintro e w1 ⟨rfl, b1⟩
    have B1 := Lib.hid (BB.out.trans (b1.mono BB.out.size))
    clear b1 c0 c1 c2 c3 c4 c5 c6 RG
    (try dsimp only)
    go_wp2
    go_ret
    exact ⟨ret_int (by first | (simp [beV, hf]; done) | (simp [beV]; intro h; omega)), B1.out⟩
  cases p
  · have bb := Go.Joins.below_alloc1 w (.cells #[.int .i64 s, .int .i64 f, .int .i64 h, .bool false, .bool q, .int .i64 l, .int .i64 b] 25)
    have h0 := hp_new w (.cells #[.int .i64 s, .int .i64 f, .int .i64 h, .bool false, .bool q, .int .i64 l, .int .i64 b] 25)
    obtain ⟨u, eu⟩ : ∃ u, u = w.alloc (.cells #[.int .i64 s, .int .i64 f, .int .i64 h, .bool false, .bool q, .int .i64 l, .int .i64 b] 25) := ⟨_, rfl⟩
    rw [← eu] at h0 bb
    have EU := Lib.hid eu
    clear eu
    have c0 : u.cell? ⟨w.heap.size, 0, none⟩ = some (.int .i64 s) := Go.Joins.cell_of_block h0 0
    have c1 : u.cell? ⟨w.heap.size, 1, none⟩ = some (.int .i64 f) := Go.Joins.cell_of_block h0 1
    have c2 : u.cell? ⟨w.heap.size, 2, none⟩ = some (.int .i64 h) := Go.Joins.cell_of_block h0 2
    have c3 : u.cell? ⟨w.heap.size, 3, none⟩ = some (.bool false) := Go.Joins.cell_of_block h0 3
    have c4 : u.cell? ⟨w.heap.size, 4, none⟩ = some (.bool q) := Go.Joins.cell_of_block h0 4
    have c5 : u.cell? ⟨w.heap.size, 5, none⟩ = some (.int .i64 l) := Go.Joins.cell_of_block h0 5
    have c6 : u.cell? ⟨w.heap.size, 6, none⟩ = some (.int .i64 b) := Go.Joins.cell_of_block h0 6
    have RG := Lib.hid (range_block h0 : u.rangeAt w.heap.size 0 (⟨s, f, h, false, q, l, b⟩ : Sa).L)
    have BB := Lib.hid bb
    clear h0 bb
    go_enter Try.func46, Try.ntmps46
    go_wp2_with (first | (rw [← EU.out]) | ((with_reducible apply list_load_sa (x := (⟨s, f, h, false, q, l, b⟩ : Sa))); exact rfl; exact rfl; exact rfl; (with_reducible exact RG.out); simp only [Act.put, List.setIfInBounds_toArray, List.set_cons_succ, List.set_cons_zero]) | fail)
    refine (ibeg17 ⟨s, f, h, false, q, l, b⟩ free base _).mono ?_
    rintro e w1 ⟨rfl, b1⟩
    have B1 := Lib.hid (BB.out.trans (b1.mono BB.out.size))
    clear b1 c0 c1 c2 c3 c4 c5 c6 RG
    (try dsimp only)
    go_wp2
    go_ret
    exact ⟨ret_int (by first | (simp [beV]; done) | (simp [beV]; intro h; omega)), B1.out⟩
  cases q
  · have bb := Go.Joins.below_alloc1 w (.cells #[.int .i64 s, .int .i64 f, .int .i64 h, .bool true, .bool false, .int .i64 l, .int .i64 b] 25)
    have h0 := hp_new w (.cells #[.int .i64 s, .int .i64 f, .int .i64 h, .bool true, .bool false, .int .i64 l, .int .i64 b] 25)
    obtain ⟨u, eu⟩ : ∃ u, u = w.alloc (.cells #[.int .i64 s, .int .i64 f, .int .i64 h, .bool true, .bool false, .int .i64 l, .int .i64 b] 25) := ⟨_, rfl⟩
    rw [← eu] at h0 bb
    have EU := Lib.hid eu
    clear eu
    have c0 : u.cell? ⟨w.heap.size, 0, none⟩ = some (.int .i64 s) := Go.Joins.cell_of_block h0 0
    have c1 : u.cell? ⟨w.heap.size, 1, none⟩ = some (.int .i64 f) := Go.Joins.cell_of_block h0 1
    have c2 : u.cell? ⟨w.heap.size, 2, none⟩ = some (.int .i64 h) := Go.Joins.cell_of_block h0 2
    have c3 : u.cell? ⟨w.heap.size, 3, none⟩ = some (.bool true) := Go.Joins.cell_of_block h0 3
    have c4 : u.cell? ⟨w.heap.size, 4, none⟩ = some (.bool false) := Go.Joins.cell_of_block h0 4
    have c5 : u.cell? ⟨w.heap.size, 5, none⟩ = some (.int .i64 l) := Go.Joins.cell_of_block h0 5
    have c6 : u.cell? ⟨w.heap.size, 6, none⟩ = some (.int .i64 b) := Go.Joins.cell_of_block h0 6
    have RG := Lib.hid (range_block h0 : u.rangeAt w.heap.size 0 (⟨s, f, h, true, false, l, b⟩ : Sa).L)
    have BB := Lib.hid bb
    clear h0 bb
    go_enter Try.func46, Try.ntmps46
    go_wp2_with (first | (rw [← EU.out]) | ((with_reducible apply list_load_sa (x := (⟨s, f, h, true, false, l, b⟩ : Sa))); exact rfl; exact rfl; exact rfl; (with_reducible exact RG.out); simp only [Act.put, List.setIfInBounds_toArray, List.set_cons_succ, List.set_cons_zero]) | fail)
    refine (iend17 ⟨s, f, h, true, false, l, b⟩ free base _).mono ?_
    rintro e w1 ⟨rfl, b1⟩
    have B1 := Lib.hid (BB.out.trans (b1.mono BB.out.size))
    clear b1 c0 c1 c2 c3 c4 c5 c6 RG
    (try dsimp only)
    go_wp2
    go_ret
    exact ⟨ret_int (by first | (simp [beV, hf]; done) | (simp [beV]; intro h; omega)), B1.out⟩
  · have bb := Go.Joins.below_alloc1 w (.cells #[.int .i64 s, .int .i64 f, .int .i64 h, .bool true, .bool true, .int .i64 l, .int .i64 b] 25)
    have h0 := hp_new w (.cells #[.int .i64 s, .int .i64 f, .int .i64 h, .bool true, .bool true, .int .i64 l, .int .i64 b] 25)
    obtain ⟨u, eu⟩ : ∃ u, u = w.alloc (.cells #[.int .i64 s, .int .i64 f, .int .i64 h, .bool true, .bool true, .int .i64 l, .int .i64 b] 25) := ⟨_, rfl⟩
    rw [← eu] at h0 bb
    have EU := Lib.hid eu
    clear eu
    have c0 : u.cell? ⟨w.heap.size, 0, none⟩ = some (.int .i64 s) := Go.Joins.cell_of_block h0 0
    have c1 : u.cell? ⟨w.heap.size, 1, none⟩ = some (.int .i64 f) := Go.Joins.cell_of_block h0 1
    have c2 : u.cell? ⟨w.heap.size, 2, none⟩ = some (.int .i64 h) := Go.Joins.cell_of_block h0 2
    have c3 : u.cell? ⟨w.heap.size, 3, none⟩ = some (.bool true) := Go.Joins.cell_of_block h0 3
    have c4 : u.cell? ⟨w.heap.size, 4, none⟩ = some (.bool true) := Go.Joins.cell_of_block h0 4
    have c5 : u.cell? ⟨w.heap.size, 5, none⟩ = some (.int .i64 l) := Go.Joins.cell_of_block h0 5
    have c6 : u.cell? ⟨w.heap.size, 6, none⟩ = some (.int .i64 b) := Go.Joins.cell_of_block h0 6
    have RG := Lib.hid (range_block h0 : u.rangeAt w.heap.size 0 (⟨s, f, h, true, true, l, b⟩ : Sa).L)
    have BB := Lib.hid bb
    clear h0 bb
    go_enter Try.func46, Try.ntmps46
    go_wp2_with (first | (rw [← EU.out]) | ((with_reducible apply list_load_sa (x := (⟨s, f, h, true, true, l, b⟩ : Sa))); exact rfl; exact rfl; exact rfl; (with_reducible exact RG.out); simp only [Act.put, List.setIfInBounds_toArray, List.set_cons_succ, List.set_cons_zero]) | fail)
    refine (imid17 ⟨s, f, h, true, true, l, b⟩ free base f0 f1 _).mono ?_
    rintro e w1 ⟨rfl, b1⟩
    have B1 := Lib.hid (BB.out.trans (b1.mono BB.out.size))
    clear b1 c0 c1 c2 c3 c4 c5 c6 RG
    (try dsimp only)
    go_wp2
    go_ret
    exact ⟨ret_int (by first | (simp [beV, hf]; done) | (simp [beV]; intro h; omega)), B1.out⟩
theorem ibet17 (x : Sa) (free base : Int) (f0 : -9223372036854775808 ≤ free) (f1 : free ≤ 9223372036854775807) (w : World) :
    Calls Try.prog 46 #[.agg #[.int .i64 x.size, .int .i64 x.before, .int .i64 x.behind, .bool x.ab, .bool x.ah, .int .i64 x.al, .int .i64 x.base], .int .i64 free, .int .i64 base] w fun e w' => e = .returned (.int .i64 (beV x.before free x.ab x.ah)) ∧ Below w.heap.size w w' := ibet17_raw x.size x.before x.behind x.al x.base x.ab x.ah free base f0 f1 w

theorem iplace17 (x : Sa) (free base : Int) (f0 : -9223372036854775808 ≤ free) (f1 : free ≤ 9223372036854775807) (w : World) :
    Calls Try.prog (plF17 x) #[.agg #[.int .i64 x.size, .int .i64 x.before, .int .i64 x.behind, .bool x.ab, .bool x.ah, .int .i64 x.al, .int .i64 x.base], .int .i64 free, .int .i64 base] w fun e w' => e = .returned (.int .i64 (plA x free base)) ∧ Below w.heap.size w w' := by
  unfold plF17 plA
  by_cases h : saAu x = true
  · rw [if_pos h, if_pos h]; exact ibet17 x free base f0 f1 w
  rw [if_neg h, if_neg h]
  by_cases h3 : x.al = 3
  · rw [if_pos h3, if_pos h3]; exact iend17 x free base w
  rw [if_neg h3, if_neg h3]
  by_cases h4 : x.al = 4
  · rw [if_pos h4, if_pos h4]; exact imid17 x free base f0 f1 w
  rw [if_neg h4, if_neg h4]
  by_cases h5 : x.al = 5
  · rw [if_pos h5, if_pos h5]; exact ibas17 x free base w
  rw [if_neg h5, if_neg h5]; exact ibeg17 x free base w
theorem callPl17 (x : Sa) (args : Array Value) (w : World) : (callFunc (plF17 x) args).run Try.prog w = .ok (.enter (plF17 x) args) w := by
  unfold plF17
  repeat' split
  all_goals kernel_rfl
theorem wr17 (a : Int) : -9223372036854775808 ≤ wrap64 a ∧ wrap64 a ≤ 9223372036854775807 := by unfold wrap64; omega
/-- The free space beside a Side, and where it begins. -/
def frS (x : Sa) (cross : Int) : Int := wrap64 (wrap64 (wrap64 (cross - x.size) - x.before) - x.behind)
def paA (x : Sa) (cross base : Int) : Int := if saOk x = true then plA x (frS x cross) base else 0

set_option maxHeartbeats 2000000 in
theorem iplaceacross (x : Sa) (cross base : Int) (w : World) :
    Calls Try.prog 12 #[.agg #[.int .i64 x.size, .int .i64 x.before, .int .i64 x.behind, .bool x.ab, .bool x.ah, .int .i64 x.al, .int .i64 x.base], .int .i64 cross, .int .i64 base] w fun e w' => e = .returned (.int .i64 (paA x cross base)) ∧ Below w.heap.size w w' := by
  have KO := Lib.hid (fun w => isaok x w)
  unfold paA
  have bb := Go.Joins.below_alloc1 w (.cells #[.int .i64 x.size, .int .i64 x.before, .int .i64 x.behind, .bool x.ab, .bool x.ah, .int .i64 x.al, .int .i64 x.base] 25)
  have h0 := hp_new w (.cells #[.int .i64 x.size, .int .i64 x.before, .int .i64 x.behind, .bool x.ab, .bool x.ah, .int .i64 x.al, .int .i64 x.base] 25)
  obtain ⟨u, eu⟩ : ∃ u, u = w.alloc (.cells #[.int .i64 x.size, .int .i64 x.before, .int .i64 x.behind, .bool x.ab, .bool x.ah, .int .i64 x.al, .int .i64 x.base] 25) := ⟨_, rfl⟩
  rw [← eu] at h0 bb
  have EU := Lib.hid eu
  clear eu
  have RG := Lib.hid (range_block h0 : u.rangeAt w.heap.size 0 x.L)
  have H0 := Lib.hid h0
  have c0 : u.cell? ⟨w.heap.size, 0, none⟩ = some (.int .i64 x.size) := Go.Joins.cell_of_block h0 0
  have c1 : u.cell? ⟨w.heap.size, 1, none⟩ = some (.int .i64 x.before) := Go.Joins.cell_of_block h0 1
  have c2 : u.cell? ⟨w.heap.size, 2, none⟩ = some (.int .i64 x.behind) := Go.Joins.cell_of_block h0 2
  have c3 : u.cell? ⟨w.heap.size, 3, none⟩ = some (.bool x.ab) := Go.Joins.cell_of_block h0 3
  have c4 : u.cell? ⟨w.heap.size, 4, none⟩ = some (.bool x.ah) := Go.Joins.cell_of_block h0 4
  have c5 : u.cell? ⟨w.heap.size, 5, none⟩ = some (.int .i64 x.al) := Go.Joins.cell_of_block h0 5
  have c6 : u.cell? ⟨w.heap.size, 6, none⟩ = some (.int .i64 x.base) := Go.Joins.cell_of_block h0 6
  have BB := Lib.hid bb
  clear h0 bb
  generalize saOk x = t at *
  cases t
  · go_enter Try.func12, Try.ntmps12
    go_wp2_with (first | (rw [← EU.out]) | ((with_reducible apply list_load_sa); exact rfl; exact rfl; exact rfl; (with_reducible exact RG.out); simp only [Act.put, List.setIfInBounds_toArray, List.set_cons_succ, List.set_cons_zero]) | fail)
    refine (KO.out _).mono ?_
    rintro e w1 ⟨rfl, b1⟩
    have B1 := Lib.hid (BB.out.trans (b1.mono BB.out.size))
    clear b1
    (try dsimp only)
    go_wp2
    go_ret
    exact ⟨rfl, B1.out⟩
  · go_enter Try.func12, Try.ntmps12
    go_wp2_with (first | (rw [← EU.out]) | ((with_reducible apply list_load_sa); exact rfl; exact rfl; exact rfl; (with_reducible exact RG.out); simp only [Act.put, List.setIfInBounds_toArray, List.set_cons_succ, List.set_cons_zero]) | fail)
    refine (KO.out _).mono ?_
    rintro e w1 ⟨rfl, b1⟩
    have B1 := Lib.hid (BB.out.trans (b1.mono BB.out.size))
    have h1 : w1.heap[w.heap.size]? = some (.cells x.A 25) := hp_below H0.out b1
    have HB := Lib.hid h1
    have C0 : w1.cell? ⟨w.heap.size, 0, none⟩ = some (.int .i64 x.size) := Go.Joins.cell_of_block h1 0
    have q0 := fun d os => cell_regrown C0 d os
    have C1 : w1.cell? ⟨w.heap.size, 1, none⟩ = some (.int .i64 x.before) := Go.Joins.cell_of_block h1 1
    have q1 := fun d os => cell_regrown C1 d os
    have C2 : w1.cell? ⟨w.heap.size, 2, none⟩ = some (.int .i64 x.behind) := Go.Joins.cell_of_block h1 2
    have q2 := fun d os => cell_regrown C2 d os
    have hb := wr17 (wrap64 (wrap64 (cross - x.size) - x.before) - x.behind)
    have KP := Lib.hid (fun w => iplace17 x (frS x cross) base hb.1 hb.2 w)
    have KA := Lib.hid (fun w => ialignment x w)
    have hcf := callPl17 x
    generalize plF17 x = F at *
    have hf := fun w => fldAl2 (.bool (saOn x)) (.bool (saFi x)) (.func (.func F) #[] #[]) w
    have HD := Lib.hid (show frS x cross = wrap64 (wrap64 (wrap64 (cross - x.size) - x.before) - x.behind) from rfl)
    clear C0 C1 C2 b1 h1 KO hb c0 c1 c2 c3 c4 c5 c6
    (try dsimp only)
    go_wp2_with (fail)
    refine wp_region_quiet_below (by kernel_rfl) (by kernel_rfl) ?_
    repeat (first
      | (go_big_quiet_want; (with_reducible apply quiet_sa (x := x)); exact rfl; exact rfl; (with_reducible exact HB.out); simp only [Act.put, List.setIfInBounds_toArray, List.set_cons_succ, List.set_cons_zero]; go_big_quiet_on)
      | go_big_quiet_step (first
        | (go_at_call 32; exact Calls.regrown_of (KA.out _))
        | (exact Calls.regrown_of (KP.out _))
        | fail))
    refine wpQuiet_nil ?_
    intro _ hw'
    obtain ⟨⟨dq, osq⟩, hw''⟩ := hw'
    subst hw''
    clear q0 q1 q2 hf hcf
    have B7 := Lib.hid (B1.out.trans ((below_regrown w1 dq osq).mono B1.out.size))
    (try dsimp only)
    go_wp2
    go_ret
    exact ⟨rfl, B7.out⟩
theorem ple {free : Int} {a c : Int} (h : ¬ free ≤ 0) : a = (if free ≤ 0 then c else a) := (if_neg h).symm
set_option maxHeartbeats 4000000 in
theorem splaceacross_raw (s f h l b : Int) (p q : Bool) (cross base : Int) (w : World) :
    Calls Try.prog 16 #[.agg #[.int .i64 s, .int .i64 f, .int .i64 h, .bool p, .bool q, .int .i64 l, .int .i64 b], .int .i64 cross, .int .i64 base] w fun e w' => e = .returned (.int .i64 (paA ⟨s, f, h, p, q, l, b⟩ cross base)) ∧ Below w.heap.size w w' := by
  rcases Bool.eq_false_or_eq_true (saOk ⟨s, f, h, p, q, l, b⟩) with hk | hk
  case inr =>
    have KO := Lib.hid (fun w => ssaok ⟨s, f, h, p, q, l, b⟩ w)
    rw [hk] at KO
    have HK := Lib.hid hk
    clear hk
    have bb := Go.Joins.below_alloc1 w (.cells #[.int .i64 s, .int .i64 f, .int .i64 h, .bool p, .bool q, .int .i64 l, .int .i64 b] 25)
    have h0 := hp_new w (.cells #[.int .i64 s, .int .i64 f, .int .i64 h, .bool p, .bool q, .int .i64 l, .int .i64 b] 25)
    obtain ⟨u, eu⟩ : ∃ u, u = w.alloc (.cells #[.int .i64 s, .int .i64 f, .int .i64 h, .bool p, .bool q, .int .i64 l, .int .i64 b] 25) := ⟨_, rfl⟩
    rw [← eu] at h0 bb
    have EU := Lib.hid eu
    clear eu
    have c0 : u.cell? ⟨w.heap.size, 0, none⟩ = some (.int .i64 s) := Go.Joins.cell_of_block h0 0
    have c1 : u.cell? ⟨w.heap.size, 1, none⟩ = some (.int .i64 f) := Go.Joins.cell_of_block h0 1
    have c2 : u.cell? ⟨w.heap.size, 2, none⟩ = some (.int .i64 h) := Go.Joins.cell_of_block h0 2
    have c3 : u.cell? ⟨w.heap.size, 3, none⟩ = some (.bool p) := Go.Joins.cell_of_block h0 3
    have c4 : u.cell? ⟨w.heap.size, 4, none⟩ = some (.bool q) := Go.Joins.cell_of_block h0 4
    have c5 : u.cell? ⟨w.heap.size, 5, none⟩ = some (.int .i64 l) := Go.Joins.cell_of_block h0 5
    have c6 : u.cell? ⟨w.heap.size, 6, none⟩ = some (.int .i64 b) := Go.Joins.cell_of_block h0 6
    have RG := Lib.hid (range_block h0 : u.rangeAt w.heap.size 0 (⟨s, f, h, p, q, l, b⟩ : Sa).L)
    have BB := Lib.hid bb
    clear h0 bb
    go_enter Try.func16, Try.ntmps16
    go_wp2_with (first | (rw [← EU.out]) | fail)
    refine (KO.out _).mono ?_
    rintro e w1 ⟨rfl, b1⟩
    have B1 := Lib.hid (BB.out.trans (b1.mono BB.out.size))
    clear b1
    (try dsimp only)
    go_wp2
    go_ret
    exact ⟨ret_int (by unfold paA; rw [HK.out]; rfl), B1.out⟩
  by_cases ha : (p || q) = false
  · obtain ⟨rfl, rfl⟩ : p = false ∧ q = false := by simpa using ha
    clear ha
    by_cases h3 : l = 3
    · subst h3
      have HK := Lib.hid hk
      clear hk
      have bb := Go.Joins.below_alloc1 w (.cells #[.int .i64 s, .int .i64 f, .int .i64 h, .bool false, .bool false, .int .i64 3, .int .i64 b] 25)
      have h0 := hp_new w (.cells #[.int .i64 s, .int .i64 f, .int .i64 h, .bool false, .bool false, .int .i64 3, .int .i64 b] 25)
      obtain ⟨u, eu⟩ : ∃ u, u = w.alloc (.cells #[.int .i64 s, .int .i64 f, .int .i64 h, .bool false, .bool false, .int .i64 3, .int .i64 b] 25) := ⟨_, rfl⟩
      rw [← eu] at h0 bb
      have EU := Lib.hid eu
      clear eu
      have c0 : u.cell? ⟨w.heap.size, 0, none⟩ = some (.int .i64 s) := Go.Joins.cell_of_block h0 0
      have c1 : u.cell? ⟨w.heap.size, 1, none⟩ = some (.int .i64 f) := Go.Joins.cell_of_block h0 1
      have c2 : u.cell? ⟨w.heap.size, 2, none⟩ = some (.int .i64 h) := Go.Joins.cell_of_block h0 2
      have c3 : u.cell? ⟨w.heap.size, 3, none⟩ = some (.bool false) := Go.Joins.cell_of_block h0 3
      have c4 : u.cell? ⟨w.heap.size, 4, none⟩ = some (.bool false) := Go.Joins.cell_of_block h0 4
      have c5 : u.cell? ⟨w.heap.size, 5, none⟩ = some (.int .i64 3) := Go.Joins.cell_of_block h0 5
      have c6 : u.cell? ⟨w.heap.size, 6, none⟩ = some (.int .i64 b) := Go.Joins.cell_of_block h0 6
      have RG := Lib.hid (range_block h0 : u.rangeAt w.heap.size 0 (⟨s, f, h, false, false, 3, b⟩ : Sa).L)
      have BB := Lib.hid bb
      clear h0 bb
      have KO := Lib.hid (fun w => ssaok (⟨s, f, h, false, false, 3, b⟩ : Sa) w)
      rw [HK.out] at KO
      have ka := fun w => sauto17_raw s f h 3 b false false w
      simp only [Bool.or_true, Bool.true_or, Bool.or_self, Bool.or_false, Bool.false_or] at ka
      have KA := Lib.hid ka
      clear ka
      go_enter Try.func16, Try.ntmps16
      go_wp2_with (first | (rw [← EU.out]) | fail)
      refine (KO.out _).mono ?_
      rintro e w1 ⟨rfl, b1⟩
      have B1 := Lib.hid (BB.out.trans (b1.mono BB.out.size))
      have d0 := cell_sa c0 b1
      have d1 := cell_sa c1 b1
      have d2 := cell_sa c2 b1
      have d3 := cell_sa c3 b1
      have d4 := cell_sa c4 b1
      have d5 := cell_sa c5 b1
      have d6 := cell_sa c6 b1
      clear b1 c0 c1 c2 c3 c4 c5 c6 KO
      (try dsimp only)
      go_wp2_with (fail)
      refine (KA.out _).mono ?_
      rintro e w2 ⟨rfl, b2⟩
      have B2 := Lib.hid (B1.out.trans (b2.mono B1.out.size))
      have g0 := cell_sa d0 b2
      have g1 := cell_sa d1 b2
      have g2 := cell_sa d2 b2
      have g3 := cell_sa d3 b2
      have g4 := cell_sa d4 b2
      have g5 := cell_sa d5 b2
      have g6 := cell_sa d6 b2
      clear b2 d0 d1 d2 d3 d4 d5 d6 KA RG
      (try dsimp only)
      go_wp2
      go_ret
      exact ⟨ret_int (by unfold paA; rw [HK.out]; first | (simp [plA, saAu, frS]; done) | (simp [plA, saAu, frS]; intro h0; omega) | (simp [plA, saAu, frS]; omega)), B2.out⟩
    by_cases h4 : l = 4
    · subst h4
      have HK := Lib.hid hk
      clear hk
      have bb := Go.Joins.below_alloc1 w (.cells #[.int .i64 s, .int .i64 f, .int .i64 h, .bool false, .bool false, .int .i64 4, .int .i64 b] 25)
      have h0 := hp_new w (.cells #[.int .i64 s, .int .i64 f, .int .i64 h, .bool false, .bool false, .int .i64 4, .int .i64 b] 25)
      obtain ⟨u, eu⟩ : ∃ u, u = w.alloc (.cells #[.int .i64 s, .int .i64 f, .int .i64 h, .bool false, .bool false, .int .i64 4, .int .i64 b] 25) := ⟨_, rfl⟩
      rw [← eu] at h0 bb
      have EU := Lib.hid eu
      clear eu
      have c0 : u.cell? ⟨w.heap.size, 0, none⟩ = some (.int .i64 s) := Go.Joins.cell_of_block h0 0
      have c1 : u.cell? ⟨w.heap.size, 1, none⟩ = some (.int .i64 f) := Go.Joins.cell_of_block h0 1
      have c2 : u.cell? ⟨w.heap.size, 2, none⟩ = some (.int .i64 h) := Go.Joins.cell_of_block h0 2
      have c3 : u.cell? ⟨w.heap.size, 3, none⟩ = some (.bool false) := Go.Joins.cell_of_block h0 3
      have c4 : u.cell? ⟨w.heap.size, 4, none⟩ = some (.bool false) := Go.Joins.cell_of_block h0 4
      have c5 : u.cell? ⟨w.heap.size, 5, none⟩ = some (.int .i64 4) := Go.Joins.cell_of_block h0 5
      have c6 : u.cell? ⟨w.heap.size, 6, none⟩ = some (.int .i64 b) := Go.Joins.cell_of_block h0 6
      have RG := Lib.hid (range_block h0 : u.rangeAt w.heap.size 0 (⟨s, f, h, false, false, 4, b⟩ : Sa).L)
      have BB := Lib.hid bb
      clear h0 bb
      have KO := Lib.hid (fun w => ssaok (⟨s, f, h, false, false, 4, b⟩ : Sa) w)
      rw [HK.out] at KO
      have ka := fun w => sauto17_raw s f h 4 b false false w
      simp only [Bool.or_true, Bool.true_or, Bool.or_self, Bool.or_false, Bool.false_or] at ka
      have KA := Lib.hid ka
      clear ka
      go_enter Try.func16, Try.ntmps16
      go_wp2_with (first | (rw [← EU.out]) | fail)
      refine (KO.out _).mono ?_
      rintro e w1 ⟨rfl, b1⟩
      have B1 := Lib.hid (BB.out.trans (b1.mono BB.out.size))
      have d0 := cell_sa c0 b1
      have d1 := cell_sa c1 b1
      have d2 := cell_sa c2 b1
      have d3 := cell_sa c3 b1
      have d4 := cell_sa c4 b1
      have d5 := cell_sa c5 b1
      have d6 := cell_sa c6 b1
      clear b1 c0 c1 c2 c3 c4 c5 c6 KO
      (try dsimp only)
      go_wp2_with (fail)
      refine (KA.out _).mono ?_
      rintro e w2 ⟨rfl, b2⟩
      have B2 := Lib.hid (B1.out.trans (b2.mono B1.out.size))
      have g0 := cell_sa d0 b2
      have g1 := cell_sa d1 b2
      have g2 := cell_sa d2 b2
      have g3 := cell_sa d3 b2
      have g4 := cell_sa d4 b2
      have g5 := cell_sa d5 b2
      have g6 := cell_sa d6 b2
      clear b2 d0 d1 d2 d3 d4 d5 d6 KA RG
      have hb := wr17 (wrap64 (wrap64 (cross - s) - f) - h)
      (try dsimp only)
      go_wp2_with (fail)
      go_quiet (first | (go_at_call 37; exact Calls.quiet_of_same (sfd_any _ _ _ hb.1 hb.2)) | fail)
      go_wp2
      go_ret
      exact ⟨ret_int (by unfold paA; rw [HK.out]; first | (simp [plA, saAu, frS]; done) | (simp [plA, saAu, frS]; intro h0; omega) | (simp [plA, saAu, frS]; omega)), B2.out.trans ((below_drawn _ _).mono B2.out.size)⟩
    by_cases h5 : l = 5
    · subst h5
      have HK := Lib.hid hk
      clear hk
      have bb := Go.Joins.below_alloc1 w (.cells #[.int .i64 s, .int .i64 f, .int .i64 h, .bool false, .bool false, .int .i64 5, .int .i64 b] 25)
      have h0 := hp_new w (.cells #[.int .i64 s, .int .i64 f, .int .i64 h, .bool false, .bool false, .int .i64 5, .int .i64 b] 25)
      obtain ⟨u, eu⟩ : ∃ u, u = w.alloc (.cells #[.int .i64 s, .int .i64 f, .int .i64 h, .bool false, .bool false, .int .i64 5, .int .i64 b] 25) := ⟨_, rfl⟩
      rw [← eu] at h0 bb
      have EU := Lib.hid eu
      clear eu
      have c0 : u.cell? ⟨w.heap.size, 0, none⟩ = some (.int .i64 s) := Go.Joins.cell_of_block h0 0
      have c1 : u.cell? ⟨w.heap.size, 1, none⟩ = some (.int .i64 f) := Go.Joins.cell_of_block h0 1
      have c2 : u.cell? ⟨w.heap.size, 2, none⟩ = some (.int .i64 h) := Go.Joins.cell_of_block h0 2
      have c3 : u.cell? ⟨w.heap.size, 3, none⟩ = some (.bool false) := Go.Joins.cell_of_block h0 3
      have c4 : u.cell? ⟨w.heap.size, 4, none⟩ = some (.bool false) := Go.Joins.cell_of_block h0 4
      have c5 : u.cell? ⟨w.heap.size, 5, none⟩ = some (.int .i64 5) := Go.Joins.cell_of_block h0 5
      have c6 : u.cell? ⟨w.heap.size, 6, none⟩ = some (.int .i64 b) := Go.Joins.cell_of_block h0 6
      have RG := Lib.hid (range_block h0 : u.rangeAt w.heap.size 0 (⟨s, f, h, false, false, 5, b⟩ : Sa).L)
      have BB := Lib.hid bb
      clear h0 bb
      have KO := Lib.hid (fun w => ssaok (⟨s, f, h, false, false, 5, b⟩ : Sa) w)
      rw [HK.out] at KO
      have ka := fun w => sauto17_raw s f h 5 b false false w
      simp only [Bool.or_true, Bool.true_or, Bool.or_self, Bool.or_false, Bool.false_or] at ka
      have KA := Lib.hid ka
      clear ka
      go_enter Try.func16, Try.ntmps16
      go_wp2_with (first | (rw [← EU.out]) | fail)
      refine (KO.out _).mono ?_
      rintro e w1 ⟨rfl, b1⟩
      have B1 := Lib.hid (BB.out.trans (b1.mono BB.out.size))
      have d0 := cell_sa c0 b1
      have d1 := cell_sa c1 b1
      have d2 := cell_sa c2 b1
      have d3 := cell_sa c3 b1
      have d4 := cell_sa c4 b1
      have d5 := cell_sa c5 b1
      have d6 := cell_sa c6 b1
      clear b1 c0 c1 c2 c3 c4 c5 c6 KO
      (try dsimp only)
      go_wp2_with (fail)
      refine (KA.out _).mono ?_
      rintro e w2 ⟨rfl, b2⟩
      have B2 := Lib.hid (B1.out.trans (b2.mono B1.out.size))
      have g0 := cell_sa d0 b2
      have g1 := cell_sa d1 b2
      have g2 := cell_sa d2 b2
      have g3 := cell_sa d3 b2
      have g4 := cell_sa d4 b2
      have g5 := cell_sa d5 b2
      have g6 := cell_sa d6 b2
      clear b2 d0 d1 d2 d3 d4 d5 d6 KA RG
      (try dsimp only)
      go_wp2
      go_ret
      exact ⟨ret_int (by unfold paA; rw [HK.out]; first | (simp [plA, saAu, frS]; done) | (simp [plA, saAu, frS]; intro h0; omega) | (simp [plA, saAu, frS]; omega)), B2.out⟩
    have n3 : (l == 3) = false := by simp [h3]
    have n4 : (l == 4) = false := by simp [h4]
    have n5 : (l == 5) = false := by simp [h5]
    have HK := Lib.hid hk
    clear hk
    have bb := Go.Joins.below_alloc1 w (.cells #[.int .i64 s, .int .i64 f, .int .i64 h, .bool false, .bool false, .int .i64 l, .int .i64 b] 25)
    have h0 := hp_new w (.cells #[.int .i64 s, .int .i64 f, .int .i64 h, .bool false, .bool false, .int .i64 l, .int .i64 b] 25)
    obtain ⟨u, eu⟩ : ∃ u, u = w.alloc (.cells #[.int .i64 s, .int .i64 f, .int .i64 h, .bool false, .bool false, .int .i64 l, .int .i64 b] 25) := ⟨_, rfl⟩
    rw [← eu] at h0 bb
    have EU := Lib.hid eu
    clear eu
    have c0 : u.cell? ⟨w.heap.size, 0, none⟩ = some (.int .i64 s) := Go.Joins.cell_of_block h0 0
    have c1 : u.cell? ⟨w.heap.size, 1, none⟩ = some (.int .i64 f) := Go.Joins.cell_of_block h0 1
    have c2 : u.cell? ⟨w.heap.size, 2, none⟩ = some (.int .i64 h) := Go.Joins.cell_of_block h0 2
    have c3 : u.cell? ⟨w.heap.size, 3, none⟩ = some (.bool false) := Go.Joins.cell_of_block h0 3
    have c4 : u.cell? ⟨w.heap.size, 4, none⟩ = some (.bool false) := Go.Joins.cell_of_block h0 4
    have c5 : u.cell? ⟨w.heap.size, 5, none⟩ = some (.int .i64 l) := Go.Joins.cell_of_block h0 5
    have c6 : u.cell? ⟨w.heap.size, 6, none⟩ = some (.int .i64 b) := Go.Joins.cell_of_block h0 6
    have RG := Lib.hid (range_block h0 : u.rangeAt w.heap.size 0 (⟨s, f, h, false, false, l, b⟩ : Sa).L)
    have BB := Lib.hid bb
    clear h0 bb
    have KO := Lib.hid (fun w => ssaok (⟨s, f, h, false, false, l, b⟩ : Sa) w)
    rw [HK.out] at KO
    have ka := fun w => sauto17_raw s f h l b false false w
    simp only [Bool.or_true, Bool.true_or, Bool.or_self, Bool.or_false, Bool.false_or] at ka
    have KA := Lib.hid ka
    clear ka
    go_enter Try.func16, Try.ntmps16
    go_wp2_with (first | (rw [← EU.out]) | fail)
    refine (KO.out _).mono ?_
    rintro e w1 ⟨rfl, b1⟩
    have B1 := Lib.hid (BB.out.trans (b1.mono BB.out.size))
    have d0 := cell_sa c0 b1
    have d1 := cell_sa c1 b1
    have d2 := cell_sa c2 b1
    have d3 := cell_sa c3 b1
    have d4 := cell_sa c4 b1
    have d5 := cell_sa c5 b1
    have d6 := cell_sa c6 b1
    clear b1 c0 c1 c2 c3 c4 c5 c6 KO
    (try dsimp only)
    go_wp2_with (fail)
    refine (KA.out _).mono ?_
    rintro e w2 ⟨rfl, b2⟩
    have B2 := Lib.hid (B1.out.trans (b2.mono B1.out.size))
    have g0 := cell_sa d0 b2
    have g1 := cell_sa d1 b2
    have g2 := cell_sa d2 b2
    have g3 := cell_sa d3 b2
    have g4 := cell_sa d4 b2
    have g5 := cell_sa d5 b2
    have g6 := cell_sa d6 b2
    clear b2 d0 d1 d2 d3 d4 d5 d6 KA RG
    (try dsimp only)
    go_wp2
    go_ret
    exact ⟨ret_int (by unfold paA; rw [HK.out]; first | (simp [plA, saAu, frS, h3, h4, h5]; done) | (simp [plA, saAu, frS, h3, h4, h5]; intro h0; omega) | (simp [plA, saAu, frS]; omega)), B2.out⟩
  by_cases hf : wrap64 (wrap64 (wrap64 (cross - s) - f) - h) ≤ 0
  · cases p
    · cases q
      · exact absurd rfl ha
      · clear ha
        have HK := Lib.hid hk
        clear hk
        have bb := Go.Joins.below_alloc1 w (.cells #[.int .i64 s, .int .i64 f, .int .i64 h, .bool false, .bool true, .int .i64 l, .int .i64 b] 25)
        have h0 := hp_new w (.cells #[.int .i64 s, .int .i64 f, .int .i64 h, .bool false, .bool true, .int .i64 l, .int .i64 b] 25)
        obtain ⟨u, eu⟩ : ∃ u, u = w.alloc (.cells #[.int .i64 s, .int .i64 f, .int .i64 h, .bool false, .bool true, .int .i64 l, .int .i64 b] 25) := ⟨_, rfl⟩
        rw [← eu] at h0 bb
        have EU := Lib.hid eu
        clear eu
        have c0 : u.cell? ⟨w.heap.size, 0, none⟩ = some (.int .i64 s) := Go.Joins.cell_of_block h0 0
        have c1 : u.cell? ⟨w.heap.size, 1, none⟩ = some (.int .i64 f) := Go.Joins.cell_of_block h0 1
        have c2 : u.cell? ⟨w.heap.size, 2, none⟩ = some (.int .i64 h) := Go.Joins.cell_of_block h0 2
        have c3 : u.cell? ⟨w.heap.size, 3, none⟩ = some (.bool false) := Go.Joins.cell_of_block h0 3
        have c4 : u.cell? ⟨w.heap.size, 4, none⟩ = some (.bool true) := Go.Joins.cell_of_block h0 4
        have c5 : u.cell? ⟨w.heap.size, 5, none⟩ = some (.int .i64 l) := Go.Joins.cell_of_block h0 5
        have c6 : u.cell? ⟨w.heap.size, 6, none⟩ = some (.int .i64 b) := Go.Joins.cell_of_block h0 6
        have RG := Lib.hid (range_block h0 : u.rangeAt w.heap.size 0 (⟨s, f, h, false, true, l, b⟩ : Sa).L)
        have BB := Lib.hid bb
        clear h0 bb
        have KO := Lib.hid (fun w => ssaok (⟨s, f, h, false, true, l, b⟩ : Sa) w)
        rw [HK.out] at KO
        have ka := fun w => sauto17_raw s f h l b false true w
        simp only [Bool.or_true, Bool.true_or, Bool.or_self, Bool.or_false, Bool.false_or] at ka
        have KA := Lib.hid ka
        clear ka
        go_enter Try.func16, Try.ntmps16
        go_wp2_with (first | (rw [← EU.out]) | fail)
        refine (KO.out _).mono ?_
        rintro e w1 ⟨rfl, b1⟩
        have B1 := Lib.hid (BB.out.trans (b1.mono BB.out.size))
        have d0 := cell_sa c0 b1
        have d1 := cell_sa c1 b1
        have d2 := cell_sa c2 b1
        have d3 := cell_sa c3 b1
        have d4 := cell_sa c4 b1
        have d5 := cell_sa c5 b1
        have d6 := cell_sa c6 b1
        clear b1 c0 c1 c2 c3 c4 c5 c6 KO
        (try dsimp only)
        go_wp2_with (fail)
        refine (KA.out _).mono ?_
        rintro e w2 ⟨rfl, b2⟩
        have B2 := Lib.hid (B1.out.trans (b2.mono B1.out.size))
        have g0 := cell_sa d0 b2
        have g1 := cell_sa d1 b2
        have g2 := cell_sa d2 b2
        have g3 := cell_sa d3 b2
        have g4 := cell_sa d4 b2
        have g5 := cell_sa d5 b2
        have g6 := cell_sa d6 b2
        clear b2 d0 d1 d2 d3 d4 d5 d6 KA RG
        (try dsimp only)
        go_wp2
        go_ret
        exact ⟨ret_int (by unfold paA; rw [HK.out]; first | (simp [plA, saAu, frS, hf]; done) | (simp [plA, saAu, frS, hf]; intro h0; omega) | (simp [plA, saAu, frS]; omega)), B2.out⟩
    · cases q
      · clear ha
        have HK := Lib.hid hk
        clear hk
        have bb := Go.Joins.below_alloc1 w (.cells #[.int .i64 s, .int .i64 f, .int .i64 h, .bool true, .bool false, .int .i64 l, .int .i64 b] 25)
        have h0 := hp_new w (.cells #[.int .i64 s, .int .i64 f, .int .i64 h, .bool true, .bool false, .int .i64 l, .int .i64 b] 25)
        obtain ⟨u, eu⟩ : ∃ u, u = w.alloc (.cells #[.int .i64 s, .int .i64 f, .int .i64 h, .bool true, .bool false, .int .i64 l, .int .i64 b] 25) := ⟨_, rfl⟩
        rw [← eu] at h0 bb
        have EU := Lib.hid eu
        clear eu
        have c0 : u.cell? ⟨w.heap.size, 0, none⟩ = some (.int .i64 s) := Go.Joins.cell_of_block h0 0
        have c1 : u.cell? ⟨w.heap.size, 1, none⟩ = some (.int .i64 f) := Go.Joins.cell_of_block h0 1
        have c2 : u.cell? ⟨w.heap.size, 2, none⟩ = some (.int .i64 h) := Go.Joins.cell_of_block h0 2
        have c3 : u.cell? ⟨w.heap.size, 3, none⟩ = some (.bool true) := Go.Joins.cell_of_block h0 3
        have c4 : u.cell? ⟨w.heap.size, 4, none⟩ = some (.bool false) := Go.Joins.cell_of_block h0 4
        have c5 : u.cell? ⟨w.heap.size, 5, none⟩ = some (.int .i64 l) := Go.Joins.cell_of_block h0 5
        have c6 : u.cell? ⟨w.heap.size, 6, none⟩ = some (.int .i64 b) := Go.Joins.cell_of_block h0 6
        have RG := Lib.hid (range_block h0 : u.rangeAt w.heap.size 0 (⟨s, f, h, true, false, l, b⟩ : Sa).L)
        have BB := Lib.hid bb
        clear h0 bb
        have KO := Lib.hid (fun w => ssaok (⟨s, f, h, true, false, l, b⟩ : Sa) w)
        rw [HK.out] at KO
        have ka := fun w => sauto17_raw s f h l b true false w
        simp only [Bool.or_true, Bool.true_or, Bool.or_self, Bool.or_false, Bool.false_or] at ka
        have KA := Lib.hid ka
        clear ka
        go_enter Try.func16, Try.ntmps16
        go_wp2_with (first | (rw [← EU.out]) | fail)
        refine (KO.out _).mono ?_
        rintro e w1 ⟨rfl, b1⟩
        have B1 := Lib.hid (BB.out.trans (b1.mono BB.out.size))
        have d0 := cell_sa c0 b1
        have d1 := cell_sa c1 b1
        have d2 := cell_sa c2 b1
        have d3 := cell_sa c3 b1
        have d4 := cell_sa c4 b1
        have d5 := cell_sa c5 b1
        have d6 := cell_sa c6 b1
        clear b1 c0 c1 c2 c3 c4 c5 c6 KO
        (try dsimp only)
        go_wp2_with (fail)
        refine (KA.out _).mono ?_
        rintro e w2 ⟨rfl, b2⟩
        have B2 := Lib.hid (B1.out.trans (b2.mono B1.out.size))
        have g0 := cell_sa d0 b2
        have g1 := cell_sa d1 b2
        have g2 := cell_sa d2 b2
        have g3 := cell_sa d3 b2
        have g4 := cell_sa d4 b2
        have g5 := cell_sa d5 b2
        have g6 := cell_sa d6 b2
        clear b2 d0 d1 d2 d3 d4 d5 d6 KA RG
        (try dsimp only)
        go_wp2
        go_ret
        exact ⟨ret_int (by unfold paA; rw [HK.out]; first | (simp [plA, saAu, frS, hf]; done) | (simp [plA, saAu, frS, hf]; intro h0; omega) | (simp [plA, saAu, frS]; omega)), B2.out⟩
      · clear ha
        have HK := Lib.hid hk
        clear hk
        have bb := Go.Joins.below_alloc1 w (.cells #[.int .i64 s, .int .i64 f, .int .i64 h, .bool true, .bool true, .int .i64 l, .int .i64 b] 25)
        have h0 := hp_new w (.cells #[.int .i64 s, .int .i64 f, .int .i64 h, .bool true, .bool true, .int .i64 l, .int .i64 b] 25)
        obtain ⟨u, eu⟩ : ∃ u, u = w.alloc (.cells #[.int .i64 s, .int .i64 f, .int .i64 h, .bool true, .bool true, .int .i64 l, .int .i64 b] 25) := ⟨_, rfl⟩
        rw [← eu] at h0 bb
        have EU := Lib.hid eu
        clear eu
        have c0 : u.cell? ⟨w.heap.size, 0, none⟩ = some (.int .i64 s) := Go.Joins.cell_of_block h0 0
        have c1 : u.cell? ⟨w.heap.size, 1, none⟩ = some (.int .i64 f) := Go.Joins.cell_of_block h0 1
        have c2 : u.cell? ⟨w.heap.size, 2, none⟩ = some (.int .i64 h) := Go.Joins.cell_of_block h0 2
        have c3 : u.cell? ⟨w.heap.size, 3, none⟩ = some (.bool true) := Go.Joins.cell_of_block h0 3
        have c4 : u.cell? ⟨w.heap.size, 4, none⟩ = some (.bool true) := Go.Joins.cell_of_block h0 4
        have c5 : u.cell? ⟨w.heap.size, 5, none⟩ = some (.int .i64 l) := Go.Joins.cell_of_block h0 5
        have c6 : u.cell? ⟨w.heap.size, 6, none⟩ = some (.int .i64 b) := Go.Joins.cell_of_block h0 6
        have RG := Lib.hid (range_block h0 : u.rangeAt w.heap.size 0 (⟨s, f, h, true, true, l, b⟩ : Sa).L)
        have BB := Lib.hid bb
        clear h0 bb
        have KO := Lib.hid (fun w => ssaok (⟨s, f, h, true, true, l, b⟩ : Sa) w)
        rw [HK.out] at KO
        have ka := fun w => sauto17_raw s f h l b true true w
        simp only [Bool.or_true, Bool.true_or, Bool.or_self, Bool.or_false, Bool.false_or] at ka
        have KA := Lib.hid ka
        clear ka
        go_enter Try.func16, Try.ntmps16
        go_wp2_with (first | (rw [← EU.out]) | fail)
        refine (KO.out _).mono ?_
        rintro e w1 ⟨rfl, b1⟩
        have B1 := Lib.hid (BB.out.trans (b1.mono BB.out.size))
        have d0 := cell_sa c0 b1
        have d1 := cell_sa c1 b1
        have d2 := cell_sa c2 b1
        have d3 := cell_sa c3 b1
        have d4 := cell_sa c4 b1
        have d5 := cell_sa c5 b1
        have d6 := cell_sa c6 b1
        clear b1 c0 c1 c2 c3 c4 c5 c6 KO
        (try dsimp only)
        go_wp2_with (fail)
        refine (KA.out _).mono ?_
        rintro e w2 ⟨rfl, b2⟩
        have B2 := Lib.hid (B1.out.trans (b2.mono B1.out.size))
        have g0 := cell_sa d0 b2
        have g1 := cell_sa d1 b2
        have g2 := cell_sa d2 b2
        have g3 := cell_sa d3 b2
        have g4 := cell_sa d4 b2
        have g5 := cell_sa d5 b2
        have g6 := cell_sa d6 b2
        clear b2 d0 d1 d2 d3 d4 d5 d6 KA RG
        (try dsimp only)
        go_wp2
        go_ret
        exact ⟨ret_int (by unfold paA; rw [HK.out]; first | (simp [plA, saAu, frS, hf]; done) | (simp [plA, saAu, frS, hf]; intro h0; omega) | (simp [plA, saAu, frS]; omega)), B2.out⟩
  · cases p
    · cases q
      · exact absurd rfl ha
      · clear ha
        have HK := Lib.hid hk
        clear hk
        have bb := Go.Joins.below_alloc1 w (.cells #[.int .i64 s, .int .i64 f, .int .i64 h, .bool false, .bool true, .int .i64 l, .int .i64 b] 25)
        have h0 := hp_new w (.cells #[.int .i64 s, .int .i64 f, .int .i64 h, .bool false, .bool true, .int .i64 l, .int .i64 b] 25)
        obtain ⟨u, eu⟩ : ∃ u, u = w.alloc (.cells #[.int .i64 s, .int .i64 f, .int .i64 h, .bool false, .bool true, .int .i64 l, .int .i64 b] 25) := ⟨_, rfl⟩
        rw [← eu] at h0 bb
        have EU := Lib.hid eu
        clear eu
        have c0 : u.cell? ⟨w.heap.size, 0, none⟩ = some (.int .i64 s) := Go.Joins.cell_of_block h0 0
        have c1 : u.cell? ⟨w.heap.size, 1, none⟩ = some (.int .i64 f) := Go.Joins.cell_of_block h0 1
        have c2 : u.cell? ⟨w.heap.size, 2, none⟩ = some (.int .i64 h) := Go.Joins.cell_of_block h0 2
        have c3 : u.cell? ⟨w.heap.size, 3, none⟩ = some (.bool false) := Go.Joins.cell_of_block h0 3
        have c4 : u.cell? ⟨w.heap.size, 4, none⟩ = some (.bool true) := Go.Joins.cell_of_block h0 4
        have c5 : u.cell? ⟨w.heap.size, 5, none⟩ = some (.int .i64 l) := Go.Joins.cell_of_block h0 5
        have c6 : u.cell? ⟨w.heap.size, 6, none⟩ = some (.int .i64 b) := Go.Joins.cell_of_block h0 6
        have RG := Lib.hid (range_block h0 : u.rangeAt w.heap.size 0 (⟨s, f, h, false, true, l, b⟩ : Sa).L)
        have BB := Lib.hid bb
        clear h0 bb
        have KO := Lib.hid (fun w => ssaok (⟨s, f, h, false, true, l, b⟩ : Sa) w)
        rw [HK.out] at KO
        have ka := fun w => sauto17_raw s f h l b false true w
        simp only [Bool.or_true, Bool.true_or, Bool.or_self, Bool.or_false, Bool.false_or] at ka
        have KA := Lib.hid ka
        clear ka
        go_enter Try.func16, Try.ntmps16
        go_wp2_with (first | (rw [← EU.out]) | fail)
        refine (KO.out _).mono ?_
        rintro e w1 ⟨rfl, b1⟩
        have B1 := Lib.hid (BB.out.trans (b1.mono BB.out.size))
        have d0 := cell_sa c0 b1
        have d1 := cell_sa c1 b1
        have d2 := cell_sa c2 b1
        have d3 := cell_sa c3 b1
        have d4 := cell_sa c4 b1
        have d5 := cell_sa c5 b1
        have d6 := cell_sa c6 b1
        clear b1 c0 c1 c2 c3 c4 c5 c6 KO
        (try dsimp only)
        go_wp2_with (fail)
        refine (KA.out _).mono ?_
        rintro e w2 ⟨rfl, b2⟩
        have B2 := Lib.hid (B1.out.trans (b2.mono B1.out.size))
        have g0 := cell_sa d0 b2
        have g1 := cell_sa d1 b2
        have g2 := cell_sa d2 b2
        have g3 := cell_sa d3 b2
        have g4 := cell_sa d4 b2
        have g5 := cell_sa d5 b2
        have g6 := cell_sa d6 b2
        clear b2 d0 d1 d2 d3 d4 d5 d6 KA RG
        (try dsimp only)
        go_wp2
        go_ret
        exact ⟨ret_int (by unfold paA; rw [HK.out]; first | (simp [plA, saAu, frS, hf]; done) | (simp [plA, saAu, frS, hf]; intro h0; omega) | (simp [plA, saAu, frS]; omega)), B2.out⟩
    · cases q
      · clear ha
        have HK := Lib.hid hk
        clear hk
        have bb := Go.Joins.below_alloc1 w (.cells #[.int .i64 s, .int .i64 f, .int .i64 h, .bool true, .bool false, .int .i64 l, .int .i64 b] 25)
        have h0 := hp_new w (.cells #[.int .i64 s, .int .i64 f, .int .i64 h, .bool true, .bool false, .int .i64 l, .int .i64 b] 25)
        obtain ⟨u, eu⟩ : ∃ u, u = w.alloc (.cells #[.int .i64 s, .int .i64 f, .int .i64 h, .bool true, .bool false, .int .i64 l, .int .i64 b] 25) := ⟨_, rfl⟩
        rw [← eu] at h0 bb
        have EU := Lib.hid eu
        clear eu
        have c0 : u.cell? ⟨w.heap.size, 0, none⟩ = some (.int .i64 s) := Go.Joins.cell_of_block h0 0
        have c1 : u.cell? ⟨w.heap.size, 1, none⟩ = some (.int .i64 f) := Go.Joins.cell_of_block h0 1
        have c2 : u.cell? ⟨w.heap.size, 2, none⟩ = some (.int .i64 h) := Go.Joins.cell_of_block h0 2
        have c3 : u.cell? ⟨w.heap.size, 3, none⟩ = some (.bool true) := Go.Joins.cell_of_block h0 3
        have c4 : u.cell? ⟨w.heap.size, 4, none⟩ = some (.bool false) := Go.Joins.cell_of_block h0 4
        have c5 : u.cell? ⟨w.heap.size, 5, none⟩ = some (.int .i64 l) := Go.Joins.cell_of_block h0 5
        have c6 : u.cell? ⟨w.heap.size, 6, none⟩ = some (.int .i64 b) := Go.Joins.cell_of_block h0 6
        have RG := Lib.hid (range_block h0 : u.rangeAt w.heap.size 0 (⟨s, f, h, true, false, l, b⟩ : Sa).L)
        have BB := Lib.hid bb
        clear h0 bb
        have KO := Lib.hid (fun w => ssaok (⟨s, f, h, true, false, l, b⟩ : Sa) w)
        rw [HK.out] at KO
        have ka := fun w => sauto17_raw s f h l b true false w
        simp only [Bool.or_true, Bool.true_or, Bool.or_self, Bool.or_false, Bool.false_or] at ka
        have KA := Lib.hid ka
        clear ka
        go_enter Try.func16, Try.ntmps16
        go_wp2_with (first | (rw [← EU.out]) | fail)
        refine (KO.out _).mono ?_
        rintro e w1 ⟨rfl, b1⟩
        have B1 := Lib.hid (BB.out.trans (b1.mono BB.out.size))
        have d0 := cell_sa c0 b1
        have d1 := cell_sa c1 b1
        have d2 := cell_sa c2 b1
        have d3 := cell_sa c3 b1
        have d4 := cell_sa c4 b1
        have d5 := cell_sa c5 b1
        have d6 := cell_sa c6 b1
        clear b1 c0 c1 c2 c3 c4 c5 c6 KO
        (try dsimp only)
        go_wp2_with (fail)
        refine (KA.out _).mono ?_
        rintro e w2 ⟨rfl, b2⟩
        have B2 := Lib.hid (B1.out.trans (b2.mono B1.out.size))
        have g0 := cell_sa d0 b2
        have g1 := cell_sa d1 b2
        have g2 := cell_sa d2 b2
        have g3 := cell_sa d3 b2
        have g4 := cell_sa d4 b2
        have g5 := cell_sa d5 b2
        have g6 := cell_sa d6 b2
        clear b2 d0 d1 d2 d3 d4 d5 d6 KA RG
        (try dsimp only)
        go_wp2
        go_ret
        exact ⟨ret_int (by unfold paA; rw [HK.out]; first | (simp [plA, saAu, frS, hf]; done) | (simp [plA, saAu, frS, hf]; intro h0; omega) | (simp [plA, saAu, frS]; omega)), B2.out⟩
      · clear ha
        have HK := Lib.hid hk
        clear hk
        have bb := Go.Joins.below_alloc1 w (.cells #[.int .i64 s, .int .i64 f, .int .i64 h, .bool true, .bool true, .int .i64 l, .int .i64 b] 25)
        have h0 := hp_new w (.cells #[.int .i64 s, .int .i64 f, .int .i64 h, .bool true, .bool true, .int .i64 l, .int .i64 b] 25)
        obtain ⟨u, eu⟩ : ∃ u, u = w.alloc (.cells #[.int .i64 s, .int .i64 f, .int .i64 h, .bool true, .bool true, .int .i64 l, .int .i64 b] 25) := ⟨_, rfl⟩
        rw [← eu] at h0 bb
        have EU := Lib.hid eu
        clear eu
        have c0 : u.cell? ⟨w.heap.size, 0, none⟩ = some (.int .i64 s) := Go.Joins.cell_of_block h0 0
        have c1 : u.cell? ⟨w.heap.size, 1, none⟩ = some (.int .i64 f) := Go.Joins.cell_of_block h0 1
        have c2 : u.cell? ⟨w.heap.size, 2, none⟩ = some (.int .i64 h) := Go.Joins.cell_of_block h0 2
        have c3 : u.cell? ⟨w.heap.size, 3, none⟩ = some (.bool true) := Go.Joins.cell_of_block h0 3
        have c4 : u.cell? ⟨w.heap.size, 4, none⟩ = some (.bool true) := Go.Joins.cell_of_block h0 4
        have c5 : u.cell? ⟨w.heap.size, 5, none⟩ = some (.int .i64 l) := Go.Joins.cell_of_block h0 5
        have c6 : u.cell? ⟨w.heap.size, 6, none⟩ = some (.int .i64 b) := Go.Joins.cell_of_block h0 6
        have RG := Lib.hid (range_block h0 : u.rangeAt w.heap.size 0 (⟨s, f, h, true, true, l, b⟩ : Sa).L)
        have BB := Lib.hid bb
        clear h0 bb
        have KO := Lib.hid (fun w => ssaok (⟨s, f, h, true, true, l, b⟩ : Sa) w)
        rw [HK.out] at KO
        have ka := fun w => sauto17_raw s f h l b true true w
        simp only [Bool.or_true, Bool.true_or, Bool.or_self, Bool.or_false, Bool.false_or] at ka
        have KA := Lib.hid ka
        clear ka
        go_enter Try.func16, Try.ntmps16
        go_wp2_with (first | (rw [← EU.out]) | fail)
        refine (KO.out _).mono ?_
        rintro e w1 ⟨rfl, b1⟩
        have B1 := Lib.hid (BB.out.trans (b1.mono BB.out.size))
        have d0 := cell_sa c0 b1
        have d1 := cell_sa c1 b1
        have d2 := cell_sa c2 b1
        have d3 := cell_sa c3 b1
        have d4 := cell_sa c4 b1
        have d5 := cell_sa c5 b1
        have d6 := cell_sa c6 b1
        clear b1 c0 c1 c2 c3 c4 c5 c6 KO
        (try dsimp only)
        go_wp2_with (fail)
        refine (KA.out _).mono ?_
        rintro e w2 ⟨rfl, b2⟩
        have B2 := Lib.hid (B1.out.trans (b2.mono B1.out.size))
        have g0 := cell_sa d0 b2
        have g1 := cell_sa d1 b2
        have g2 := cell_sa d2 b2
        have g3 := cell_sa d3 b2
        have g4 := cell_sa d4 b2
        have g5 := cell_sa d5 b2
        have g6 := cell_sa d6 b2
        clear b2 d0 d1 d2 d3 d4 d5 d6 KA RG
        have hb := wr17 (wrap64 (wrap64 (cross - s) - f) - h)
        (try dsimp only)
        go_wp2_with (fail)
        go_quiet (first | (go_at_call 37; exact Calls.quiet_of_same (sfd_any _ _ _ hb.1 hb.2)) | fail)
        go_wp2
        go_ret
        exact ⟨ret_int (by unfold paA; rw [HK.out]; first | (simp [plA, saAu, frS, hf]; done) | (simp [plA, saAu, frS, hf]; intro h0; omega) | (simp [plA, saAu, frS]; omega)), B2.out.trans ((below_drawn _ _).mono B2.out.size)⟩
theorem splaceacross (x : Sa) (cross base : Int) (w : World) :
    Calls Try.prog 16 #[.agg #[.int .i64 x.size, .int .i64 x.before, .int .i64 x.behind, .bool x.ab, .bool x.ah, .int .i64 x.al, .int .i64 x.base], .int .i64 cross, .int .i64 base] w fun e w' => e = .returned (.int .i64 (paA x cross base)) ∧ Below w.heap.size w w' := splaceacross_raw x.size x.before x.behind x.al x.base x.ab x.ah cross base w
end Go.Proofs.Ytdpibpelghnihaa

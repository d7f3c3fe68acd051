/-
  The contracts of GapOf (program and model). Conditions: none.
-/
import Derived.Test.YtjkdbaanknppbaaSty
import Derived.Test.YtjkdbaanknppbaaClamp
namespace Go.Proofs.Ytjkdbaanknppbaa
open Go.ChangeShapes Go.WideShapes Go.ChangeAt Go.RowKit

def gapV (f : Nat → Int) (b : Bool) : Int := if b then clI (f 59) else clI (f 58)
theorem sgap (f : Nat → Int) (b : Bool) (w : World) :
    Calls Try.prog 23 #[.agg (sCells f), .bool b] w fun e w' => e = .returned (.int .i64 (gapV f b)) ∧ Below w.heap.size w w' := by
  have h0 := hp_new w (.cells (sCells f) 31)
  have bb : Below w.heap.size w (w.alloc (.cells (sCells f) 31)) := Go.Joins.below_alloc1 ..
  obtain ⟨u, eu⟩ : ∃ u, u = w.alloc (.cells (sCells f) 31) := ⟨_, rfl⟩
  rw [← eu] at h0 bb
  have EU := Lib.hid eu
  clear eu
  have c58 := sty_int h0 58 (by decide)
  have c59 := sty_int h0 59 (by decide)
  cases b
  · go_enter Try.func23, Try.ntmps23
    go_wp2_with (rw [← EU.out])
    refine (sclamped (f 58) u).mono ?_
    rintro e w1 ⟨rfl, rfl⟩
    go_wp2
    go_ret
    exact ⟨rfl, bb⟩
  · go_enter Try.func23, Try.ntmps23
    go_wp2_with (rw [← EU.out])
    refine (sclamped (f 59) u).mono ?_
    rintro e w1 ⟨rfl, rfl⟩
    go_wp2
    go_ret
    exact ⟨rfl, bb⟩
theorem igap (f : Nat → Int) (b : Bool) (w : World) :
    Calls Try.prog 22 #[.agg (sCells f), .bool b] w fun e w' => e = .returned (.int .i64 (gapV f b)) ∧ Below w.heap.size w w' := by
  have h0 := hp_new w (.cells (sCells f) 31)
  have bb : Below w.heap.size w (w.alloc (.cells (sCells f) 31)) := Go.Joins.below_alloc1 ..
  obtain ⟨u, eu⟩ : ∃ u, u = w.alloc (.cells (sCells f) 31) := ⟨_, rfl⟩
  rw [← eu] at h0 bb
  have EU := Lib.hid eu
  clear eu
  have c58 := sty_int h0 58 (by decide)
  have c59 := sty_int h0 59 (by decide)
  cases b
  · go_enter Try.func22, Try.ntmps22
    go_wp2_with (rw [← EU.out])
    refine (iclamped (f 58) u).mono ?_
    rintro e w1 ⟨rfl, rfl⟩
    go_wp2
    go_ret
    exact ⟨rfl, bb⟩
  · go_enter Try.func22, Try.ntmps22
    go_wp2_with (rw [← EU.out])
    refine (iclamped (f 59) u).mono ?_
    rintro e w1 ⟨rfl, rfl⟩
    go_wp2
    go_ret
    exact ⟨rfl, bb⟩
end Go.Proofs.Ytjkdbaanknppbaa

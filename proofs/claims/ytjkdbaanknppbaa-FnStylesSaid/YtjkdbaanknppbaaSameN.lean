/-
  The contracts of SameStyle (program): the Bool of '=='. Conditions: the Bool that '==' of the two gives is known (XStyF: there is one).
-/
import Derived.Test.YtjkdbaanknppbaaStyW
import Derived.Test.YtjkdbaanknppbaaStyF
namespace Go.Proofs.Ytjkdbaanknppbaa
open Go.ChangeShapes Go.WideShapes Go.ChangeAt Go.RowKit
set_option linter.unusedSimpArgs false

theorem isameF (f g : Nat → Int) (b : Bool) (hb : ∀ w : World, (binOp .eql 31 (.agg (sCells f)) (.agg (sCells g))).run Try.prog w = .ok (.bool b) w) (w : World) :
    Calls Try.prog 24 #[.agg (sCells f), .agg (sCells g)] w fun e w' => e = .returned (.bool b) ∧ Below w.heap.size w w' := by
  have hA := hp_on (hp_new w (.cells (sCells f) 31)) (.cells (sCells g) 31)
  have hB := hp_new (w.alloc (.cells (sCells f) 31)) (.cells (sCells g) 31)
  have bb := Go.Joins.below_alloc2 w (.cells (sCells f) 31) (.cells (sCells g) 31)
  simp only [World.size_alloc] at hA hB
  obtain ⟨u, eu⟩ : ∃ u, u = (w.alloc (.cells (sCells f) 31)).alloc (.cells (sCells g) 31) := ⟨_, rfl⟩
  rw [← eu] at hA hB bb
  have EU := Lib.hid eu
  clear eu
  have q := guard_styF
  go_enter Try.func24, Try.ntmps24
  go_wp2_with (first | (rw [← EU.out]) | ((with_reducible apply list_load_sty); exact rfl; exact rfl; exact rfl; (with_reducible exact hA); simp only [World.size_alloc, Act.put, List.setIfInBounds_toArray, List.set_cons_succ, List.set_cons_zero]) | ((with_reducible apply list_load_sty); exact rfl; exact rfl; exact rfl; (with_reducible exact hB); simp only [World.size_alloc, Act.put, List.setIfInBounds_toArray, List.set_cons_succ, List.set_cons_zero]))
  go_ret
  exact ⟨rfl, bb⟩
end Go.Proofs.Ytjkdbaanknppbaa

/-
  The contract of spec.SizeOf. Conditions: none.
-/
import Derived.Test.YtpmfijaclncfhaaSlen
namespace Go.Proofs.Ytpmfijaclncfhaa
open Go.ChangeShapes Go.WideShapes Go.ChangeAt Go.RowKit

theorem ssizeof (k n b : Int) (w : World) :
    Calls Try.prog 48 #[.agg #[.int .i64 k, .int .i64 n], .int .i64 b] w fun e w' => e = .returned (.int .i64 (szV k n b)) ∧ Below w.heap.size w w' := by
  cases hk : knV k b
  · go_enter Try.func48, Try.ntmps48
    go_wp2_with (fail)
    refine (sknown k n b _).mono ?_
    rintro e w1 ⟨rfl, rfl⟩
    go_wp2
    go_ret
    exact ⟨ret_int (by simp [szV, hk]), Go.Joins.below_alloc2 ..⟩
  · go_enter Try.func48, Try.ntmps48
    go_wp2_with (fail)
    refine (sknown k n b _).mono ?_
    rintro e w1 ⟨rfl, rfl⟩
    go_wp2_with (fail)
    refine (slength k n b _).mono ?_
    rintro e w2 ⟨rfl, b2⟩
    go_wp2_with (fail)
    refine (sclamped _ _).mono ?_
    rintro e w3 ⟨rfl, rfl⟩
    go_wp2
    go_ret
    exact ⟨ret_int (by simp [szV, hk]), (Go.Joins.below_alloc2 ..).trans (b2.mono (by simp; omega))⟩
end Go.Proofs.Ytpmfijaclncfhaa

/-
  The contracts of the program's chapter 4: Known, LengthOf, SizeOf. Conditions: none.
-/
import Derived.Test.YtpmfijaclncfhaaIres
namespace Go.Proofs.Ytpmfijaclncfhaa
open Go.ChangeShapes Go.WideShapes Go.ChangeAt Go.RowKit



theorem isizeof (k n b : Int) (w : World) :
    Calls Try.prog 72 #[.agg #[.int .i64 k, .int .i64 n], .int .i64 b] w fun e w' => e = .returned (.int .i64 (szV k n b)) ∧ Below w.heap.size w w' := by
  cases hk : knV k b
  · go_enter Try.func72, Try.ntmps72
    go_wp2_with (fail)
    refine (ires k n b _).mono ?_
    rintro e w1 ⟨rfl, b1⟩
    go_wp2
    go_ret
    exact ⟨ret_int (by simp [szV, hk]), (Go.Joins.below_alloc1 ..).trans (b1.mono (by simp))⟩
  · go_enter Try.func72, Try.ntmps72
    go_wp2_with (fail)
    refine (ires k n b _).mono ?_
    rintro e w1 ⟨rfl, b1⟩
    go_wp2_with (fail)
    refine (iclamped _ _).mono ?_
    rintro e w2 ⟨rfl, rfl⟩
    go_wp2
    go_ret
    exact ⟨ret_int (by simp [szV, hk]), (Go.Joins.below_alloc1 ..).trans (b1.mono (by simp))⟩
end Go.Proofs.Ytpmfijaclncfhaa

/-
  The contract of impl.AutoSide. Conditions: none.
-/
import Derived.Test.YtafemgkkibjopaaSdI
import Derived.Test.YtafemgkkibjopaaFld
namespace Go.Proofs.Ytafemgkkibjopaa
open Go.ChangeShapes Go.WideShapes Go.ChangeAt Go.RowKit

theorem iaut (lk ln tk tn rk rn bk bn sk sn ek en side : Int) (rtl : Bool) (w : World) :
    Calls Try.prog 16 #[.agg #[.int .i64 lk, .int .i64 ln, .int .i64 tk, .int .i64 tn, .int .i64 rk, .int .i64 rn, .int .i64 bk, .int .i64 bn, .int .i64 sk, .int .i64 sn, .int .i64 ek, .int .i64 en], .int .i64 side, .bool rtl] w fun e w' => e = .returned (.bool ((sdK lk tk rk bk sk ek side rtl) == 3)) ∧ Below w.heap.size w w' := by
  have hs := isideof lk ln tk tn rk rn bk bn sk sn ek en side rtl
  generalize (sdK lk tk rk bk sk ek side rtl) = k at *
  generalize (sdN ln tn rn bn sk sn ek en side rtl) = n at *
  have hf := fldK k n
  go_enter Try.func16, Try.ntmps16
  go_wp2_with (fail)
  refine (hs _).mono ?_
  rintro e w1 ⟨rfl, b1⟩
  go_wp2
  go_ret
  exact ⟨rfl, (Go.Joins.below_alloc1 ..).trans (b1.mono (by simp))⟩
end Go.Proofs.Ytafemgkkibjopaa

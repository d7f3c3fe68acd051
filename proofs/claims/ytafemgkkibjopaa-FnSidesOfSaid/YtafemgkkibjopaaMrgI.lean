/-
  The contract of impl.MarginOf. Conditions: none.
-/
import Derived.Test.YtafemgkkibjopaaSdI
import Derived.Test.YtafemgkkibjopaaIres
import Derived.Test.YtafemgkkibjopaaMrgM
namespace Go.Proofs.Ytafemgkkibjopaa
open Go.ChangeShapes Go.WideShapes Go.ChangeAt Go.RowKit

theorem imrg (lk ln tk tn rk rn bk bn sk sn ek en side : Int) (rtl : Bool) (b : Int) (w : World) :
    Calls Try.prog 21 #[.agg #[.int .i64 lk, .int .i64 ln, .int .i64 tk, .int .i64 tn, .int .i64 rk, .int .i64 rn, .int .i64 bk, .int .i64 bn, .int .i64 sk, .int .i64 sn, .int .i64 ek, .int .i64 en], .int .i64 side, .bool rtl, .int .i64 b] w fun e w' => e = .returned (.int .i64 (mgV (sdK lk tk rk bk sk ek side rtl) (sdN ln tn rn bn sk sn ek en side rtl) b)) ∧ Below w.heap.size w w' := by
  have hs := isideof lk ln tk tn rk rn bk bn sk sn ek en side rtl
  generalize (sdK lk tk rk bk sk ek side rtl) = k at *
  generalize (sdN ln tn rn bn sk sn ek en side rtl) = n at *
  unfold mgV
  have hr := ires k n b
  cases hk : knV k b <;> rw [hk] at hr
  · go_enter Try.func21, Try.ntmps21
    go_wp2_with (fail)
    refine (hs _).mono ?_
    rintro e w1 ⟨rfl, b1⟩
    go_wp2_with (fail)
    refine (hr _).mono ?_
    rintro e w2 ⟨rfl, b2⟩
    have bb := (Go.Joins.below_alloc1 ..).trans ((b1.trans (b2.mono b1.size)).mono (by simp))
    go_wp2
    go_ret
    exact ⟨rfl, bb⟩
  · generalize lnV k n b = z at *
    go_enter Try.func21, Try.ntmps21
    go_wp2_with (fail)
    refine (hs _).mono ?_
    rintro e w1 ⟨rfl, b1⟩
    go_wp2_with (fail)
    refine (hr _).mono ?_
    rintro e w2 ⟨rfl, b2⟩
    have bb := (Go.Joins.below_alloc1 ..).trans ((b1.trans (b2.mono b1.size)).mono (by simp))
    go_wp2_with (fail)
    refine (iclamp_off z _).mono ?_
    rintro e w3 ⟨rfl, rfl⟩
    go_wp2
    go_ret
    exact ⟨rfl, bb⟩
end Go.Proofs.Ytafemgkkibjopaa

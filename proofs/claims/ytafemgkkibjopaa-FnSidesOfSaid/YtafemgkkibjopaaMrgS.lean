/-
  The contract of spec.MarginOf. Conditions: none.
-/
import Derived.Test.YtafemgkkibjopaaSdS
import Derived.Test.YtafemgkkibjopaaSlen
import Derived.Test.YtafemgkkibjopaaMrgM
namespace Go.Proofs.Ytafemgkkibjopaa
open Go.ChangeShapes Go.WideShapes Go.ChangeAt Go.RowKit

theorem smrg (lk ln tk tn rk rn bk bn sk sn ek en side : Int) (rtl : Bool) (b : Int) (w : World) :
    Calls Try.prog 22 #[.agg #[.int .i64 lk, .int .i64 ln, .int .i64 tk, .int .i64 tn, .int .i64 rk, .int .i64 rn, .int .i64 bk, .int .i64 bn, .int .i64 sk, .int .i64 sn, .int .i64 ek, .int .i64 en], .int .i64 side, .bool rtl, .int .i64 b] w fun e w' => e = .returned (.int .i64 (mgV (sdK lk tk rk bk sk ek side rtl) (sdN ln tn rn bn sk sn ek en side rtl) b)) ∧ Below w.heap.size w w' := by
  have hs := ssideof lk ln tk tn rk rn bk bn sk sn ek en side rtl
  generalize (sdK lk tk rk bk sk ek side rtl) = k at *
  generalize (sdN ln tn rn bn sk sn ek en side rtl) = n at *
  unfold mgV
  have hr := sknown k n b
  have hl := slength k n b
  generalize lnV k n b = z at *
  cases hk : knV k b <;> rw [hk] at hr
  · go_enter Try.func22, Try.ntmps22
    go_wp2_with (fail)
    refine (hs _).mono ?_
    rintro e w1 ⟨rfl, b1⟩
    have bb := (Go.Joins.below_alloc1 ..).trans (b1.mono (by simp))
    go_wp2_with (fail)
    refine (hr _).mono ?_
    rintro e w2 ⟨rfl, rfl⟩
    replace bb := (bb.alloc bb.size (.cells #[.int .i64 k, .int .i64 n] 25)).alloc (by have := bb.size; simp; omega) (.cells #[.int .i64 k, .int .i64 n] 25)
    go_wp2
    go_ret
    exact ⟨rfl, bb⟩
  · go_enter Try.func22, Try.ntmps22
    go_wp2_with (fail)
    refine (hs _).mono ?_
    rintro e w1 ⟨rfl, b1⟩
    have bb := (Go.Joins.below_alloc1 ..).trans (b1.mono (by simp))
    go_wp2_with (fail)
    refine (hr _).mono ?_
    rintro e w2 ⟨rfl, rfl⟩
    replace bb := (bb.alloc bb.size (.cells #[.int .i64 k, .int .i64 n] 25)).alloc (by have := bb.size; simp; omega) (.cells #[.int .i64 k, .int .i64 n] 25)
    go_wp2_with (fail)
    refine (hl _).mono ?_
    rintro e w3 ⟨rfl, b3⟩
    replace bb := bb.trans (b3.mono bb.size)
    go_wp2_with (fail)
    refine (slen z _).mono ?_
    rintro e w4 ⟨rfl, rfl⟩
    go_wp2
    go_ret
    exact ⟨rfl, bb⟩
end Go.Proofs.Ytafemgkkibjopaa

/-
  One chance of n (spec.l01Once): a bool; it turns nothing but its cursor. Conditions: those of the cursor.
-/
import Derived.Test.YtdpibpelghnihaaDraw
namespace Go.Proofs.Ytdpibpelghnihaa
open Go.ChangeShapes Go.WideShapes Go.ChangeAt Go.RowKit

/-- One chance of n (spec.l01Once). -/
def OncePost (cb : Nat) (a : Option Addr) (len cap : Nat) (w : World) (e : Ending) (w' : World) : Prop := ∃ t : Bool, e = .returned (.bool t) ∧ Cur cb a len cap w' ∧ w.grownBy w' (some cb)
theorem once_any (n : Int) (cb : Nat) (a : Option Addr) (len cap : Nat) (w : World) (h1 : 1 ≤ n) (h2 : n ≤ 1000000) (hc : Cur cb a len cap w) :
    Calls Try.prog 51 #[.pointer (some ⟨cb, 0, none⟩), .int .i64 n] w (OncePost cb a len cap w) := by
  go_enter Try.func51, Try.ntmps51
  go_wp2_with (fail)
  refine (below_pos n cb a len cap w (by omega) (by omega) hc).mono ?_
  rintro e w1 ⟨x, rfl, x0, x1, c1, g1, s1⟩
  have S1 := Lib.hid s1
  clear s1
  go_wp2
  go_ret
  exact ⟨_, rfl, c1, g1⟩
end Go.Proofs.Ytdpibpelghnihaa

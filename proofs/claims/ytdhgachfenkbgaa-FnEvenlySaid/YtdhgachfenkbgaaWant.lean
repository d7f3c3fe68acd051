/-
  The contracts of impl.Wanting and spec.Wanting: a number less the sum of clamped offsets, as an int wraps it. Conditions: at most 1048576 ints.
-/
import Derived.Test.YtdhgachfenkbgaaTot
namespace Go.Proofs.Ytdhgachfenkbgaa
open Go.ChangeShapes Go.WideShapes Go.ChangeAt Go.RowKit

theorem iwant_any (n : Int) (a : Option Addr) (len cap : Nat) (zs : List Int) (w : World) (hz : Ints w a len zs) (hl : len ≤ 1048576) :
    Calls Try.prog 56 #[.int .i64 n, .slice a len cap] w fun e w' => e = .returned (.int .i64 (wrap64 (n - totK zs len))) ∧ w' = w := by
  go_enter Try.func56, Try.ntmps56
  go_wp2_with (fail)
  refine (itot_any a len cap zs w hz hl).mono ?_
  rintro e w1 ⟨rfl, rfl⟩
  go_wp2
  go_ret
  exact ⟨rfl, rfl⟩
end Go.Proofs.Ytdhgachfenkbgaa

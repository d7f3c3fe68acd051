/-
  The length and the size of a value of kind k and number n on a base, as plain functions; their bounds. Conditions: none.
-/
import Derived.Test.YtfnnfjpbplbjmaaFd
import Derived.Test.YtfnnfjpbplbjmaaValM
namespace Go.Proofs.Ytfnnfjpbplbjmaa
open Go.ChangeShapes Go.WideShapes Go.ChangeAt Go.RowKit

def pcI (b n : Int) : Int := fdI (clI b * brI n (-1000000) 1000000) 100
def lnV (k n b : Int) : Int := if k = 1 then n else if k = 2 ∧ 0 ≤ b then pcI b n else -1
def szV (k n b : Int) : Int := if knV k b = true then clI (lnV k n b) else -1
theorem pc_in (b n : Int) : -1048576000000 ≤ clI b * brI n (-1000000) 1000000 ∧ clI b * brI n (-1000000) 1000000 ≤ 1048576000000 := by
  have h1 := clI_in b
  have h2 := @brI_in n (-1000000) 1000000 (by omega)
  generalize clI b = x at *
  generalize brI n (-1000000) 1000000 = y at *
  have h3 := Int.mul_le_mul_of_nonneg_left h2.1 h1.1
  have h4 := Int.mul_le_mul_of_nonneg_left h2.2 h1.1
  omega
end Go.Proofs.Ytfnnfjpbplbjmaa

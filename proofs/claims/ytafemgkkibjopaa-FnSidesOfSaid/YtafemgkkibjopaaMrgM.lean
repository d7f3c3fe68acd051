/-
  The margin that a value of kind k and number n is on a base. Conditions: none.
-/
import Derived.Test.YtafemgkkibjopaaLenM
import Derived.Test.YtafemgkkibjopaaSidM
namespace Go.Proofs.Ytafemgkkibjopaa
open Go.ChangeShapes Go.WideShapes Go.ChangeAt Go.RowKit

def mgV (k n b : Int) : Int := if knV k b = true then lenI (lnV k n b) else 0
end Go.Proofs.Ytafemgkkibjopaa

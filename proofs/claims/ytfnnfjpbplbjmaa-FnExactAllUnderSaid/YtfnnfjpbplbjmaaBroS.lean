/-
  The contract of spec.Brought: the number clamped to its range, the least winning. Conditions: none.
-/
import Derived.Test.YtfnnfjpbplbjmaaBro
namespace Go.Proofs.Ytfnnfjpbplbjmaa
open Go.ChangeShapes Go.WideShapes Go.ChangeAt Go.RowKit

end Go.Proofs.Ytfnnfjpbplbjmaa

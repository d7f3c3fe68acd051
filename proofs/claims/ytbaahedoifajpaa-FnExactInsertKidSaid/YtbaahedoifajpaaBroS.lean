/-
  The contract of spec.Brought: the number clamped to its range, the least winning. Conditions: none.
-/
import Derived.Test.YtbaahedoifajpaaBro
namespace Go.Proofs.Ytbaahedoifajpaa
open Go.ChangeShapes Go.WideShapes Go.ChangeAt Go.RowKit

end Go.Proofs.Ytbaahedoifajpaa

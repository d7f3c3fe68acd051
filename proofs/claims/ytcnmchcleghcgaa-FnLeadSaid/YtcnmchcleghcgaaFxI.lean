/-
  The contracts of the program's flexing: weightOf, isStuck, loosen. Conditions: the items are valid.
-/
import Derived.Test.YtcnmchcleghcgaaFxM
import Derived.BigQuiet
import Derived.BigRegion
import Derived.RegionTactic
import Derived.Lib.QuietBelow
import Derived.Deep.QuietTactic
import Derived.Deep.RegionWith
namespace Go.Proofs.Ytcnmchcleghcgaa
open Go.ChangeShapes Go.WideShapes Go.ChangeAt Go.RowKit
set_option linter.unusedVariables false
set_option linter.unusedSimpArgs false
set_option maxRecDepth 8000


end Go.Proofs.Ytcnmchcleghcgaa

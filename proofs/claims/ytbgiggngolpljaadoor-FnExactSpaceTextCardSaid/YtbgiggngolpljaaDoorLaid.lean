/-
  The listed tables of the library: what the row's list gives (the powers of ten), and a world in which they hold their numbers. Conditions: none.
-/
import Derived.Test.YtbgiggngolpljaaDoorIto
import Derived.Test.YtbgiggngolpljaaDoorCards
import Derived.Test.YtbgiggngolpljaaDoorTie
import Derived.Deep.DeepHandedRow
namespace Go.Proofs.YtbgiggngolpljaaDoor
open Go.ChangeShapes Go.WideShapes Go.ChangeAt Go.RowKit

/-- A table's datum as cells. -/
def datCells : DataW Unit → Array Value
  | .agg xs => (xs.map fun x => match x with | .lit (.int k z) => Value.int k z | _ => undef).toArray
  | _ => #[]
def putBlock (w : World) (g : Nat) (cs : Array Value) : World :=
  { w with heap := w.heap.modify g fun o => match o with | .cells _ t fz => .cells cs t fz | o => o }
noncomputable def laidWorld (os : Os) : World :=
  putBlock (putBlock (putBlock (World.holding Tryd.prog os ⟨#[], #[], []⟩) 0 (datCells Rows.laid_internal_strconv_uint64pow10)) 1 (datCells Rows.laid_math_bits_deBruijn32tab)) 2 (datCells Rows.laid_math_bits_deBruijn64tab)
end Go.Proofs.YtbgiggngolpljaaDoor

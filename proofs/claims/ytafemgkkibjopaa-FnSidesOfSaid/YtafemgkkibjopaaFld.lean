/-
  A value's kind, read off a value that a call has handed back. Conditions: none.
-/
import Derived.Test.YtafemgkkibjopaaKit
namespace Go.Proofs.Ytafemgkkibjopaa
open Go.ChangeShapes Go.WideShapes Go.ChangeAt Go.RowKit

theorem fldK (k n : Int) (w : World) : (Instr.field 25 (.agg #[.int .i64 k, .int .i64 n]) 0).run Try.prog w = .ok (.int .i64 k) w := by kernel_rfl
end Go.Proofs.Ytafemgkkibjopaa

import Derived.Test.YtnncdpkmhpjmbaaZmBI
section
namespace Go.Proofs.Ytnncdpkmhpjmbaa
open Go.ChangeShapes Go.WideShapes Go.ChangeAt Go.RowKit
set_option linter.unusedVariables false
set_option linter.unusedSimpArgs false
set_option maxRecDepth 8000

theorem sflexline (a : Option Addr) (cap : Nat) (xs : List It) (gap inner : Int) (w : World) (hz : Its w a xs) (hl : xs.length ≤ 1048576) :
    Calls Try.prog 70 #[.slice a xs.length cap, .int .i64 gap, .int .i64 inner] w (OutPost (fxV xs gap inner).1 w) := by
  have k := sflex a cap xs gap inner w hz hl
  go_enter Try.func70, Try.ntmps70
  go_wp2_with (fail)
  refine k.mono ?_
  rintro e w1 ⟨zv, rfl, r, b⟩
  have HR := Lib.hid r
  have HB := Lib.hid b
  clear k r b
  go_wp2
  go_ret
  exact ⟨zv, rfl, HR.out, HB.out⟩
end Go.Proofs.Ytnncdpkmhpjmbaa
end

import Derived.Test.YtnncdpkmhpjmbaaZnBC
import Derived.Test.YtnncdpkmhpjmbaaZnBN
import Derived.Test.YtnncdpkmhpjmbaaZnBO
section
namespace Go.Proofs.Ytnncdpkmhpjmbaa
open Go.ChangeShapes Go.WideShapes Go.ChangeAt Go.RowKit
set_option linter.unusedVariables false
set_option linter.unusedSimpArgs false
set_option maxRecDepth 20000

/-- An item's margins with their shares, as they are added. -/
theorem wx_before {xs : List It} {free : Int} {k : Nat} (h : k < xs.length) : (itD (wxV xs free) k).before = (itD xs k).before + (if (itD xs k).ab = true then (gvV xs free).getD (auN xs k) 0 else 0) := by unfold wxV; rw [wdL_at h]; rfl
theorem wx_behind {xs : List It} {free : Int} {k : Nat} (h : k < xs.length) : (itD (wxV xs free) k).behind = (itD xs k).behind + (if (itD xs k).ah = true then (gvV xs free).getD (au1 xs k) 0 else 0) := by unfold wxV; rw [wdL_at h]; rfl
end Go.Proofs.Ytnncdpkmhpjmbaa
end

/-
  The contracts of the program's flexing: space, violations, freeze, freezeViolating, freezeShared. Conditions: the items are valid.
-/
import Derived.Test.YtcnmchcleghcgaaFxI
import Derived.Test.YtcnmchcleghcgaaQtl
namespace Go.Proofs.Ytcnmchcleghcgaa
open Go.ChangeShapes Go.WideShapes Go.ChangeAt Go.RowKit
set_option linter.unusedVariables false
set_option linter.unusedSimpArgs false
set_option maxRecDepth 8000

theorem Fx.zs_all {f : Fx} {hs : List Bool} {zs : List Int} (hst : f.St hs zs) : AllI zs := allI_D hst.2.1 fun i hi => by
  have := (hst.2.2 i hi).1
  omega
theorem Fx.ws_all {f : Fx} {hs : List Bool} (hok : itsOk f.xs = true) : AllI (f.wL hs) := allI_D Fx.wL_len fun i hi => by
  rw [Fx.wL_at hi]
  have := Fx.wv_in (hs := hs) hok hi
  omega
theorem Fx.vs_all {f : Fx} {hs : List Bool} {zs : List Int} (hok : itsOk f.xs = true) (hst : f.St hs zs) : AllI (f.vL hs zs) := allI_D Fx.vL_len fun i hi => by
  rw [Fx.vL_at hi]
  have := Fx.vi_in hok hst hi
  omega

def ViRel (f : Fx) (hs : List Bool) (zs : List Int) (w : World) (i : Value) (wr : World) : Prop :=
  ∃ k : Nat, k ≤ f.xs.length ∧ i = .int .i64 k ∧ RowI w.heap.size (.slice (some ⟨w.heap.size, 0, none⟩) f.xs.length f.xs.length) ((f.vL hs zs).take k ++ (List.replicate f.xs.length 0).drop k) wr ∧ Below w.heap.size w wr
end Go.Proofs.Ytcnmchcleghcgaa

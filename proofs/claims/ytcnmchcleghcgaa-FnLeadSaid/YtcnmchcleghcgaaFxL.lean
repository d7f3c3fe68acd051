/-
  The contracts of the program's flexing: freezeShared, settle. Conditions: the items are valid.
-/
import Derived.Test.YtcnmchcleghcgaaFxK
namespace Go.Proofs.Ytcnmchcleghcgaa
open Go.ChangeShapes Go.WideShapes Go.ChangeAt Go.RowKit
set_option linter.unusedVariables false
set_option linter.unusedSimpArgs false
set_option maxRecDepth 8000

theorem Fx.wok {f : Fx} {hs : List Bool} (hok : itsOk f.xs = true) : wokI (f.wL hs) = true := decide_eq_true ⟨by rw [Fx.wL_len]; have := Fx.n12 hok; omega, by rw [Fx.wL_len]; exact Fx.wL_ok hok⟩
theorem Fx.sh_len {f : Fx} {hs : List Bool} {zs : List Int} (hok : itsOk f.xs = true) : (shrL (f.fr zs) (f.wL hs)).length = f.xs.length := (shrL_len (Fx.wok hok)).trans Fx.wL_len
theorem Fx.sh_at {f : Fx} {hs : List Bool} {zs : List Int} (hok : itsOk f.xs = true) {i : Nat} (hi : i < f.xs.length) : (shrL (f.fr zs) (f.wL hs)).getD i 0 = shrI (f.fr zs) (f.wL hs) i := by
  unfold shrL
  rw [if_pos (Fx.wok hok), rgD _ (by rw [Fx.wL_len]; exact hi), Fx.fr_id]
theorem Fx.sh_in {f : Fx} {hs : List Bool} {zs : List Int} (hok : itsOk f.xs = true) {i : Nat} (hi : i < f.xs.length) : -144115188075855872 ≤ (shrL (f.fr zs) (f.wL hs)).getD i 0 ∧ (shrL (f.fr zs) (f.wL hs)).getD i 0 ≤ 144115188075855872 := by
  rw [Fx.sh_at hok hi]
  obtain ⟨h64, h⟩ := wok_all (Fx.wok (hs := hs) hok)
  have h1 := pos_in (n := f.fr zs) h h64 (show i ≤ (f.wL hs).length by rw [Fx.wL_len]; omega)
  have h2 := pos_in (n := f.fr zs) h h64 (show i + 1 ≤ (f.wL hs).length by rw [Fx.wL_len]; omega)
  rw [Fx.fr_id] at h1 h2
  unfold shrI
  omega
end Go.Proofs.Ytcnmchcleghcgaa

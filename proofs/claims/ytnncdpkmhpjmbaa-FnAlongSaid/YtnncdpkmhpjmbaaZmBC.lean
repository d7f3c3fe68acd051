import Derived.BigQuiet
import Derived.BigRegion
import Derived.RegionTactic
import Derived.Lib.QuietBelow
import Derived.Deep.QuietTactic
import Derived.Deep.RegionWith
import Derived.Scope
import Derived.WalkMore
import Derived.ScopeJumps
import Derived.Test.YtnncdpkmhpjmbaaZmAP
import Derived.Test.YtnncdpkmhpjmbaaZmAU
import Derived.Test.YtnncdpkmhpjmbaaZmAY
import Derived.Test.YtnncdpkmhpjmbaaZmBB
section
namespace Go.Proofs.Ytnncdpkmhpjmbaa
open Go.ChangeShapes Go.WideShapes Go.ChangeAt Go.RowKit
set_option linter.unusedVariables false
set_option linter.unusedSimpArgs false
set_option maxRecDepth 8000

theorem kept_cell {w w' : World} {p : Addr} {v : Value} (h : w.cell? p = some v) (hb : Below w.heap.size w w') : w'.cell? p = some v := (hb.cell (World.block_lt_of_cell? w _ h)).trans h
namespace FxM
variable {w0 : World} {f : Fx} {a : Option Addr} {cap fb zb wb : Nat} {zs ws : List Int} {p : Nat} {w : World}
theorem put_row {w : World} {v : Value} {xs : List Int} {b g j : Nat} {u : Value} (h : RowI b v xs w) (hne : v.ownBlock = none ∨ v.ownBlock ≠ some g) : RowI b v xs (w.setCell ⟨g, j, none⟩ u) :=
  h.kept (row := some g) ⟨rfl, rfl, rfl, by simp [World.setCell], fun i hi hn => Below.heap_setCell w ⟨g, j, none⟩ u i (by rintro rfl; exact hn rfl)⟩ hne
end FxM
theorem getD_set {α : Type} (l : List α) (k i : Nat) (v d : α) : (l.set k v).getD i d = if i = k ∧ k < l.length then v else l.getD i d := by
  simp only [List.getD_eq_getElem?_getD, List.getElem?_set]
  by_cases e : k = i
  · subst e
    by_cases h : k < l.length
    · simp [h]
    · simp [h]
  · rw [if_neg e, if_neg (fun h => e h.1.symm)]
theorem eq_range {α : Type} {l : List α} {n : Nat} {g : Nat → α} {d : α} (hl : l.length = n) (h : ∀ i, i < n → l.getD i d = g i) : l = (List.range n).map g := by
  apply List.ext_getElem?
  intro i
  by_cases hi : i < n
  · have h1 := h i hi
    rw [List.getD_eq_getElem?_getD, List.getElem?_eq_getElem (by omega)] at h1
    rw [List.getElem?_eq_getElem (by omega), List.getElem?_map, List.getElem?_range hi]
    simpa using h1
  · rw [List.getElem?_eq_none (by omega), List.getElem?_eq_none (by simp; omega)]
theorem allI_D {l : List Int} {n : Nat} (hl : l.length = n) (h : ∀ i, i < n → -9223372036854775808 ≤ l.getD i 0 ∧ l.getD i 0 ≤ 9223372036854775807) : AllI l := by
  intro z hz
  obtain ⟨j, hj, e⟩ := List.getElem_of_mem hz
  have := h j (by omega)
  rw [List.getD_eq_getElem?_getD, List.getElem?_eq_getElem hj, e] at this
  exact this
end Go.Proofs.Ytnncdpkmhpjmbaa
end
section
namespace Go.Proofs.Ytnncdpkmhpjmbaa
open Go.ChangeShapes Go.WideShapes Go.ChangeAt Go.RowKit
set_option linter.unusedVariables false
set_option linter.unusedSimpArgs false
set_option maxRecDepth 8000

theorem Fx.zs_all {f : Fx} {hs : List Bool} {zs : List Int} (hst : f.St hs zs) : AllI zs := allI_D hst.2.1 fun i hi => by
  have := (hst.2.2 i hi).1
  omega
end Go.Proofs.Ytnncdpkmhpjmbaa
end
section
namespace Go.Proofs.Ytnncdpkmhpjmbaa
open Go.ChangeShapes Go.WideShapes Go.ChangeAt Go.RowKit
set_option linter.unusedVariables false
set_option linter.unusedSimpArgs false
set_option maxRecDepth 8000

theorem RowI.intsOf {b n cap : Nat} {a : Option Addr} {xs : List Int} {w : World} (h : RowI b (.slice a n cap) xs w) (hr : AllI xs) : n = xs.length ∧ Ints w a n xs := by
  obtain ⟨a', cap', e, hi⟩ := h.slice hr
  simp only [Value.slice.injEq] at e
  obtain ⟨rfl, rfl, rfl⟩ := e
  exact ⟨rfl, hi⟩
end Go.Proofs.Ytnncdpkmhpjmbaa
end
section
namespace Go.Proofs.Ytnncdpkmhpjmbaa
open Go.ChangeShapes Go.WideShapes Go.ChangeAt Go.RowKit
set_option linter.unusedVariables false
set_option linter.unusedSimpArgs false
set_option maxRecDepth 8000

theorem Fx.wok {f : Fx} {hs : List Bool} (hok : itsOk f.xs = true) : wokI (f.wL hs) = true := decide_eq_true ⟨by rw [Fx.wL_len]; have := Fx.n12 hok; omega, by rw [Fx.wL_len]; exact Fx.wL_ok hok⟩
theorem Fx.sh_at {f : Fx} {hs : List Bool} {zs : List Int} (hok : itsOk f.xs = true) {i : Nat} (hi : i < f.xs.length) : (shrL (f.fr zs) (f.wL hs)).getD i 0 = shrI (f.fr zs) (f.wL hs) i := by
  unfold shrL
  rw [if_pos (Fx.wok hok), rgD _ (by rw [Fx.wL_len]; exact hi), Fx.fr_id]
theorem Fx.sh_in {f : Fx} {hs : List Bool} {zs : List Int} (hok : itsOk f.xs = true) {i : Nat} (hi : i < f.xs.length) : -144115188075855872 ≤ (shrL (f.fr zs) (f.wL hs)).getD i 0 ∧ (shrL (f.fr zs) (f.wL hs)).getD i 0 ≤ 144115188075855872 := by
  rw [Fx.sh_at hok hi]
  obtain ⟨h64, h⟩ := wok_all (Fx.wok (hs := hs) hok)
  have h1 := pos_in (n := f.fr zs) h h64 (show i ≤ (f.wL hs).length by rw [Fx.wL_len]; omega)
  have h2 := pos_in (n := f.fr zs) h h64 (show i + 1 ≤ (f.wL hs).length by rw [Fx.wL_len]; omega)
  rw [Fx.fr_id] at h1 h2
  unfold shrI
  omega
end Go.Proofs.Ytnncdpkmhpjmbaa
end

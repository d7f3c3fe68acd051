import Derived.Test.YtopfiogmbnfjcaaZlAP
import Derived.Test.YtopfiogmbnfjcaaZlAU
import Derived.Test.YtopfiogmbnfjcaaZlAV
section
namespace Go.Proofs.Ytopfiogmbnfjcaa
open Go.ChangeShapes Go.WideShapes Go.ChangeAt Go.RowKit
set_option linter.unusedVariables false
set_option linter.unusedSimpArgs false
set_option maxRecDepth 8000

theorem kept_cell {w w' : World} {p : Addr} {v : Value} (h : w.cell? p = some v) (hb : Below w.heap.size w w') : w'.cell? p = some v := (hb.cell (World.block_lt_of_cell? w _ h)).trans h
def fxC (f : Fx) (a : Option Addr) (cap zb wb : Nat) (p : Nat) : Array Value := #[.slice a f.xs.length cap, .int .i64 f.gap, .int .i64 f.inner, .bool f.gr, .slice (some ⟨zb, 0, none⟩) f.xs.length f.xs.length, .slice (some ⟨wb, 0, none⟩) f.xs.length f.xs.length, .int .i64 p]
structure FxM (w0 : World) (f : Fx) (a : Option Addr) (cap fb zb wb : Nat) (zs ws : List Int) (p : Nat) (w : World) : Prop where
  its : Its w0 a f.xs
  hb : Below w0.heap.size w0 w
  blk : w.heap[fb]? = some (.cells (fxC f a cap zb wb p) 65)
  rz : RowI w0.heap.size (.slice (some ⟨zb, 0, none⟩) f.xs.length f.xs.length) zs w
  rw : RowI w0.heap.size (.slice (some ⟨wb, 0, none⟩) f.xs.length f.xs.length) ws w
  lz : zs.length = f.xs.length
  lw : ws.length = f.xs.length
  lf : w0.heap.size ≤ fb
  n1 : fb ≠ zb
  n2 : fb ≠ wb
  n3 : zb ≠ wb
namespace FxM
variable {w0 : World} {f : Fx} {a : Option Addr} {cap fb zb wb : Nat} {zs ws : List Int} {p : Nat} {w : World}
theorem below {w' : World} (M : FxM w0 f a cap fb zb wb zs ws p w) (b : Below w.heap.size w w') : FxM w0 f a cap fb zb wb zs ws p w' :=
  ⟨M.its, M.hb.trans (b.mono M.hb.size), hp_below M.blk b, M.rz.below b, M.rw.below b, M.lz, M.lw, M.lf, M.n1, M.n2, M.n3⟩
theorem itsN (M : FxM w0 f a cap fb zb wb zs ws p w) : Its w a f.xs := M.its.below M.hb
theorem cells (M : FxM w0 f a cap fb zb wb zs ws p w) : w.cell? ⟨fb, 0, none⟩ = some (.slice a f.xs.length cap) ∧ w.cell? ⟨fb, 1, none⟩ = some (.int .i64 f.gap) ∧ w.cell? ⟨fb, 2, none⟩ = some (.int .i64 f.inner) ∧ w.cell? ⟨fb, 3, none⟩ = some (.bool f.gr) ∧
    w.cell? ⟨fb, 4, none⟩ = some (.slice (some ⟨zb, 0, none⟩) f.xs.length f.xs.length) ∧ w.cell? ⟨fb, 5, none⟩ = some (.slice (some ⟨wb, 0, none⟩) f.xs.length f.xs.length) ∧ w.cell? ⟨fb, 6, none⟩ = some (.int .i64 p) :=
  ⟨Go.Joins.cell_of_block M.blk 0, Go.Joins.cell_of_block M.blk 1, Go.Joins.cell_of_block M.blk 2, Go.Joins.cell_of_block M.blk 3, Go.Joins.cell_of_block M.blk 4, Go.Joins.cell_of_block M.blk 5, Go.Joins.cell_of_block M.blk 6⟩
theorem zlt (M : FxM w0 f a cap fb zb wb zs ws p w) : w0.heap.size ≤ zb ∧ zb < w.heap.size := World.ownsRow.lt M.rz zb rfl
theorem wlt (M : FxM w0 f a cap fb zb wb zs ws p w) : w0.heap.size ≤ wb ∧ wb < w.heap.size := World.ownsRow.lt M.rw wb rfl
theorem zat (M : FxM w0 f a cap fb zb wb zs ws p w) {k : Nat} (hk : k < f.xs.length) : w.cell? ⟨zb, k, none⟩ = some (.int .i64 (zs.getD k 0)) := M.rz.cell M.lz hk
theorem wat (M : FxM w0 f a cap fb zb wb zs ws p w) {k : Nat} (hk : k < f.xs.length) : w.cell? ⟨wb, k, none⟩ = some (.int .i64 (ws.getD k 0)) := M.rw.cell M.lw hk
theorem put_row {w : World} {v : Value} {xs : List Int} {b g j : Nat} {u : Value} (h : RowI b v xs w) (hne : v.ownBlock = none ∨ v.ownBlock ≠ some g) : RowI b v xs (w.setCell ⟨g, j, none⟩ u) :=
  h.kept (row := some g) ⟨rfl, rfl, rfl, by simp [World.setCell], fun i hi hn => Below.heap_setCell w ⟨g, j, none⟩ u i (by rintro rfl; exact hn rfl)⟩ hne
theorem putZ (M : FxM w0 f a cap fb zb wb zs ws p w) {k : Nat} (hk : k < f.xs.length) (x : Int) :
    (∃ q, w.cell? ⟨zb, k, none⟩ = some q) ∧ w.frozen? ⟨zb, k, none⟩ = false ∧ FxM w0 f a cap fb zb wb (zs.set k x) ws p (w.setCell ⟨zb, k, none⟩ (.int .i64 x)) := by
  obtain ⟨h1, h2, h3⟩ := M.rz.put M.lz hk x
  exact ⟨h1, h2, M.its, bl_set M.hb k M.zlt.1 _, hp_set M.blk M.n1 k _, h3, put_row M.rw (Or.inr fun e => by injection e with e; exact M.n3 e.symm), by rw [List.length_set]; exact M.lz, M.lw, M.lf, M.n1, M.n2, M.n3⟩
theorem putW (M : FxM w0 f a cap fb zb wb zs ws p w) {k : Nat} (hk : k < f.xs.length) (x : Int) :
    (∃ q, w.cell? ⟨wb, k, none⟩ = some q) ∧ w.frozen? ⟨wb, k, none⟩ = false ∧ FxM w0 f a cap fb zb wb zs (ws.set k x) p (w.setCell ⟨wb, k, none⟩ (.int .i64 x)) := by
  obtain ⟨h1, h2, h3⟩ := M.rw.put M.lw hk x
  exact ⟨h1, h2, M.its, bl_set M.hb k M.wlt.1 _, hp_set M.blk M.n2 k _, put_row M.rz (Or.inr fun e => by injection e with e; exact M.n3 e), h3, M.lz, by rw [List.length_set]; exact M.lw, M.lf, M.n1, M.n2, M.n3⟩
theorem putP (M : FxM w0 f a cap fb zb wb zs ws p w) : w.frozen? ⟨fb, 6, none⟩ = false ∧ FxM w0 f a cap fb zb wb zs ws (p + 1) (w.setCell ⟨fb, 6, none⟩ (.int .i64 ((p + 1 : Nat) : Int))) :=
  ⟨Go.Joins.unfrozen_of_block M.blk 6, M.its, bl_set M.hb 6 M.lf _, Go.Joins.block_setCell M.blk _, put_row M.rz (Or.inr fun e => by injection e with e; exact M.n1 e.symm), put_row M.rw (Or.inr fun e => by injection e with e; exact M.n2 e.symm), M.lz, M.lw, M.lf, M.n1, M.n2, M.n3⟩
theorem ints_z (M : FxM w0 f a cap fb zb wb zs ws p w) (h : AllI zs) : Ints w (some ⟨zb, 0, none⟩) f.xs.length zs := M.rz.ints M.lz h
theorem ints_w (M : FxM w0 f a cap fb zb wb zs ws p w) (h : AllI ws) : Ints w (some ⟨wb, 0, none⟩) f.xs.length ws := M.rw.ints M.lw h
end FxM
theorem if_next {α : Type} {i k : Nat} {P : Prop} [Decidable P] (h : i ≠ k) (x y : α) : (if i < k + 1 ∧ P then x else y) = if i < k ∧ P then x else y := by
  by_cases h1 : i < k
  · by_cases h2 : P
    · rw [if_pos ⟨by omega, h2⟩, if_pos ⟨h1, h2⟩]
    · rw [if_neg (fun h => h2 h.2), if_neg (fun h => h2 h.2)]
  · rw [if_neg (fun h => by have := h.1; omega), if_neg (fun h => h1 h.1)]
theorem getD_set {α : Type} (l : List α) (k i : Nat) (v d : α) : (l.set k v).getD i d = if i = k ∧ k < l.length then v else l.getD i d := by
  simp only [List.getD_eq_getElem?_getD, List.getElem?_set]
  by_cases e : k = i
  · subst e
    by_cases h : k < l.length
    · simp [h]
    · simp [h]
  · rw [if_neg e, if_neg (fun h => e h.1.symm)]
theorem eq_range {α : Type} {l : List α} {n : Nat} {g : Nat → α} {d : α} (hl : l.length = n) (h : ∀ i, i < n → l.getD i d = g i) : l = (List.range n).map g := by
  apply List.ext_getElem?
  intro i
  by_cases hi : i < n
  · have h1 := h i hi
    rw [List.getD_eq_getElem?_getD, List.getElem?_eq_getElem (by omega)] at h1
    rw [List.getElem?_eq_getElem (by omega), List.getElem?_map, List.getElem?_range hi]
    simpa using h1
  · rw [List.getElem?_eq_none (by omega), List.getElem?_eq_none (by simp; omega)]
theorem allI_D {l : List Int} {n : Nat} (hl : l.length = n) (h : ∀ i, i < n → -9223372036854775808 ≤ l.getD i 0 ∧ l.getD i 0 ≤ 9223372036854775807) : AllI l := by
  intro z hz
  obtain ⟨j, hj, e⟩ := List.getElem_of_mem hz
  have := h j (by omega)
  rw [List.getD_eq_getElem?_getD, List.getElem?_eq_getElem hj, e] at this
  exact this
end Go.Proofs.Ytopfiogmbnfjcaa
end

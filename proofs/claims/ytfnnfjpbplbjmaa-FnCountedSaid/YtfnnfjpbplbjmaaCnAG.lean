import Derived.Deep.Slices
import Derived.Deep.MidRow
import Derived.OwnWalk
import Derived.Deep.QuietTactic
import Derived.BigQuiet
import Derived.Lib.QuietBelow
import Derived.Test.YtfnnfjpbplbjmaaCnAA
import Derived.Test.YtfnnfjpbplbjmaaCnAF
section
namespace Go.Proofs.Ytfnnfjpbplbjmaa
open Go.ChangeShapes Go.WideShapes Go.ChangeAt Go.RowKit
set_option maxRecDepth 8000

/-- len rules lie at a: their ints are zs. -/
def Rls (w : World) (a : Option Addr) (len : Nat) (zs : List Int) : Prop :=
  zs.length = len * 3 ∧ AllI zs ∧
  (len = 0 ∨ ∃ b off, a = some ⟨b, off, none⟩ ∧ b < w.heap.size ∧ ∀ i, i < len * 3 → w.cell? ⟨b, off + i, none⟩ = some (.int .i64 (zs.getD i 0)))
/-- A row of rules of one's own. -/
def RowR (base : Nat) (v : Value) (len : Nat) (zs : List Int) (w : World) : Prop := w.ownsRow base 137 3 v len (zs.map (Value.int .i64))

theorem Rls.below {w w' : World} {a : Option Addr} {len : Nat} {zs : List Int} (h : Rls w a len zs) (hb : Below w.heap.size w w') : Rls w' a len zs := by
  refine ⟨h.1, h.2.1, ?_⟩
  rcases h.2.2 with h0 | ⟨b, off, ha, hlt, hc⟩
  · exact Or.inl h0
  · exact Or.inr ⟨b, off, ha, Nat.lt_of_lt_of_le hlt hb.size, fun i hi => (hb.cell (p := ⟨b, off + i, none⟩) hlt).trans (hc i hi)⟩
theorem Rls.look {w : World} {a : Option Addr} {len : Nat} {zs : List Int} (h : Rls w a len zs) {k : Nat} (hk : k < len) :
    ∃ b off, a = some ⟨b, off, none⟩ ∧ b < w.heap.size ∧ w.cell? ⟨b, off + k * 3, none⟩ = some (.int .i64 (zs.getD (k * 3) 0)) ∧ w.cell? ⟨b, off + k * 3 + 1, none⟩ = some (.int .i64 (zs.getD (k * 3 + 1) 0)) ∧ w.cell? ⟨b, off + k * 3 + 2, none⟩ = some (.int .i64 (zs.getD (k * 3 + 2) 0)) := by
  rcases h.2.2 with h0 | ⟨b, off, ha, hb, hc⟩
  · omega
  · exact ⟨b, off, ha, hb, hc _ (by omega), by rw [Nat.add_assoc]; exact hc _ (by omega), by rw [Nat.add_assoc]; exact hc _ (by omega)⟩
theorem RowR.size {base len : Nat} {v : Value} {zs : List Int} {w : World} (h : RowR base v len zs w) : zs.length = len * 3 := by simpa using h.1
theorem RowR.rls {base g len cap : Nat} {zs : List Int} {w : World} (h : RowR base (.slice (some ⟨g, 0, none⟩) len cap) len zs w) (hr : AllI zs) : Rls w (some ⟨g, 0, none⟩) len zs := by
  refine ⟨h.size, hr, Or.inr ⟨g, 0, rfl, (World.ownsRow.lt h g rfl).2, fun j hj => ?_⟩⟩
  have hs := h.size
  rw [Nat.zero_add, World.ownsRow.cellAt h j hj]
  simp [show j < zs.length by omega]
theorem RowR.slice {base len : Nat} {v : Value} {zs : List Int} {w : World} (h : RowR base v len zs w) (hr : AllI zs) : ∃ a cap, v = .slice a len cap ∧ Rls w a len zs := by
  rcases h.2 with ⟨h1, h2⟩ | ⟨g, cap, cur, h1, _⟩
  · exact ⟨none, 0, by rw [h1, h2], h.size, hr, Or.inl h2⟩
  · subst h1
    exact ⟨_, cap, rfl, h.rls hr⟩
theorem RowR.kept {b len : Nat} {v : Value} {zs : List Int} {w w' : World} {row : Option Nat} (h : RowR b v len zs w) (hg : w.grownBy w' row) (hne : v.ownBlock = none ∨ v.ownBlock ≠ row) : RowR b v len zs w' := World.ownsRow.kept h hg hne
theorem RowR.below {b len : Nat} {v : Value} {zs : List Int} {w w' : World} (h : RowR b v len zs w) (hb : Below w.heap.size w w') : RowR b v len zs w' :=
  World.ownsRow.kept h ⟨hb.os, hb.tape, hb.output, hb.size, fun k hk _ => hb.block k hk⟩ (by cases v.ownBlock <;> simp : v.ownBlock = none ∨ v.ownBlock ≠ none)
theorem RowR.lower {b b' len : Nat} {v : Value} {zs : List Int} {w : World} (h : RowR b v len zs w) (hb : b' ≤ b) : RowR b' v len zs w := by
  refine ⟨h.1, ?_⟩
  rcases h.2 with h0 | ⟨g, cap, cur, h1, h2, h3⟩
  · exact Or.inl h0
  · exact Or.inr ⟨g, cap, cur, h1, Nat.le_trans hb h2, h3⟩

end Go.Proofs.Ytfnnfjpbplbjmaa
end
section
namespace Go.Proofs.Ytfnnfjpbplbjmaa
open Go.ChangeShapes Go.WideShapes Go.ChangeAt Go.RowKit
set_option linter.unusedVariables false

theorem info_rule : (Try.prog.info? 137).map (fun i => (i.zero, i.size, i.bytes)) = some (some (.agg #[.int .i64 0, .int .i64 0, .int .i64 0]), 3, 24) := by kernel_rfl
theorem RowR.there {base g n cap : Nat} {zs : List Int} {w : World} (h : RowR base (.slice (some ⟨g, 0, none⟩) n cap) n zs w) (j : Nat) (hj : j < n * 3) : (∃ x, w.cell? ⟨g, j, none⟩ = some x) ∧ w.frozen? ⟨g, j, none⟩ = false := by
  have hs := h.size
  refine ⟨?_, World.ownsRow.frozenAt h j⟩
  rw [World.ownsRow.cellAt h j hj]
  exact ⟨_, List.getElem?_eq_getElem (by simp; omega)⟩

theorem below_three (w : World) (o p q : Obj) : Below w.heap.size w (((w.alloc o).alloc p).alloc q) := Go.Joins.below_alloc3 w o p q
end Go.Proofs.Ytfnnfjpbplbjmaa
end
section
namespace Go.Proofs.Ytfnnfjpbplbjmaa
open Go.ChangeShapes Go.WideShapes Go.ChangeAt Go.RowKit

/-- Rule k is valid. -/
def rokB (zs : List Int) (k : Nat) : Bool := decide (-1 ≤ zs.getD (k * 3) 0 ∧ zs.getD (k * 3) 0 ≤ 1048576) && decide (0 ≤ zs.getD (k * 3 + 1) 0 ∧ zs.getD (k * 3 + 1) 0 ≤ 1048576) && decide (0 ≤ zs.getD (k * 3 + 2) 0 ∧ zs.getD (k * 3 + 2) 0 ≤ 1048576)
def tokB (zs : List Int) (len : Nat) : Bool := decide (1 ≤ len ∧ len ≤ 6) && (List.range len).all (rokB zs)
theorem tok_len {zs : List Int} {len : Nat} (h : ¬ (1 ≤ len ∧ len ≤ 6)) : tokB zs len = false := by unfold tokB; rw [decide_eq_false h]; rfl
theorem tok_bad {zs : List Int} {len k : Nat} (hk : k < len) (h : rokB zs k = false) : tokB zs len = false := by
  unfold tokB
  rw [show (List.range len).all (rokB zs) = false by rw [List.all_eq_false]; exact ⟨k, List.mem_range.2 hk, by simp [h]⟩]
  simp
theorem tok_all {zs : List Int} {len : Nat} (h : ∀ j, j < len → rokB zs j = true) : tokB zs len = decide (1 ≤ len ∧ len ≤ 6) := by
  unfold tokB
  rw [show (List.range len).all (rokB zs) = true by rw [List.all_eq_true]; intro j hj; exact h j (List.mem_range.1 hj)]
  simp
theorem rok_succ {zs : List Int} {k : Nat} (h : ∀ j, j < k → rokB zs j = true) (h1 : rokB zs k = true) : ∀ j, j < k + 1 → rokB zs j = true := by
  intro j hj
  by_cases h3 : j < k
  · exact h j h3
  · obtain rfl : j = k := by omega
    exact h1
end Go.Proofs.Ytfnnfjpbplbjmaa
end
section
namespace Go.Proofs.Ytfnnfjpbplbjmaa
open Go.ChangeShapes Go.WideShapes Go.ChangeAt Go.RowKit
set_option linter.unusedVariables false

theorem RowR.put {base g n cap : Nat} {zs : List Int} {w : World} (h : RowR base (.slice (some ⟨g, 0, none⟩) n cap) n zs w) (j : Nat) (x : Int) : RowR base (.slice (some ⟨g, 0, none⟩) n cap) n (zs.set j x) (w.setCell ⟨g, j, none⟩ (.int .i64 x)) := by
  have := (World.ownsRow.stored h j (.int .i64 x)).1
  rw [← List.map_set] at this
  exact this
theorem gr_set {a b : World} {g j : Nat} {u : Value} (h : a.grownBy b (some g)) : a.grownBy (b.setCell ⟨g, j, none⟩ u) (some g) :=
  ⟨h.os, h.tape, h.output, by simpa [World.setCell] using h.size, fun i hi hne => (Below.heap_setCell b ⟨g, j, none⟩ u i (by rintro rfl; exact hne rfl)).trans (h.block i hi hne)⟩
theorem gr_tr {a b c : World} {row : Option Nat} (h : a.grownBy b row) (k : b.grownBy c row) : a.grownBy c row :=
  ⟨k.os.trans h.os, k.tape.trans h.tape, k.output.trans h.output, Nat.le_trans h.size k.size, fun i hi hne => (k.block i (Nat.lt_of_lt_of_le hi h.size) hne).trans (h.block i hi hne)⟩
end Go.Proofs.Ytfnnfjpbplbjmaa
end

import Derived.Laws.OwnMore
import Derived.OwnWalk
import Derived.Test.YtnncdpkmhpjmbaaZnAA
import Derived.Test.YtnncdpkmhpjmbaaZnAE
import Derived.Test.YtnncdpkmhpjmbaaZnAJ
section
namespace Go.Proofs.Ytnncdpkmhpjmbaa
open Go.ChangeShapes Go.WideShapes Go.ChangeAt Go.RowKit
set_option maxRecDepth 8000

theorem RowI.put {base g n cap k : Nat} {xs : List Int} {w : World} (h : RowI base (.slice (some ⟨g, 0, none⟩) n cap) xs w) (hn : xs.length = n) (hk : k < n) (x : Int) :
    (∃ q, w.cell? ⟨g, k, none⟩ = some q) ∧ w.frozen? ⟨g, k, none⟩ = false ∧ RowI base (.slice (some ⟨g, 0, none⟩) n cap) (xs.set k x) (w.setCell ⟨g, k, none⟩ (.int .i64 x)) := by
  have h' : w.ownsRow base 3 1 (.slice (some ⟨g, 0, none⟩) n cap) n (xs.map (Value.int .i64)) := by
    have h0 := h; unfold RowI at h0; rwa [hn] at h0
  refine ⟨?_, h'.frozenAt k, ?_⟩
  · rw [h'.cellAt k (by omega)]
    exact ⟨_, List.getElem?_eq_getElem (by rw [List.length_map]; omega)⟩
  · have := (h'.stored k (.int .i64 x)).1
    rw [← List.map_set] at this
    unfold RowI
    rw [List.length_set, hn]
    exact this
theorem RowI.cell {base g n cap k : Nat} {xs : List Int} {w : World} (h : RowI base (.slice (some ⟨g, 0, none⟩) n cap) xs w) (hn : xs.length = n) (hk : k < n) : w.cell? ⟨g, k, none⟩ = some (.int .i64 (xs.getD k 0)) := by
  have h' : w.ownsRow base 3 1 (.slice (some ⟨g, 0, none⟩) n cap) n (xs.map (Value.int .i64)) := by
    have h0 := h; unfold RowI at h0; rwa [hn] at h0
  rw [h'.cellAt k (by omega)]
  simp [List.getD, show k < xs.length by omega]
theorem info_intP : (Try.prog.info? 3).map (fun i => (i.zero, i.size, i.bytes)) = some (some (.int .i64 0), 1, 8) := by kernel_rfl
theorem one_intP (wr : World) (x : Value) (e : TypeId) : ∀ j u, [x][j]? = some u → (wr.alloc (.cells #[x] e)).cell? ((⟨wr.heap.size, 0, none⟩ : Addr).add j) = some u := by
  intro j u hj
  cases j with
  | zero => simp at hj; subst hj; simp [Addr.add]
  | succ j => simp at hj
theorem lowI {b b' : Nat} {v : Value} {xs : List Int} {w : World} (h : RowI b v xs w) (hb : b' ≤ b) : RowI b' v xs w := by
  refine ⟨h.1, ?_⟩
  rcases h.2 with h0 | ⟨g, cap, cur, h1, h2, h3⟩
  · exact Or.inl h0
  · exact Or.inr ⟨g, cap, cur, h1, Nat.le_trans hb h2, h3⟩
theorem wr_l (a b : Int) : wrap64 (wrap64 a + b) = wrap64 (a + b) := by unfold wrap64; omega
theorem wr_r (a b : Int) : wrap64 (a + wrap64 b) = wrap64 (a + b) := by unfold wrap64; omega
theorem wr_zero : wrap64 0 = 0 := by unfold wrap64; omega
end Go.Proofs.Ytnncdpkmhpjmbaa
end
section
namespace Go.Proofs.Ytnncdpkmhpjmbaa
open Go.ChangeShapes Go.WideShapes Go.ChangeAt Go.RowKit
set_option linter.unusedVariables false
set_option linter.unusedSimpArgs false
set_option maxRecDepth 8000

/-- What hands back a row of items of its own. -/
def OutPostT (xs : List It) (w : World) (e : Ending) (w' : World) : Prop := ∃ v, e = .returned v ∧ RowT w.heap.size v xs w' ∧ Below w.heap.size w w'
end Go.Proofs.Ytnncdpkmhpjmbaa
end

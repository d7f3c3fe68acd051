import Derived.Test.YtnncdpkmhpjmbaaZnBF
section
namespace Go.Proofs.Ytnncdpkmhpjmbaa
open Go.ChangeShapes Go.WideShapes Go.ChangeAt Go.RowKit
set_option linter.unusedVariables false
set_option linter.unusedSimpArgs false
set_option maxRecDepth 20000

theorem RowT.cur {b cb : Nat} {v : Value} {xs : List It} {w w' : World} (h : RowT b v xs w) (hg : w.grownBy w' (some cb)) (hcb : cb < b) : RowT b v xs w' := h.kept hg (by
  cases h0 : v.ownBlock with
  | none => exact Or.inl rfl
  | some g =>
    refine Or.inr fun e => ?_
    have := (World.ownsRow.lt h g h0).1
    simp at e; omega)
theorem cellsI_put (xs : List It) {i j : Nat} (hi : i < xs.length) (hj : j < 9) (x' : It) (v : Value) (e : x'.L = (itD xs i).L.set j v) : (cellsI xs).set (i * 9 + j) v = cellsI (xs.set i x') := by
  apply List.ext_getElem?
  intro q
  have hq : q / 9 * 9 + q % 9 = q := by omega
  have h9 : q % 9 < 9 := Nat.mod_lt _ (by decide)
  have e1 := cellsI_at (xs.set i x') (q / 9) (q % 9) h9
  have e2 := cellsI_at xs (q / 9) (q % 9) h9
  rw [hq] at e1 e2
  rw [e1]
  by_cases h : q / 9 = i
  · rw [h, List.getElem?_set_self hi, Option.bind_some, e]
    by_cases hk : q % 9 = j
    · rw [show q = i * 9 + j by omega, List.getElem?_set_self (by rw [cellsI_len]; omega), show (i * 9 + j) % 9 = j by omega, List.getElem?_set_self (by rw [It.L_len]; exact hj)]
    · rw [List.getElem?_set_ne (by omega), List.getElem?_set_ne (by omega), e2, h, itD_eq hi, Option.bind_some]
  · rw [List.getElem?_set_ne (by omega), List.getElem?_set_ne (by omega), e2]
def slN : Value → Nat
  | .slice _ n _ => n
  | _ => 0
theorem RowT.len {b : Nat} {v : Value} {xs : List It} {w : World} (h : RowT b v xs w) : slN v = xs.length := by
  rcases h.2 with ⟨h1, h2⟩ | ⟨g, cap, cur, h1, _⟩
  · rw [h1, h2]; rfl
  · rw [h1]; rfl
theorem RowT.put {lo g n cap i j : Nat} {xs : List It} {w : World} (h : RowT lo (.slice (some ⟨g, 0, none⟩) n cap) xs w) (hi : i < xs.length) (hj : j < 9) (x' : It) (v : Value) (e : x'.L = (itD xs i).L.set j v) : RowT lo (.slice (some ⟨g, 0, none⟩) n cap) (xs.set i x') (w.setCell ⟨g, i * 9 + j, none⟩ v) := by
  have hn : n = xs.length := h.len
  subst hn
  have := (World.ownsRow.stored h (i * 9 + j) v).1
  rw [cellsI_put xs hi hj x' v e] at this
  unfold RowT
  rw [List.length_set]
  exact this
/-- A drawn row, one of whose fields is stored into. -/
theorem TRow.put {cb g n cap0 j : Nat} {a : Option Addr} {len cap : Nat} {w wr : World} {xs : List It} (hcb : cb < w.heap.size) (hap : 0 < len → ∀ b off, a = some ⟨b, off, none⟩ → b < w.heap.size) (hr : RowT w.heap.size (.slice (some ⟨g, 0, none⟩) n cap0) xs wr) (hc : Cur cb a len cap wr) (hg : w.grownBy wr (some cb)) (h0 : 0 < xs.length) (hj : j < 9) (x' : It) (v : Value) (e : x'.L = (itD xs 0).L.set j v) :
    RowT w.heap.size (.slice (some ⟨g, 0, none⟩) n cap0) (xs.set 0 x') (wr.setCell ⟨g, j, none⟩ v) ∧ Cur cb a len cap (wr.setCell ⟨g, j, none⟩ v) ∧ w.grownBy (wr.setCell ⟨g, j, none⟩ v) (some cb) := by
  have hl := (World.ownsRow.lt hr g rfl).1
  have h1 := hr.put h0 hj x' v e
  rw [Nat.zero_mul, Nat.zero_add] at h1
  exact ⟨h1, hc.stored (Nat.lt_of_lt_of_le hcb hg.size) (by omega) (fun h0 b off e => by have := hap h0 b off e; omega) v, gr_store hg hl⟩
end Go.Proofs.Ytnncdpkmhpjmbaa
end

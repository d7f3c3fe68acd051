import Derived.Test.YtnncdpkmhpjmbaaZnAH
section
namespace Go.Proofs.Ytnncdpkmhpjmbaa
open Go.ChangeShapes Go.WideShapes Go.ChangeAt Go.RowKit
set_option linter.unusedVariables false
set_option maxRecDepth 8000

structure It where
  base : Int
  least : Int
  most : Int
  grow : Int
  shrink : Int
  before : Int
  behind : Int
  ab : Bool
  ah : Bool
def It0 : It := ⟨0, 0, 0, 0, 0, 0, 0, false, false⟩
instance : Inhabited It := ⟨It0⟩
def It.L (x : It) : List Value := [.int .i64 x.base, .int .i64 x.least, .int .i64 x.most, .int .i64 x.grow, .int .i64 x.shrink, .int .i64 x.before, .int .i64 x.behind, .bool x.ab, .bool x.ah]
def It.A (x : It) : Array Value := #[.int .i64 x.base, .int .i64 x.least, .int .i64 x.most, .int .i64 x.grow, .int .i64 x.shrink, .int .i64 x.before, .int .i64 x.behind, .bool x.ab, .bool x.ah]
theorem It.L_len (x : It) : x.L.length = 9 := rfl
theorem It.A_size (x : It) : x.A.size = 9 := rfl
/-- Every int of the item is one of 64 bits. -/
def It.inr (x : It) : Prop := I64 x.base ∧ I64 x.least ∧ I64 x.most ∧ I64 x.grow ∧ I64 x.shrink ∧ I64 x.before ∧ I64 x.behind
theorem It.L_one (x : It) : ∀ v ∈ x.L, v.oneCell' = true := by
  intro v hv
  simp only [It.L, List.mem_cons, List.not_mem_nil, or_false] at hv
  rcases hv with rfl | rfl | rfl | rfl | rfl | rfl | rfl | rfl | rfl <;> rfl
/-- The cells of a row of items. -/
def cellsI (xs : List It) : List Value := xs.flatMap It.L
theorem cellsI_len : ∀ xs : List It, (cellsI xs).length = xs.length * 9
  | [] => rfl
  | x :: xs => by
    have := cellsI_len xs
    simp only [cellsI, List.flatMap_cons, List.length_append, List.length_cons, It.L_len] at *
    omega
theorem cellsI_at : ∀ (xs : List It) (i j : Nat), j < 9 → (cellsI xs)[i * 9 + j]? = xs[i]?.bind (fun m => m.L[j]?)
  | [], i, j, _ => by simp [cellsI]
  | x :: xs, 0, j, h => by
    simp only [cellsI, List.flatMap_cons, Nat.zero_mul, Nat.zero_add, List.getElem?_cons_zero, Option.bind_some]
    exact List.getElem?_append_left (by rw [It.L_len]; exact h)
  | x :: xs, i + 1, j, h => by
    have := cellsI_at xs i j h
    simp only [cellsI, List.flatMap_cons, List.getElem?_cons_succ] at *
    rw [List.getElem?_append_right (by rw [It.L_len]; omega), It.L_len, show (i + 1) * 9 + j - 9 = i * 9 + j by omega]
    exact this
/-- Items to be read. -/
def Its (w : World) (a : Option Addr) (xs : List It) : Prop :=
  (∀ x ∈ xs, x.inr) ∧ (xs = [] ∨ ∃ b off, a = some ⟨b, off, none⟩ ∧ b < w.heap.size ∧ ∀ (k : Nat) (x : It), xs[k]? = some x → w.rangeAt b (off + k * 9) x.L)
/-- A row of items of one's own. -/
def RowT (lo : Nat) (v : Value) (xs : List It) (w : World) : Prop := w.ownsRow lo 40 9 v xs.length (cellsI xs)
/-- Item number k. -/
def itD (xs : List It) (k : Nat) : It := xs.getD k It0
theorem itD_eq {xs : List It} {k : Nat} (h : k < xs.length) : xs[k]? = some (itD xs k) := by simp [itD, List.getD, h]
theorem itD_mem {xs : List It} {k : Nat} (h : k < xs.length) : itD xs k ∈ xs := List.mem_of_getElem? (itD_eq h)
theorem Its.below {w w' : World} {a : Option Addr} {xs : List It} (h : Its w a xs) (hb : Below w.heap.size w w') : Its w' a xs := by
  refine ⟨h.1, ?_⟩
  rcases h.2 with h0 | ⟨b, off, ha, hlt, hc⟩
  · exact Or.inl h0
  · exact Or.inr ⟨b, off, ha, Nat.lt_of_lt_of_le hlt hb.size, fun k x hk => rg_below (hc k x hk) hb⟩
theorem Its.look {w : World} {a : Option Addr} {xs : List It} (h : Its w a xs) {k : Nat} (hk : k < xs.length) :
    ∃ b off, a = some ⟨b, off, none⟩ ∧ b < w.heap.size ∧ w.rangeAt b (off + k * 9) (itD xs k).L := by
  rcases h.2 with h0 | ⟨b, off, ha, hb, hc⟩
  · subst h0; simp at hk
  · exact ⟨b, off, ha, hb, hc k _ (itD_eq hk)⟩
theorem Its.inr {w : World} {a : Option Addr} {xs : List It} (h : Its w a xs) {k : Nat} (hk : k < xs.length) : (itD xs k).inr := h.1 _ (itD_mem hk)
theorem RowT.size {lo : Nat} {v : Value} {xs : List It} {w : World} (h : RowT lo v xs w) : (cellsI xs).length = xs.length * 9 := cellsI_len xs
theorem RowT.its {lo g cap : Nat} {xs : List It} {w : World} (h : RowT lo (.slice (some ⟨g, 0, none⟩) xs.length cap) xs w) (hr : ∀ x ∈ xs, x.inr) : Its w (some ⟨g, 0, none⟩) xs := by
  refine ⟨hr, Or.inr ⟨g, 0, rfl, (World.ownsRow.lt h g rfl).2, fun k x hk j v hv => ?_⟩⟩
  have hj : j < 9 := by have := (List.getElem?_eq_some_iff.1 hv).1; simpa [It.L_len] using this
  have hkl : k < xs.length := (List.getElem?_eq_some_iff.1 hk).1
  rw [Nat.zero_add, World.ownsRow.cellAt h (k * 9 + j) (by omega), cellsI_at xs k j hj, hk]
  exact hv
theorem RowT.slice {lo : Nat} {v : Value} {xs : List It} {w : World} (h : RowT lo v xs w) (hr : ∀ x ∈ xs, x.inr) : ∃ a cap, v = .slice a xs.length cap ∧ Its w a xs := by
  rcases h.2 with ⟨h1, h2⟩ | ⟨g, cap, cur, h1, _⟩
  · have h2' : xs.length = 0 := h2
    exact ⟨none, 0, by rw [h1, h2'], hr, Or.inl (List.length_eq_zero_iff.1 h2')⟩
  · subst h1
    exact ⟨_, cap, rfl, h.its hr⟩
theorem RowT.kept {lo : Nat} {v : Value} {xs : List It} {w w' : World} {row : Option Nat} (h : RowT lo v xs w) (hg : w.grownBy w' row) (hne : v.ownBlock = none ∨ v.ownBlock ≠ row) : RowT lo v xs w' := World.ownsRow.kept h hg hne
theorem RowT.below {lo : Nat} {v : Value} {xs : List It} {w w' : World} (h : RowT lo v xs w) (hb : Below w.heap.size w w') : RowT lo v xs w' :=
  World.ownsRow.kept h ⟨hb.os, hb.tape, hb.output, hb.size, fun k hk _ => hb.block k hk⟩ (by cases v.ownBlock <;> simp : v.ownBlock = none ∨ v.ownBlock ≠ none)
theorem RowT.lower {b b' : Nat} {v : Value} {xs : List It} {w : World} (h : RowT b v xs w) (hb : b' ≤ b) : RowT b' v xs w := ownsRow_lower h hb
theorem RowT.there {lo g cap i : Nat} {xs : List It} {w : World} (h : RowT lo (.slice (some ⟨g, 0, none⟩) xs.length cap) xs w) (hi : i < xs.length) : w.there g (i * 9) 9 := fun j hj => by
  refine ⟨?_, World.ownsRow.frozenAt h _⟩
  rw [World.ownsRow.cellAt h (i * 9 + j) (by omega), cellsI_at xs i j hj, List.getElem?_eq_getElem hi, Option.bind_some, List.getElem?_eq_getElem (by rw [It.L_len]; exact hj)]
  rfl
theorem made_it (n : Nat) : (madeCells (Value.cells (.agg #[.int .i64 0, .int .i64 0, .int .i64 0, .int .i64 0, .int .i64 0, .int .i64 0, .int .i64 0, .bool false, .bool false])) (n * 9)).toList = cellsI (List.replicate n It0) := by
  apply List.ext_getElem?
  intro q
  have hq : q / 9 * 9 + q % 9 = q := by omega
  have h64 : q % 9 < 9 := Nat.mod_lt _ (by decide)
  have e1 := cellsI_at (List.replicate n It0) (q / 9) (q % 9) h64
  rw [hq] at e1
  rw [e1]
  by_cases h : q < n * 9
  · rw [List.getElem?_replicate, if_pos (by omega), Option.bind_some]
    simp [madeCells, Value.cells, h]
    generalize q % 9 = r at h64
    match r, h64 with
    | 0, _ => rfl
    | 1, _ => rfl
    | 2, _ => rfl
    | 3, _ => rfl
    | 4, _ => rfl
    | 5, _ => rfl
    | 6, _ => rfl
    | 7, _ => rfl
    | 8, _ => rfl
  · rw [List.getElem?_eq_none (by simp [madeCells]; omega), List.getElem?_replicate, if_neg (by omega)]
    rfl
theorem info_item : (Try.prog.info? 40).map (fun i => (i.zero, i.size, i.bytes)) = some (some (.agg #[.int .i64 0, .int .i64 0, .int .i64 0, .int .i64 0, .int .i64 0, .int .i64 0, .int .i64 0, .bool false, .bool false]), 9, 64) := by kernel_rfl
theorem it_under : Try.prog.underlying 40 = some (.struct (Try.prog.fieldsOf 40)) := by kernel_rfl
theorem it_size (x : It) : (Try.prog.info? 40).map (·.size) = some x.L.length := by rw [It.L_len]; kernel_rfl
section
variable {ops : Array Oper} {rest : List Oper} {op : Oper} {a : Act} {w : World} {Q : Exit → Act → World → Prop} {g o : Nat} {x : It}
theorem list_load_it (hgd : op.guard = none) (p : Operand) (ho : op.op = .load 40 p) (hx : a.eval p = .pointer (some ⟨g, o, none⟩)) (hg : w.rangeAt g o x.L)
    (h : wpList Try.prog ops Q rest (a.put op.dst (.agg #[.int .i64 x.base, .int .i64 x.least, .int .i64 x.most, .int .i64 x.grow, .int .i64 x.shrink, .int .i64 x.before, .int .i64 x.behind, .bool x.ab, .bool x.ah])) w) : wpList Try.prog ops Q (op :: rest) a w :=
  wpList_load_mid hgd _ p ho g o hx _ _ hg it_under rfl (it_size x) h
end

section
variable {H : Type} {enc : TypeId × Value → H} {W : World} {base : Nat} {sp : Nat → Bool} {held : Bool}
end
end Go.Proofs.Ytnncdpkmhpjmbaa
end

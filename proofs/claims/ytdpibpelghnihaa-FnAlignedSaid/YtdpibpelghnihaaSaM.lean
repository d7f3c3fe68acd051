/-
  Sides (five ints and two Bools each): one side's cells; slices of sides that lie somewhere, and rows of sides of one's own; the argument opened. Conditions: those of the lemma.
-/
import Derived.Test.YtdpibpelghnihaaRgA
namespace Go.Proofs.Ytdpibpelghnihaa
open Go.ChangeShapes Go.WideShapes Go.ChangeAt Go.RowKit
set_option linter.unusedVariables false
set_option maxRecDepth 8000

structure Sa where
  size : Int
  before : Int
  behind : Int
  ab : Bool
  ah : Bool
  al : Int
  base : Int
def Sa0 : Sa := ⟨0, 0, 0, false, false, 0, 0⟩
instance : Inhabited Sa := ⟨Sa0⟩
def Sa.L (x : Sa) : List Value := [.int .i64 x.size, .int .i64 x.before, .int .i64 x.behind, .bool x.ab, .bool x.ah, .int .i64 x.al, .int .i64 x.base]
def Sa.A (x : Sa) : Array Value := #[.int .i64 x.size, .int .i64 x.before, .int .i64 x.behind, .bool x.ab, .bool x.ah, .int .i64 x.al, .int .i64 x.base]
theorem Sa.A_list (x : Sa) : x.A.toList = x.L := rfl
theorem Sa.A_cells (x : Sa) : x.L.toArray = x.A := rfl
theorem Sa.L_len (x : Sa) : x.L.length = 7 := rfl
theorem Sa.A_size (x : Sa) : x.A.size = 7 := rfl
/-- Every int of the item is one of 64 bits. -/
def Sa.inr (x : Sa) : Prop := I64 x.size ∧ I64 x.before ∧ I64 x.behind ∧ I64 x.al ∧ I64 x.base
theorem Sa.L_one (x : Sa) : ∀ v ∈ x.L, v.oneCell' = true := by
  intro v hv
  simp only [Sa.L, List.mem_cons, List.not_mem_nil, or_false] at hv
  rcases hv with rfl | rfl | rfl | rfl | rfl | rfl | rfl <;> rfl
theorem Sa.A_one (x : Sa) : x.A.all (·.oneCell') = true := all_oneCell_toArray x.L_one
/-- The cells of a row of items. -/
def cellsA (xs : List Sa) : List Value := xs.flatMap Sa.L
theorem cellsA_len : ∀ xs : List Sa, (cellsA xs).length = xs.length * 7
  | [] => rfl
  | x :: xs => by
    have := cellsA_len xs
    simp only [cellsA, List.flatMap_cons, List.length_append, List.length_cons, Sa.L_len] at *
    omega
theorem cellsA_at : ∀ (xs : List Sa) (i j : Nat), j < 7 → (cellsA xs)[i * 7 + j]? = xs[i]?.bind (fun m => m.L[j]?)
  | [], i, j, _ => by simp [cellsA]
  | x :: xs, 0, j, h => by
    simp only [cellsA, List.flatMap_cons, Nat.zero_mul, Nat.zero_add, List.getElem?_cons_zero, Option.bind_some]
    exact List.getElem?_append_left (by rw [Sa.L_len]; exact h)
  | x :: xs, i + 1, j, h => by
    have := cellsA_at xs i j h
    simp only [cellsA, List.flatMap_cons, List.getElem?_cons_succ] at *
    rw [List.getElem?_append_right (by rw [Sa.L_len]; omega), Sa.L_len, show (i + 1) * 7 + j - 7 = i * 7 + j by omega]
    exact this
theorem cellsA_push (xs : List Sa) (x : Sa) : cellsA (xs ++ [x]) = cellsA xs ++ x.L := by simp [cellsA]
theorem cellsA_set (xs : List Sa) {i : Nat} (hi : i < xs.length) (x : Sa) : setL (cellsA xs) (i * 7) x.L = cellsA (xs.set i x) := by
  apply List.ext_getElem?
  intro q
  rw [setL_at _ _ _ _ (by rw [Sa.L_len, cellsA_len]; omega), Sa.L_len]
  have hq : q / 7 * 7 + q % 7 = q := by omega
  have h64 : q % 7 < 7 := Nat.mod_lt _ (by decide)
  have e1 := cellsA_at (xs.set i x) (q / 7) (q % 7) h64
  have e2 := cellsA_at xs (q / 7) (q % 7) h64
  rw [hq] at e1 e2
  rw [e1, e2]
  by_cases h : i * 7 ≤ q ∧ q < i * 7 + 7
  · have e : q / 7 = i := by omega
    rw [if_pos h, e, List.getElem?_set_self hi, show q - i * 7 = q % 7 by omega]
    rfl
  · rw [if_neg h, List.getElem?_set_ne (by omega)]

/-- Items to be read. -/
def Sas (w : World) (a : Option Addr) (xs : List Sa) : Prop :=
  (∀ x ∈ xs, x.inr) ∧ (xs = [] ∨ ∃ b off, a = some ⟨b, off, none⟩ ∧ b < w.heap.size ∧ ∀ (k : Nat) (x : Sa), xs[k]? = some x → w.rangeAt b (off + k * 7) x.L)
/-- A row of items of one's own. -/
def RowS (lo : Nat) (v : Value) (xs : List Sa) (w : World) : Prop := w.ownsRow lo 25 7 v xs.length (cellsA xs)
/-- Item number k. -/
def saD (xs : List Sa) (k : Nat) : Sa := xs.getD k Sa0
theorem saD_eq {xs : List Sa} {k : Nat} (h : k < xs.length) : xs[k]? = some (saD xs k) := by simp [saD, List.getD, h]
theorem saD_mem {xs : List Sa} {k : Nat} (h : k < xs.length) : saD xs k ∈ xs := List.mem_of_getElem? (saD_eq h)
theorem Sas.below {w w' : World} {a : Option Addr} {xs : List Sa} (h : Sas w a xs) (hb : Below w.heap.size w w') : Sas w' a xs := by
  refine ⟨h.1, ?_⟩
  rcases h.2 with h0 | ⟨b, off, ha, hlt, hc⟩
  · exact Or.inl h0
  · exact Or.inr ⟨b, off, ha, Nat.lt_of_lt_of_le hlt hb.size, fun k x hk => rg_below (hc k x hk) hb⟩
theorem Sas.look {w : World} {a : Option Addr} {xs : List Sa} (h : Sas w a xs) {k : Nat} (hk : k < xs.length) :
    ∃ b off, a = some ⟨b, off, none⟩ ∧ b < w.heap.size ∧ w.rangeAt b (off + k * 7) (saD xs k).L := by
  rcases h.2 with h0 | ⟨b, off, ha, hb, hc⟩
  · subst h0; simp at hk
  · exact ⟨b, off, ha, hb, hc k _ (saD_eq hk)⟩
theorem Sas.inr {w : World} {a : Option Addr} {xs : List Sa} (h : Sas w a xs) {k : Nat} (hk : k < xs.length) : (saD xs k).inr := h.1 _ (saD_mem hk)
/-- The seven cells. -/
theorem rg_sa {w : World} {b o : Nat} {x : Sa} (h : w.rangeAt b o x.L) :
    w.cell? ⟨b, o, none⟩ = some (.int .i64 x.size) ∧ w.cell? ⟨b, o + 1, none⟩ = some (.int .i64 x.before) ∧ w.cell? ⟨b, o + 2, none⟩ = some (.int .i64 x.behind) ∧ w.cell? ⟨b, o + 3, none⟩ = some (.bool x.ab) ∧ w.cell? ⟨b, o + 4, none⟩ = some (.bool x.ah) ∧ w.cell? ⟨b, o + 5, none⟩ = some (.int .i64 x.al) ∧ w.cell? ⟨b, o + 6, none⟩ = some (.int .i64 x.base) :=
  ⟨h 0 _ rfl, h 1 _ rfl, h 2 _ rfl, h 3 _ rfl, h 4 _ rfl, h 5 _ rfl, h 6 _ rfl⟩
theorem RowS.size {lo : Nat} {v : Value} {xs : List Sa} {w : World} (h : RowS lo v xs w) : (cellsA xs).length = xs.length * 7 := cellsA_len xs
theorem RowS.its {lo g cap : Nat} {xs : List Sa} {w : World} (h : RowS lo (.slice (some ⟨g, 0, none⟩) xs.length cap) xs w) (hr : ∀ x ∈ xs, x.inr) : Sas w (some ⟨g, 0, none⟩) xs := by
  refine ⟨hr, Or.inr ⟨g, 0, rfl, (World.ownsRow.lt h g rfl).2, fun k x hk j v hv => ?_⟩⟩
  have hj : j < 7 := by have := (List.getElem?_eq_some_iff.1 hv).1; simpa [Sa.L_len] using this
  have hkl : k < xs.length := (List.getElem?_eq_some_iff.1 hk).1
  rw [Nat.zero_add, World.ownsRow.cellAt h (k * 7 + j) (by omega), cellsA_at xs k j hj, hk]
  exact hv
theorem RowS.slice {lo : Nat} {v : Value} {xs : List Sa} {w : World} (h : RowS lo v xs w) (hr : ∀ x ∈ xs, x.inr) : ∃ a cap, v = .slice a xs.length cap ∧ Sas w a xs := by
  rcases h.2 with ⟨h1, h2⟩ | ⟨g, cap, cur, h1, _⟩
  · have h2' : xs.length = 0 := h2
    exact ⟨none, 0, by rw [h1, h2'], hr, Or.inl (List.length_eq_zero_iff.1 h2')⟩
  · subst h1
    exact ⟨_, cap, rfl, h.its hr⟩
theorem RowS.kept {lo : Nat} {v : Value} {xs : List Sa} {w w' : World} {row : Option Nat} (h : RowS lo v xs w) (hg : w.grownBy w' row) (hne : v.ownBlock = none ∨ v.ownBlock ≠ row) : RowS lo v xs w' := World.ownsRow.kept h hg hne
theorem RowS.below {lo : Nat} {v : Value} {xs : List Sa} {w w' : World} (h : RowS lo v xs w) (hb : Below w.heap.size w w') : RowS lo v xs w' :=
  World.ownsRow.kept h ⟨hb.os, hb.tape, hb.output, hb.size, fun k hk _ => hb.block k hk⟩ (by cases v.ownBlock <;> simp : v.ownBlock = none ∨ v.ownBlock ≠ none)
theorem RowS.lower {b b' : Nat} {v : Value} {xs : List Sa} {w : World} (h : RowS b v xs w) (hb : b' ≤ b) : RowS b' v xs w := ownsRow_lower h hb
theorem RowS.there {lo g cap i : Nat} {xs : List Sa} {w : World} (h : RowS lo (.slice (some ⟨g, 0, none⟩) xs.length cap) xs w) (hi : i < xs.length) : w.there g (i * 7) 7 := fun j hj => by
  refine ⟨?_, World.ownsRow.frozenAt h _⟩
  rw [World.ownsRow.cellAt h (i * 7 + j) (by omega), cellsA_at xs i j hj, List.getElem?_eq_getElem hi, Option.bind_some, List.getElem?_eq_getElem (by rw [Sa.L_len]; exact hj)]
  rfl
theorem RowS.store {lo g n cap i : Nat} {xs : List Sa} {w : World} (h : RowS lo (.slice (some ⟨g, 0, none⟩) n cap) xs w) (hn : n = xs.length) (hi : i < xs.length) (x : Sa) : RowS lo (.slice (some ⟨g, 0, none⟩) n cap) (xs.set i x) (w.setCells g (i * 7) x.L) := by
  subst hn
  have := ownsRow_setCells x.L (cellsA xs) (i * 7) w h
  rw [cellsA_set xs hi] at this
  unfold RowS
  rw [List.length_set]
  exact this
theorem RowS.spots {lo g n cap i : Nat} {xs : List Sa} {w : World} (h : RowS lo (.slice (some ⟨g, 0, none⟩) n cap) xs w) (hi : i < xs.length) : (∀ j, j < 7 → ∃ q, w.cell? ⟨g, i * 7 + j, none⟩ = some q) ∧ ∀ j, w.frozen? ⟨g, j, none⟩ = false := by
  rcases h.2 with ⟨h1, _⟩ | ⟨g', c', cur, h1, _⟩
  · cases h1
  · obtain ⟨e1, e2, e3⟩ : some (⟨g, 0, none⟩ : Addr) = some ⟨g', 0, none⟩ ∧ n = xs.length ∧ cap = c' := by injection h1 with e1 e2 e3; exact ⟨e1, e2, e3⟩
    subst e2
    have := h.there hi
    exact ⟨fun j hj => Option.isSome_iff_exists.1 ((this j hj).1), fun j => World.ownsRow.frozenAt h j⟩
theorem bel_cellsA {B g : Nat} {a : World} (hg : B ≤ g) : ∀ (vs : List Value) (o : Nat) (w : World), Below B a w → Below B a (w.setCells g o vs)
  | [], _, _, h => h
  | v :: vs, o, w, h => bel_cellsA hg vs (o + 1) _ (bl_set h o hg v)
theorem made_sa (n : Nat) : (madeCells (Value.cells (.agg #[.int .i64 0, .int .i64 0, .int .i64 0, .bool false, .bool false, .int .i64 0, .int .i64 0])) (n * 7)).toList = cellsA (List.replicate n Sa0) := by
  apply List.ext_getElem?
  intro q
  have hq : q / 7 * 7 + q % 7 = q := by omega
  have h64 : q % 7 < 7 := Nat.mod_lt _ (by decide)
  have e1 := cellsA_at (List.replicate n Sa0) (q / 7) (q % 7) h64
  rw [hq] at e1
  rw [e1]
  by_cases h : q < n * 7
  · rw [List.getElem?_replicate, if_pos (by omega), Option.bind_some]
    simp [madeCells, Value.cells, h]
    generalize q % 7 = r at h64
    match r, h64 with
    | 0, _ => rfl
    | 1, _ => rfl
    | 2, _ => rfl
    | 3, _ => rfl
    | 4, _ => rfl
    | 5, _ => rfl
    | 6, _ => rfl
  · rw [List.getElem?_eq_none (by simp [madeCells]; omega), List.getElem?_replicate, if_neg (by omega)]
    rfl
theorem info_side : (Try.prog.info? 25).map (fun i => (i.zero, i.size, i.bytes)) = some (some (.agg #[.int .i64 0, .int .i64 0, .int .i64 0, .bool false, .bool false, .int .i64 0, .int .i64 0]), 7, 48) := by kernel_rfl
theorem sa_under : Try.prog.underlying 25 = some (.struct (Try.prog.fieldsOf 25)) := by kernel_rfl
theorem sa_size (x : Sa) : (Try.prog.info? 25).map (·.size) = some x.L.length := by rw [Sa.L_len]; kernel_rfl
theorem sa_sizeA (x : Sa) : (Try.prog.info? 25).map (·.size) = some x.A.size := by rw [Sa.A_size]; kernel_rfl
theorem lsa_under : Try.prog.underlying 33 = some (.struct (Try.prog.fieldsOf 33)) := by kernel_rfl
theorem lsa_size (x : Sa) : (Try.prog.info? 33).map (·.size) = some x.L.length := by rw [Sa.L_len]; kernel_rfl
section
variable {ops : Array Oper} {rest : List Oper} {op : Oper} {a : Act} {w : World} {Q : Exit → Act → World → Prop} {g o : Nat} {x : Sa}
theorem list_load_sa (hgd : op.guard = none) (p : Operand) (ho : op.op = .load 25 p) (hx : a.eval p = .pointer (some ⟨g, o, none⟩)) (hg : w.rangeAt g o x.L)
    (h : wpList Try.prog ops Q rest (a.put op.dst (.agg #[.int .i64 x.size, .int .i64 x.before, .int .i64 x.behind, .bool x.ab, .bool x.ah, .int .i64 x.al, .int .i64 x.base])) w) : wpList Try.prog ops Q (op :: rest) a w :=
  wpList_load_mid hgd _ p ho g o hx _ _ hg sa_under rfl (sa_size x) h
theorem list_load_lsa (hgd : op.guard = none) (p : Operand) (ho : op.op = .load 33 p) (hx : a.eval p = .pointer (some ⟨g, o, none⟩)) (hg : w.rangeAt g o x.L)
    (h : wpList Try.prog ops Q rest (a.put op.dst (.agg #[.int .i64 x.size, .int .i64 x.before, .int .i64 x.behind, .bool x.ab, .bool x.ah, .int .i64 x.al, .int .i64 x.base])) w) : wpList Try.prog ops Q (op :: rest) a w :=
  wpList_load_mid hgd _ p ho g o hx _ _ hg lsa_under rfl (lsa_size x) h
theorem list_store_sa (hgd : op.guard = none) (p y : Operand) (ho : op.op = .store 25 p y) (hx : a.eval p = .pointer (some ⟨g, o, none⟩)) (hy : a.eval y = .agg #[.int .i64 x.size, .int .i64 x.before, .int .i64 x.behind, .bool x.ab, .bool x.ah, .int .i64 x.al, .int .i64 x.base]) (ht : w.there g o 7)
    (h : wpList Try.prog ops Q rest (a.put op.dst undef) (w.setCells g o x.L)) : wpList Try.prog ops Q (op :: rest) a w :=
  wpList_store_mid hgd _ p y ho g o x.A hx hy (by rw [Sa.A_size]; exact ht) (sa_sizeA x) x.A_one h
end

section
variable {H : Type} {enc : TypeId × Value → H} {W : World} {base : Nat} {sp : Nat → Bool} {held : Bool}
def saKs : List Bool := [false, false, false, true, true, false, false]
theorem good_side : GoodT enc W base sp held 33 saKs := good_struct (fs := Try.prog.fieldsOf 33) (by kernel_rfl) kt0 good0 (by kernel_rfl)
theorem leaf_sa {l : List Value} (hl : l.length = 7) (h : ∀ (j : Nat) (k : Bool), saKs[j]? = some k → ∃ v, l[j]? = some v ∧ Leaf k v) : ∃ x : Sa, l = x.L ∧ x.inr := by
  obtain ⟨v0, e0, z0, rfl, r0⟩ := h 0 false rfl
  obtain ⟨v1, e1, z1, rfl, r1⟩ := h 1 false rfl
  obtain ⟨v2, e2, z2, rfl, r2⟩ := h 2 false rfl
  obtain ⟨v3, e3, z3, rfl⟩ := h 3 true rfl
  obtain ⟨v4, e4, z4, rfl⟩ := h 4 true rfl
  obtain ⟨v5, e5, z5, rfl, r5⟩ := h 5 false rfl
  obtain ⟨v6, e6, z6, rfl, r6⟩ := h 6 false rfl
  refine ⟨⟨z0, z1, z2, z3, z4, z5, z6⟩, ?_, r0, r1, r2, r5, r6⟩
  match l, hl with
  | [a0, a1, a2, a3, a4, a5, a6], _ =>
    simp at e0 e1 e2 e3 e4 e5 e6
    subst e0 e1 e2 e3 e4 e5 e6
    rfl
/-- A slice of items that came in. -/
theorem sas_of {fuel : Nat} {cs : List Value} {x : DataW H × List MemPlace} (h : DataW.trod enc Try.prog W base sp held fuel 36 cs = some x) : ∃ a cap xs, cs = [.slice a xs.length cap] ∧ Sas W a xs ∧ xs.length ≤ 9223372036854775807 := by
  rcases Go.Deep.open_slice Try.underlying36 h with ⟨rfl, _⟩ | ⟨a, len, cap, m, n, D, Pl, rfl, hb, hl, hm, hmm, _, hx⟩
  · exact ⟨none, 0, [], rfl, ⟨fun z hz => by simp at hz, Or.inl rfl⟩, by simp⟩
  · unfold maxLen at hm
    have hlm : len ≤ m := by rw [hmm]; split <;> omega
    have key : ∀ k, k < len → ∃ x : Sa, (∀ j v, x.L[j]? = some v → W.cell? (a.add (k * 7 + j)) = some v) ∧ x.inr := by
      intro k hk
      obtain ⟨cs', h1, h2⟩ := hx k (by omega)
      rw [show Try.prog.cellsOf 33 = 7 by kernel_rfl] at h1
      obtain ⟨_, hlen, hcell⟩ := World.cells?_some h1
      obtain ⟨x, ex, hxr⟩ := leaf_sa (l := cs') (by omega) (fun j k hj => good_side _ _ _ h2 j k hj)
      refine ⟨x, fun j v hv => ?_, hxr⟩
      have hj : j < 7 := by have := (List.getElem?_eq_some_iff.1 hv).1; simpa [Sa.L_len] using this
      have hc := hcell j hj
      rw [Go.Deep.add_add] at hc
      rw [hc, ex, hv]
    obtain ⟨f, hff⟩ := Go.Deep.choose_lt key
    refine ⟨some a, cap, (List.range len).map f, by simp, ⟨fun z hz => ?_, ?_⟩, by simp; omega⟩
    · obtain ⟨j, hj, rfl⟩ := List.mem_map.1 hz
      exact (hff j (List.mem_range.1 hj)).2
    · by_cases h0 : len = 0
      · exact Or.inl (by simp [h0])
      · obtain ⟨b, off, spot⟩ := a
        have hc := (hff 0 (by omega)).1 0 _ rfl
        have hspot : spot = none := by simpa [Addr.add] using World.cell?_spot hc
        subst hspot
        refine Or.inr ⟨b, off, rfl, ?_, fun k x hk j v hv => ?_⟩
        · have := World.block_lt_of_cell? W _ hc
          simpa [Addr.add] using this
        · have hkl : k < len := by have := (List.getElem?_eq_some_iff.1 hk).1; simpa using this
          have e : x = f k := by
            rw [List.getElem?_map, List.getElem?_range hkl] at hk
            simpa using hk.symm
          subst e
          have hci := (hff k hkl).1 j v hv
          rw [← hci]
          congr 1; simp [Addr.add, Nat.add_assoc]
theorem sasl_of {t0 : Option Addr} {len cap : Nat} {d : DataW H} {p : List MemPlace} (h : DataW.Trod enc Try.prog W base sp held 36 (.slice t0 len cap) d p) : ∃ xs : List Sa, len = xs.length ∧ Sas W t0 xs ∧ len ≤ 9223372036854775807 := by
  obtain ⟨fuel, hf⟩ := h
  obtain ⟨a, cap', xs, e, hz, hm⟩ := sas_of hf
  simp [Value.cells] at e
  obtain ⟨rfl, rfl, rfl⟩ := e
  exact ⟨xs, rfl, hz, hm⟩
theorem sa_of {base' : Nat} {r : Reach} {v : Value} {d : DataW H} {p : List MemPlace} (hv : Value.okWide Try.prog W r base' 33 v) (h : DataW.Trod enc Try.prog W base sp held 33 v d p) : ∃ x : Sa, v = .agg #[.int .i64 x.size, .int .i64 x.before, .int .i64 x.behind, .bool x.ab, .bool x.ah, .int .i64 x.al, .int .i64 x.base] ∧ x.inr := by
  obtain ⟨fuel, hf⟩ := h
  unfold Value.okWide at hv
  rw [Try.underlying33] at hv
  obtain ⟨cs, rfl, hsz, _⟩ := hv
  have hf' : DataW.trod enc Try.prog W base sp held fuel 33 cs.toList = some (d, p) := hf
  obtain ⟨x, ex, hxr⟩ := leaf_sa (l := cs.toList) (by rw [Array.length_toList]; exact hsz.trans (by kernel_rfl)) (fun j k hj => good_side _ _ _ hf' j k hj)
  exact ⟨x, congrArg Value.agg (show cs = x.A from arr_eq ex), hxr⟩
end
end Go.Proofs.Ytdpibpelghnihaa

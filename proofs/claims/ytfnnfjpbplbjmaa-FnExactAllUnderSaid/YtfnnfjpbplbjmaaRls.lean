/-
  Slices of rules (three ints each) as flat lists of ints: one that came in, one that the call made; the argument of type Table opened. Conditions: those of the lemma.
-/
import Derived.Test.YtfnnfjpbplbjmaaRowI
import Derived.Test.YtfnnfjpbplbjmaaOpen
import Derived.Deep.Slices
import Derived.Deep.MidRow
namespace Go.Proofs.Ytfnnfjpbplbjmaa
open Go.ChangeShapes Go.WideShapes Go.ChangeAt Go.RowKit
set_option maxRecDepth 8000

/-- len rules lie at a: their ints are zs. -/
def Rls (w : World) (a : Option Addr) (len : Nat) (zs : List Int) : Prop :=
  zs.length = len * 3 ∧ AllI zs ∧
  (len = 0 ∨ ∃ b off, a = some ⟨b, off, none⟩ ∧ b < w.heap.size ∧ ∀ i, i < len * 3 → w.cell? ⟨b, off + i, none⟩ = some (.int .i64 (zs.getD i 0)))
/-- A row of rules of one's own. -/
def RowR (base : Nat) (v : Value) (len : Nat) (zs : List Int) (w : World) : Prop := w.ownsRow base 137 3 v len (zs.map (Value.int .i64))

theorem Rls.below {w w' : World} {a : Option Addr} {len : Nat} {zs : List Int} (h : Rls w a len zs) (hb : Below w.heap.size w w') : Rls w' a len zs := by
  refine ⟨h.1, h.2.1, ?_⟩
  rcases h.2.2 with h0 | ⟨b, off, ha, hlt, hc⟩
  · exact Or.inl h0
  · exact Or.inr ⟨b, off, ha, Nat.lt_of_lt_of_le hlt hb.size, fun i hi => (hb.cell (p := ⟨b, off + i, none⟩) hlt).trans (hc i hi)⟩
theorem Rls.look {w : World} {a : Option Addr} {len : Nat} {zs : List Int} (h : Rls w a len zs) {k : Nat} (hk : k < len) :
    ∃ b off, a = some ⟨b, off, none⟩ ∧ b < w.heap.size ∧ w.cell? ⟨b, off + k * 3, none⟩ = some (.int .i64 (zs.getD (k * 3) 0)) ∧ w.cell? ⟨b, off + k * 3 + 1, none⟩ = some (.int .i64 (zs.getD (k * 3 + 1) 0)) ∧ w.cell? ⟨b, off + k * 3 + 2, none⟩ = some (.int .i64 (zs.getD (k * 3 + 2) 0)) := by
  rcases h.2.2 with h0 | ⟨b, off, ha, hb, hc⟩
  · omega
  · exact ⟨b, off, ha, hb, hc _ (by omega), by rw [Nat.add_assoc]; exact hc _ (by omega), by rw [Nat.add_assoc]; exact hc _ (by omega)⟩
theorem Rls.in1 {w : World} {a : Option Addr} {len : Nat} {zs : List Int} (h : Rls w a len zs) {k : Nat} (hk : k < len * 3) : -9223372036854775808 ≤ zs.getD k 0 ∧ zs.getD k 0 ≤ 9223372036854775807 :=
  h.2.1 _ (by
    have : k < zs.length := by rw [h.1]; exact hk
    simp [List.getD, this])
theorem RowR.size {base len : Nat} {v : Value} {zs : List Int} {w : World} (h : RowR base v len zs w) : zs.length = len * 3 := by simpa using h.1
theorem RowR.rls {base g len cap : Nat} {zs : List Int} {w : World} (h : RowR base (.slice (some ⟨g, 0, none⟩) len cap) len zs w) (hr : AllI zs) : Rls w (some ⟨g, 0, none⟩) len zs := by
  refine ⟨h.size, hr, Or.inr ⟨g, 0, rfl, (World.ownsRow.lt h g rfl).2, fun j hj => ?_⟩⟩
  have hs := h.size
  rw [Nat.zero_add, World.ownsRow.cellAt h j hj]
  simp [show j < zs.length by omega]
theorem RowR.slice {base len : Nat} {v : Value} {zs : List Int} {w : World} (h : RowR base v len zs w) (hr : AllI zs) : ∃ a cap, v = .slice a len cap ∧ Rls w a len zs := by
  rcases h.2 with ⟨h1, h2⟩ | ⟨g, cap, cur, h1, _⟩
  · exact ⟨none, 0, by rw [h1, h2], h.size, hr, Or.inl h2⟩
  · subst h1
    exact ⟨_, cap, rfl, h.rls hr⟩
theorem RowR.kept {b len : Nat} {v : Value} {zs : List Int} {w w' : World} {row : Option Nat} (h : RowR b v len zs w) (hg : w.grownBy w' row) (hne : v.ownBlock = none ∨ v.ownBlock ≠ row) : RowR b v len zs w' := World.ownsRow.kept h hg hne
theorem RowR.below {b len : Nat} {v : Value} {zs : List Int} {w w' : World} (h : RowR b v len zs w) (hb : Below w.heap.size w w') : RowR b v len zs w' :=
  World.ownsRow.kept h ⟨hb.os, hb.tape, hb.output, hb.size, fun k hk _ => hb.block k hk⟩ (by cases v.ownBlock <;> simp : v.ownBlock = none ∨ v.ownBlock ≠ none)
theorem RowR.lower {b b' len : Nat} {v : Value} {zs : List Int} {w : World} (h : RowR b v len zs w) (hb : b' ≤ b) : RowR b' v len zs w := by
  refine ⟨h.1, ?_⟩
  rcases h.2 with h0 | ⟨g, cap, cur, h1, h2, h3⟩
  · exact Or.inl h0
  · exact Or.inr ⟨g, cap, cur, h1, Nat.le_trans hb h2, h3⟩

/-- A slice of rules that came in. -/
theorem rls_of {H : Type} {enc : TypeId × Value → H} {W : World} {base fuel : Nat} {sp : Nat → Bool} {held : Bool} {t e : TypeId} {fs : Array Field} {cs : List Value} {x : DataW H × List MemPlace}
    (ht : Try.prog.underlying t = some (.slice e)) (he : Try.prog.underlying e = some (.struct fs)) (hn : Try.prog.cellsOf e = 3) (hf : ∀ i, i < 3 → ∃ f, fs[i]? = some f ∧ f.offset = i ∧ f.type = 3)
    (h : DataW.trod enc Try.prog W base sp held fuel t cs = some x) : ∃ a len cap zs, cs = [.slice a len cap] ∧ Rls W a len zs ∧ len ≤ 9223372036854775807 := by
  rcases Go.Deep.open_slice ht h with ⟨rfl, _⟩ | ⟨a, len, cap, m, n, D, Pl, rfl, hb, hl, hm, hmm, _, hx⟩
  · exact ⟨none, 0, 0, [], rfl, ⟨rfl, (fun z hz => by simp at hz), Or.inl rfl⟩, by omega⟩
  · unfold maxLen at hm
    have hlm : len ≤ m := by rw [hmm]; split <;> omega
    have key : ∀ j, j < m * 3 → ∃ z : Int, W.cell? (a.add j) = some (.int .i64 z) ∧ (-9223372036854775808 ≤ z ∧ z ≤ 9223372036854775807) := by
      intro j hj
      obtain ⟨cs', h1, h2⟩ := hx (j / 3) (by omega)
      rw [hn] at h1
      obtain ⟨_, hlen, hcell⟩ := World.cells?_some h1
      obtain ⟨xs, k, hk, hxy, _, hxl, hfd⟩ := DataW.trod_struct he h2
      obtain ⟨f, hf1, hf2, hf3⟩ := hf (j % 3) (by omega)
      have g0 := hfd (j % 3) f hf1
      rw [hf2, hf3, show Try.prog.cellsOf 3 = 1 by kernel_rfl] at g0
      have hsz : j % 3 < xs.length := by rw [hxl]; exact (Array.getElem?_eq_some_iff.1 hf1).1
      rw [List.getElem?_eq_getElem hsz] at g0
      obtain ⟨z, hz1, _, hz3⟩ := DataW.trod_int Try.underlying3 g0
      have hc := hcell (j % 3) (by omega)
      rw [Go.Deep.add_add] at hc
      rw [show j / 3 * 3 + j % 3 = j by omega] at hc
      have hv : cs'[j % 3]? = some (.int .i64 z) := by
        have : ((cs'.drop (j % 3)).take 1)[0]? = some (.int .i64 z) := by rw [hz1]; rfl
        simpa using this
      exact ⟨z, hc.trans hv, bounds_i64 hz3⟩
    obtain ⟨f, hff⟩ := Go.Deep.choose_lt key
    refine ⟨some a, len, cap, (List.range (len * 3)).map f, rfl, ⟨by simp, fun z hz => ?_, ?_⟩, by omega⟩
    · obtain ⟨j, hj, rfl⟩ := List.mem_map.1 hz
      exact (hff j (by have := List.mem_range.1 hj; omega)).2
    · by_cases h0 : len = 0
      · exact Or.inl h0
      · obtain ⟨b, off, spot⟩ := a
        have hc := (hff 0 (by omega)).1
        have hspot : spot = none := by simpa [Addr.add] using World.cell?_spot hc
        subst hspot
        refine Or.inr ⟨b, off, rfl, ?_, fun i hi => ?_⟩
        · have := World.block_lt_of_cell? W _ hc
          simpa [Addr.add] using this
        · have hci := (hff i (by omega)).1
          rw [show ((List.range (len * 3)).map f).getD i 0 = f i by simp [List.getD, hi], ← hci]
          congr 1; simp [Addr.add]
/-- An argument of type Table. -/
theorem tab_of {H : Type} {enc : TypeId × Value → H} {W : World} {base base' : Nat} {r : Reach} {sp : Nat → Bool} {held : Bool} {v : Value} {d : DataW H} {p : List MemPlace}
    (hv : Value.okWide Try.prog W r base' 157 v) (h : DataW.Trod enc Try.prog W base sp held 157 v d p) : ∃ a len cap zs, v = .agg #[.slice a len cap] ∧ Rls W a len zs ∧ len ≤ 9223372036854775807 := by
  obtain ⟨fuel, hf⟩ := h
  unfold Value.okWide at hv
  rw [Try.underlying157] at hv
  obtain ⟨cs, rfl, hsz, _⟩ := hv
  have hf' : DataW.trod enc Try.prog W base sp held fuel 157 cs.toList = some (d, p) := hf
  obtain ⟨xs, n, _, _, _, hxl, hfd⟩ := DataW.trod_struct Try.underlying157 hf'
  have hn : Try.prog.cellsOf 157 = 1 := by kernel_rfl
  rw [hn] at hsz
  have g0 := hfd 0 _ rfl
  have h0x : 0 < xs.length := by rw [hxl]; decide
  rw [List.getElem?_eq_getElem h0x] at g0
  have g0' : DataW.trod enc Try.prog W base sp held n 155 ((cs.toList.drop 0).take (Try.prog.cellsOf 155)) = some xs[0] := g0
  rw [show Try.prog.cellsOf 155 = 1 by kernel_rfl] at g0'
  obtain ⟨a, len, cap, zs, hcs, hz, hl⟩ := rls_of Try.underlying155 Try.underlying194 (by kernel_rfl) (fun i hi => by
    match i, hi with
    | 0, _ => exact ⟨_, rfl, rfl, rfl⟩
    | 1, _ => exact ⟨_, rfl, rfl, rfl⟩
    | 2, _ => exact ⟨_, rfl, rfl, rfl⟩) g0'
  refine ⟨a, len, cap, zs, ?_, hz, hl⟩
  have hcl : cs.toList = [.slice a len cap] := by
    rw [← hcs]
    match hq : cs.toList, (show cs.toList.length = 1 by simpa using hsz) with
    | [y], _ => simp
  rw [show cs = #[.slice a len cap] by rw [← Array.toArray_toList (xs := cs), hcl]]
end Go.Proofs.Ytfnnfjpbplbjmaa

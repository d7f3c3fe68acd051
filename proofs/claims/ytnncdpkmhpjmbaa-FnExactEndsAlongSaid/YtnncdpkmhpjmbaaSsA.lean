/-
  Slices of slices of ints: such that lie somewhere to be read, and an outer row of one's own. Conditions: those of each lemma.
-/
import Derived.Test.YtnncdpkmhpjmbaaRwP
import Derived.Test.YtnncdpkmhpjmbaaRgA
import Derived.Laws.OwnMore
import Derived.OwnWalk
namespace Go.Proofs.Ytnncdpkmhpjmbaa
open Go.ChangeShapes Go.WideShapes Go.ChangeAt Go.RowKit
set_option linter.unusedVariables false
set_option linter.unusedSimpArgs false
set_option maxRecDepth 8000

theorem info_ints : (Try.prog.info? 24).map (fun i => (i.zero, i.size, i.bytes)) = some (some (.slice none 0 0), 1, 24) := by kernel_rfl
/-- Lists to be read. -/
def Ss (w : World) (a : Option Addr) (L : List (List Int)) : Prop :=
  (∀ l ∈ L, AllI l) ∧ (L = [] ∨ ∃ b off, a = some ⟨b, off, none⟩ ∧ b < w.heap.size ∧ ∀ (k : Nat) (l : List Int), L[k]? = some l → ∃ ak ck, w.cell? ⟨b, off + k, none⟩ = some (.slice ak l.length ck) ∧ Ints w ak l.length l)
/-- List number k. -/
def lnD (L : List (List Int)) (k : Nat) : List Int := L.getD k []
theorem lnD_eq {L : List (List Int)} {k : Nat} (h : k < L.length) : L[k]? = some (lnD L k) := by simp [lnD, List.getD, h]
theorem lnD_mem {L : List (List Int)} {k : Nat} (h : k < L.length) : lnD L k ∈ L := List.mem_of_getElem? (lnD_eq h)
theorem Ss.below {w w' : World} {a : Option Addr} {L : List (List Int)} (h : Ss w a L) (hb : Below w.heap.size w w') : Ss w' a L := by
  refine ⟨h.1, ?_⟩
  rcases h.2 with h0 | ⟨b, off, ha, hlt, hc⟩
  · exact Or.inl h0
  · refine Or.inr ⟨b, off, ha, Nat.lt_of_lt_of_le hlt hb.size, fun k l hk => ?_⟩
    obtain ⟨ak, ck, h1, h2⟩ := hc k l hk
    exact ⟨ak, ck, (hb.cell (by exact hlt)).trans h1, h2.below hb⟩
theorem Ss.look {w : World} {a : Option Addr} {L : List (List Int)} (h : Ss w a L) {k : Nat} (hk : k < L.length) :
    ∃ b off ak ck, a = some ⟨b, off, none⟩ ∧ b < w.heap.size ∧ w.cell? ⟨b, off + k, none⟩ = some (.slice ak (lnD L k).length ck) ∧ Ints w ak (lnD L k).length (lnD L k) := by
  rcases h.2 with h0 | ⟨b, off, ha, hlt, hc⟩
  · subst h0; simp at hk
  · obtain ⟨ak, ck, h1, h2⟩ := hc k _ (lnD_eq hk)
    exact ⟨b, off, ak, ck, ha, hlt, h1, h2⟩
/-- An outer row of one's own; the lists lie outside it. -/
def Ss1 (lo : Nat) (v : Value) (L : List (List Int)) (w : World) : Prop :=
  (∀ l ∈ L, AllI l) ∧ ∃ hs : List Value, w.ownsRow lo 24 1 v L.length hs ∧ hs.length = L.length ∧ ∀ (k : Nat) (l : List Int), L[k]? = some l → ∃ ak ck, hs[k]? = some (.slice ak l.length ck) ∧ Ints w ak l.length l ∧ (∀ b off, ak = some ⟨b, off, none⟩ → lo ≤ b ∧ b < w.heap.size ∧ v.ownBlock ≠ some b)
theorem Ss1.read {lo : Nat} {v : Value} {L : List (List Int)} {w : World} (h : Ss1 lo v L w) : ∃ a cap, v = .slice a L.length cap ∧ Ss w a L := by
  obtain ⟨hall, hs, ho, hl, hk⟩ := h
  rcases ho.2 with ⟨h1, h2⟩ | ⟨g, cap, cur, h1, _⟩
  · have h2' : L.length = 0 := h2
    exact ⟨none, 0, by rw [h1, h2'], hall, Or.inl (List.length_eq_zero_iff.1 h2')⟩
  · subst h1
    refine ⟨_, cap, rfl, hall, Or.inr ⟨g, 0, rfl, (World.ownsRow.lt ho g rfl).2, fun k l hkl => ?_⟩⟩
    obtain ⟨ak, ck, e1, e2, _⟩ := hk k l hkl
    have hlt : k < hs.length := (List.getElem?_eq_some_iff.1 e1).1
    refine ⟨ak, ck, ?_, e2⟩
    rw [Nat.zero_add, World.ownsRow.cellAt ho k (by omega), e1]
theorem Ints.grownX {w w' : World} {a : Option Addr} {len : Nat} {zs : List Int} {row : Option Nat} (h : Ints w a len zs) (hg : w.grownBy w' row) (hne : ∀ b off, a = some ⟨b, off, none⟩ → row ≠ some b) : Ints w' a len zs := by
  refine ⟨h.1, h.2.1, ?_⟩
  rcases h.2.2 with h0 | ⟨b, off, ha, hlt, hc⟩
  · exact Or.inl h0
  · exact Or.inr ⟨b, off, ha, Nat.lt_of_lt_of_le hlt hg.size, fun i hi => hg.cell (hc i hi) (fun e => hne b off ha e.symm)⟩
theorem Ss1.below {lo : Nat} {v : Value} {L : List (List Int)} {w w' : World} (h : Ss1 lo v L w) (hb : Below w.heap.size w w') : Ss1 lo v L w' := by
  obtain ⟨hall, hs, ho, hl, hk⟩ := h
  refine ⟨hall, hs, World.ownsRow.kept ho ⟨hb.os, hb.tape, hb.output, hb.size, fun k hk _ => hb.block k hk⟩ (by cases v.ownBlock <;> simp : v.ownBlock = none ∨ v.ownBlock ≠ none), hl, fun k l hkl => ?_⟩
  obtain ⟨ak, ck, e1, e2, e3⟩ := hk k l hkl
  exact ⟨ak, ck, e1, e2.below hb, fun b off e => ⟨(e3 b off e).1, Nat.lt_of_lt_of_le (e3 b off e).2.1 hb.size, (e3 b off e).2.2⟩⟩
theorem gr_one (w : World) (g j : Nat) (u : Value) : w.grownBy (w.setCell ⟨g, j, none⟩ u) (some g) :=
  ⟨rfl, rfl, rfl, by simp [World.setCell], fun i hi hne => Below.heap_setCell w ⟨g, j, none⟩ u i (by rintro rfl; exact hne rfl)⟩
/-- What an append of one list leaves. -/
theorem Ss1.push {lo : Nat} {v v' : Value} {L : List (List Int)} {l : List Int} {w w' : World} {ak : Option Addr} {ck : Nat} {hs : List Value} (hall : ∀ l ∈ L, AllI l) (hl : AllI l) (hn : hs.length = L.length)
    (hk : ∀ (k : Nat) (l : List Int), L[k]? = some l → ∃ ak ck, hs[k]? = some (.slice ak l.length ck) ∧ Ints w ak l.length l ∧ (∀ b off, ak = some ⟨b, off, none⟩ → lo ≤ b ∧ b < w.heap.size ∧ v.ownBlock ≠ some b))
    (ho : w'.ownsRow lo 24 1 v' (L.length + 1) (hs ++ [.slice ak l.length ck])) (hg : w.grownBy w' v.ownBlock) (hi : Ints w ak l.length l) (hne : ∀ b off, ak = some ⟨b, off, none⟩ → lo ≤ b ∧ b < w.heap.size ∧ v.ownBlock ≠ some b)
    (hloc : v'.ownBlock = v.ownBlock ∨ v'.ownBlock = some w.heap.size) : Ss1 lo v' (L ++ [l]) w' := by
  have hne' : ∀ {a : Option Addr}, (∀ b off, a = some ⟨b, off, none⟩ → lo ≤ b ∧ b < w.heap.size ∧ v.ownBlock ≠ some b) → ∀ b off, a = some ⟨b, off, none⟩ → lo ≤ b ∧ b < w'.heap.size ∧ v'.ownBlock ≠ some b := by
    intro a h1 b off e
    have h2 := h1 b off e
    refine ⟨h2.1, Nat.lt_of_lt_of_le h2.2.1 hg.size, ?_⟩
    rcases hloc with hl | hl
    · rw [hl]; exact h2.2.2
    · rw [hl]
      intro e2; injection e2 with e2; omega
  refine ⟨fun q hq => ?_, hs ++ [.slice ak l.length ck], by rw [List.length_append]; exact ho, by rw [List.length_append, List.length_append, hn]; rfl, fun k q hkq => ?_⟩
  · rcases List.mem_append.1 hq with hq | hq
    · exact hall q hq
    · rw [List.mem_singleton.1 hq]; exact hl
  · by_cases h : k < L.length
    · rw [List.getElem?_append_left h] at hkq
      obtain ⟨a1, c1, e1, e2, e3⟩ := hk k q hkq
      exact ⟨a1, c1, by rw [List.getElem?_append_left (by omega)]; exact e1, e2.grownX hg (fun b off e => (e3 b off e).2.2), hne' e3⟩
    · have hkl : k = L.length := by
        have := (List.getElem?_eq_some_iff.1 hkq).1
        rw [List.length_append] at this
        simp at this; omega
      subst hkl
      rw [List.getElem?_append_right (Nat.le_refl _), Nat.sub_self] at hkq
      obtain rfl : l = q := by simpa using hkq
      exact ⟨ak, ck, by rw [List.getElem?_append_right (by omega), hn, Nat.sub_self]; rfl, hi.grownX hg (fun b off e => (hne b off e).2.2), hne' hne⟩
/-- What hands back lists in an outer row of its own. -/
def OutPostS (L : List (List Int)) (w : World) (e : Ending) (w' : World) : Prop := ∃ v, e = .returned v ∧ Ss1 w.heap.size v L w' ∧ Below w.heap.size w w'
/-- Lists to be read whose memory lies in blocks of a kind. -/
def SsP (P : Nat → Prop) (w : World) (a : Option Addr) (L : List (List Int)) : Prop :=
  (∀ l ∈ L, AllI l) ∧ (L = [] ∨ ∃ b off, a = some ⟨b, off, none⟩ ∧ P b ∧ b < w.heap.size ∧ ∀ (k : Nat) (l : List Int), L[k]? = some l → ∃ ak ck, w.cell? ⟨b, off + k, none⟩ = some (.slice ak l.length ck) ∧ Ints w ak l.length l ∧ ∀ b' o', ak = some ⟨b', o', none⟩ → P b')
theorem SsP.ss {P : Nat → Prop} {w : World} {a : Option Addr} {L : List (List Int)} (h : SsP P w a L) : Ss w a L := by
  refine ⟨h.1, ?_⟩
  rcases h.2 with h0 | ⟨b, off, ha, _, hlt, hc⟩
  · exact Or.inl h0
  · exact Or.inr ⟨b, off, ha, hlt, fun k l hk => by obtain ⟨ak, ck, h1, h2, _⟩ := hc k l hk; exact ⟨ak, ck, h1, h2⟩⟩
theorem SsP.below {P : Nat → Prop} {w w' : World} {a : Option Addr} {L : List (List Int)} (h : SsP P w a L) (hb : Below w.heap.size w w') : SsP P w' a L := by
  refine ⟨h.1, ?_⟩
  rcases h.2 with h0 | ⟨b, off, ha, hB, hlt, hc⟩
  · exact Or.inl h0
  · refine Or.inr ⟨b, off, ha, hB, Nat.lt_of_lt_of_le hlt hb.size, fun k l hk => ?_⟩
    obtain ⟨ak, ck, h1, h2, h3⟩ := hc k l hk
    exact ⟨ak, ck, (hb.cell (by exact hlt)).trans h1, h2.below hb, h3⟩
theorem SsP.kept {P : Nat → Prop} {w w' : World} {a : Option Addr} {L : List (List Int)} {row : Option Nat} (h : SsP P w a L) (hg : w.grownBy w' row) (hr : ∀ b, row = some b → ¬ P b) : SsP P w' a L := by
  refine ⟨h.1, ?_⟩
  rcases h.2 with h0 | ⟨b, off, ha, hB, hlt, hc⟩
  · exact Or.inl h0
  · refine Or.inr ⟨b, off, ha, hB, Nat.lt_of_lt_of_le hlt hg.size, fun k l hk => ?_⟩
    obtain ⟨ak, ck, h1, h2, h3⟩ := hc k l hk
    exact ⟨ak, ck, hg.cell h1 (fun e => hr b e.symm hB), h2.grownX hg (fun b' o' e e2 => hr b' e2 (h3 b' o' e)), h3⟩
theorem Ss1.readP {lo : Nat} {v : Value} {L : List (List Int)} {w : World} (h : Ss1 lo v L w) : ∃ a cap, v = .slice a L.length cap ∧ SsP (fun b => lo ≤ b ∧ b < w.heap.size) w a L := by
  obtain ⟨hall, hs, ho, hl, hk⟩ := h
  rcases ho.2 with ⟨h1, h2⟩ | ⟨g, cap, cur, h1, _⟩
  · have h2' : L.length = 0 := h2
    exact ⟨none, 0, by rw [h1, h2'], hall, Or.inl (List.length_eq_zero_iff.1 h2')⟩
  · subst h1
    have hlt := World.ownsRow.lt ho g rfl
    refine ⟨_, cap, rfl, hall, Or.inr ⟨g, 0, rfl, hlt, hlt.2, fun k l hkl => ?_⟩⟩
    obtain ⟨ak, ck, e1, e2, e3⟩ := hk k l hkl
    have hlt : k < hs.length := (List.getElem?_eq_some_iff.1 e1).1
    refine ⟨ak, ck, ?_, e2, fun b o e => ⟨(e3 b o e).1, (e3 b o e).2.1⟩⟩
    rw [Nat.zero_add, World.ownsRow.cellAt ho k (by omega), e1]
end Go.Proofs.Ytnncdpkmhpjmbaa

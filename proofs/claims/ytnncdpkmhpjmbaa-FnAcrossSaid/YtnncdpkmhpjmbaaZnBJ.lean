import Derived.Laws.OwnMore
import Derived.OwnWalk
import Derived.Test.YtnncdpkmhpjmbaaZnAH
import Derived.Test.YtnncdpkmhpjmbaaZnAK
section
namespace Go.Proofs.Ytnncdpkmhpjmbaa
open Go.ChangeShapes Go.WideShapes Go.ChangeAt Go.RowKit
set_option linter.unusedVariables false
set_option linter.unusedSimpArgs false
set_option maxRecDepth 8000

/-- Lists to be read. -/
def Ss (w : World) (a : Option Addr) (L : List (List Int)) : Prop :=
  (∀ l ∈ L, AllI l) ∧ (L = [] ∨ ∃ b off, a = some ⟨b, off, none⟩ ∧ b < w.heap.size ∧ ∀ (k : Nat) (l : List Int), L[k]? = some l → ∃ ak ck, w.cell? ⟨b, off + k, none⟩ = some (.slice ak l.length ck) ∧ Ints w ak l.length l)
/-- List number k. -/
def lnD (L : List (List Int)) (k : Nat) : List Int := L.getD k []
theorem lnD_eq {L : List (List Int)} {k : Nat} (h : k < L.length) : L[k]? = some (lnD L k) := by simp [lnD, List.getD, h]
theorem Ss.below {w w' : World} {a : Option Addr} {L : List (List Int)} (h : Ss w a L) (hb : Below w.heap.size w w') : Ss w' a L := by
  refine ⟨h.1, ?_⟩
  rcases h.2 with h0 | ⟨b, off, ha, hlt, hc⟩
  · exact Or.inl h0
  · refine Or.inr ⟨b, off, ha, Nat.lt_of_lt_of_le hlt hb.size, fun k l hk => ?_⟩
    obtain ⟨ak, ck, h1, h2⟩ := hc k l hk
    exact ⟨ak, ck, (hb.cell (by exact hlt)).trans h1, h2.below hb⟩
theorem Ss.look {w : World} {a : Option Addr} {L : List (List Int)} (h : Ss w a L) {k : Nat} (hk : k < L.length) :
    ∃ b off ak ck, a = some ⟨b, off, none⟩ ∧ b < w.heap.size ∧ w.cell? ⟨b, off + k, none⟩ = some (.slice ak (lnD L k).length ck) ∧ Ints w ak (lnD L k).length (lnD L k) := by
  rcases h.2 with h0 | ⟨b, off, ha, hlt, hc⟩
  · subst h0; simp at hk
  · obtain ⟨ak, ck, h1, h2⟩ := hc k _ (lnD_eq hk)
    exact ⟨b, off, ak, ck, ha, hlt, h1, h2⟩
/-- An outer row of one's own; the lists lie outside it. -/
def Ss1 (lo : Nat) (v : Value) (L : List (List Int)) (w : World) : Prop :=
  (∀ l ∈ L, AllI l) ∧ ∃ hs : List Value, w.ownsRow lo 24 1 v L.length hs ∧ hs.length = L.length ∧ ∀ (k : Nat) (l : List Int), L[k]? = some l → ∃ ak ck, hs[k]? = some (.slice ak l.length ck) ∧ Ints w ak l.length l ∧ (∀ b off, ak = some ⟨b, off, none⟩ → lo ≤ b ∧ b < w.heap.size ∧ v.ownBlock ≠ some b)
theorem Ss1.read {lo : Nat} {v : Value} {L : List (List Int)} {w : World} (h : Ss1 lo v L w) : ∃ a cap, v = .slice a L.length cap ∧ Ss w a L := by
  obtain ⟨hall, hs, ho, hl, hk⟩ := h
  rcases ho.2 with ⟨h1, h2⟩ | ⟨g, cap, cur, h1, _⟩
  · have h2' : L.length = 0 := h2
    exact ⟨none, 0, by rw [h1, h2'], hall, Or.inl (List.length_eq_zero_iff.1 h2')⟩
  · subst h1
    refine ⟨_, cap, rfl, hall, Or.inr ⟨g, 0, rfl, (World.ownsRow.lt ho g rfl).2, fun k l hkl => ?_⟩⟩
    obtain ⟨ak, ck, e1, e2, _⟩ := hk k l hkl
    have hlt : k < hs.length := (List.getElem?_eq_some_iff.1 e1).1
    refine ⟨ak, ck, ?_, e2⟩
    rw [Nat.zero_add, World.ownsRow.cellAt ho k (by omega), e1]
theorem Ints.grownX {w w' : World} {a : Option Addr} {len : Nat} {zs : List Int} {row : Option Nat} (h : Ints w a len zs) (hg : w.grownBy w' row) (hne : ∀ b off, a = some ⟨b, off, none⟩ → row ≠ some b) : Ints w' a len zs := by
  refine ⟨h.1, h.2.1, ?_⟩
  rcases h.2.2 with h0 | ⟨b, off, ha, hlt, hc⟩
  · exact Or.inl h0
  · exact Or.inr ⟨b, off, ha, Nat.lt_of_lt_of_le hlt hg.size, fun i hi => hg.cell (hc i hi) (fun e => hne b off ha e.symm)⟩
theorem Ss1.below {lo : Nat} {v : Value} {L : List (List Int)} {w w' : World} (h : Ss1 lo v L w) (hb : Below w.heap.size w w') : Ss1 lo v L w' := by
  obtain ⟨hall, hs, ho, hl, hk⟩ := h
  refine ⟨hall, hs, World.ownsRow.kept ho ⟨hb.os, hb.tape, hb.output, hb.size, fun k hk _ => hb.block k hk⟩ (by cases v.ownBlock <;> simp : v.ownBlock = none ∨ v.ownBlock ≠ none), hl, fun k l hkl => ?_⟩
  obtain ⟨ak, ck, e1, e2, e3⟩ := hk k l hkl
  exact ⟨ak, ck, e1, e2.below hb, fun b off e => ⟨(e3 b off e).1, Nat.lt_of_lt_of_le (e3 b off e).2.1 hb.size, (e3 b off e).2.2⟩⟩
/-- Lists to be read whose memory lies in blocks of a kind. -/
def SsP (P : Nat → Prop) (w : World) (a : Option Addr) (L : List (List Int)) : Prop :=
  (∀ l ∈ L, AllI l) ∧ (L = [] ∨ ∃ b off, a = some ⟨b, off, none⟩ ∧ P b ∧ b < w.heap.size ∧ ∀ (k : Nat) (l : List Int), L[k]? = some l → ∃ ak ck, w.cell? ⟨b, off + k, none⟩ = some (.slice ak l.length ck) ∧ Ints w ak l.length l ∧ ∀ b' o', ak = some ⟨b', o', none⟩ → P b')
theorem SsP.below {P : Nat → Prop} {w w' : World} {a : Option Addr} {L : List (List Int)} (h : SsP P w a L) (hb : Below w.heap.size w w') : SsP P w' a L := by
  refine ⟨h.1, ?_⟩
  rcases h.2 with h0 | ⟨b, off, ha, hB, hlt, hc⟩
  · exact Or.inl h0
  · refine Or.inr ⟨b, off, ha, hB, Nat.lt_of_lt_of_le hlt hb.size, fun k l hk => ?_⟩
    obtain ⟨ak, ck, h1, h2, h3⟩ := hc k l hk
    exact ⟨ak, ck, (hb.cell (by exact hlt)).trans h1, h2.below hb, h3⟩
theorem SsP.kept {P : Nat → Prop} {w w' : World} {a : Option Addr} {L : List (List Int)} {row : Option Nat} (h : SsP P w a L) (hg : w.grownBy w' row) (hr : ∀ b, row = some b → ¬ P b) : SsP P w' a L := by
  refine ⟨h.1, ?_⟩
  rcases h.2 with h0 | ⟨b, off, ha, hB, hlt, hc⟩
  · exact Or.inl h0
  · refine Or.inr ⟨b, off, ha, hB, Nat.lt_of_lt_of_le hlt hg.size, fun k l hk => ?_⟩
    obtain ⟨ak, ck, h1, h2, h3⟩ := hc k l hk
    exact ⟨ak, ck, hg.cell h1 (fun e => hr b e.symm hB), h2.grownX hg (fun b' o' e e2 => hr b' e2 (h3 b' o' e)), h3⟩
end Go.Proofs.Ytnncdpkmhpjmbaa
end

/-
  What the law of LinesOf keeps: lists below a bound, the program's lines beside other rows. Conditions: those of each lemma.
-/
import Derived.Test.YtcnmchcleghcgaaLnK
import Derived.Test.YtcnmchcleghcgaaLnS
namespace Go.Proofs.Ytcnmchcleghcgaa
open Go.ChangeShapes Go.WideShapes Go.ChangeAt Go.RowKit
set_option linter.unusedVariables false

/-- Lists to be read whose memory lies below B. -/
def SsB (B : Nat) (w : World) (a : Option Addr) (L : List (List Int)) : Prop :=
  (∀ l ∈ L, AllI l) ∧ (L = [] ∨ ∃ b off, a = some ⟨b, off, none⟩ ∧ b < B ∧ b < w.heap.size ∧ ∀ (k : Nat) (l : List Int), L[k]? = some l → ∃ ak ck, w.cell? ⟨b, off + k, none⟩ = some (.slice ak l.length ck) ∧ Ints w ak l.length l ∧ ∀ b' o', ak = some ⟨b', o', none⟩ → b' < B)
theorem SsB.ss {B : Nat} {w : World} {a : Option Addr} {L : List (List Int)} (h : SsB B w a L) : Ss w a L := by
  refine ⟨h.1, ?_⟩
  rcases h.2 with h0 | ⟨b, off, ha, _, hlt, hc⟩
  · exact Or.inl h0
  · exact Or.inr ⟨b, off, ha, hlt, fun k l hk => by obtain ⟨ak, ck, h1, h2, _⟩ := hc k l hk; exact ⟨ak, ck, h1, h2⟩⟩
theorem SsB.below {B : Nat} {w w' : World} {a : Option Addr} {L : List (List Int)} (h : SsB B w a L) (hb : Below w.heap.size w w') : SsB B w' a L := by
  refine ⟨h.1, ?_⟩
  rcases h.2 with h0 | ⟨b, off, ha, hB, hlt, hc⟩
  · exact Or.inl h0
  · refine Or.inr ⟨b, off, ha, hB, Nat.lt_of_lt_of_le hlt hb.size, fun k l hk => ?_⟩
    obtain ⟨ak, ck, h1, h2, h3⟩ := hc k l hk
    exact ⟨ak, ck, (hb.cell (by exact hlt)).trans h1, h2.below hb, h3⟩
theorem SsB.kept {B : Nat} {w w' : World} {a : Option Addr} {L : List (List Int)} {row : Option Nat} (h : SsB B w a L) (hg : w.grownBy w' row) (hr : ∀ b, row = some b → B ≤ b) : SsB B w' a L := by
  refine ⟨h.1, ?_⟩
  rcases h.2 with h0 | ⟨b, off, ha, hB, hlt, hc⟩
  · exact Or.inl h0
  · refine Or.inr ⟨b, off, ha, hB, Nat.lt_of_lt_of_le hlt hg.size, fun k l hk => ?_⟩
    obtain ⟨ak, ck, h1, h2, h3⟩ := hc k l hk
    exact ⟨ak, ck, hg.cell h1 (fun e => by have := hr b e.symm; omega), h2.grownX hg (fun b' o' e e2 => by have := h3 b' o' e; have := hr b' e2; omega), h3⟩
theorem Ss1.readB {lo : Nat} {v : Value} {L : List (List Int)} {w : World} (h : Ss1 lo v L w) : ∃ a cap, v = .slice a L.length cap ∧ SsB w.heap.size w a L := by
  obtain ⟨hall, hs, ho, hl, hk⟩ := h
  rcases ho.2 with ⟨h1, h2⟩ | ⟨g, cap, cur, h1, _⟩
  · have h2' : L.length = 0 := h2
    exact ⟨none, 0, by rw [h1, h2'], hall, Or.inl (List.length_eq_zero_iff.1 h2')⟩
  · subst h1
    have hlt := (World.ownsRow.lt ho g rfl).2
    refine ⟨_, cap, rfl, hall, Or.inr ⟨g, 0, rfl, hlt, hlt, fun k l hkl => ?_⟩⟩
    obtain ⟨ak, ck, e1, e2, e3⟩ := hk k l hkl
    have hlt : k < hs.length := (List.getElem?_eq_some_iff.1 e1).1
    refine ⟨ak, ck, ?_, e2, fun b o e => (e3 b o e).2.1⟩
    rw [Nat.zero_add, World.ownsRow.cellAt ho k (by omega), e1]
theorem Ss1.ss {lo n c : Nat} {a : Option Addr} {L : List (List Int)} {w : World} (h : Ss1 lo (.slice a n c) L w) : Ss w a L := by
  obtain ⟨a', c', e, hs⟩ := h.read
  injection e with e1 _ _
  subst e1
  exact hs
theorem LnP.kept {lo g n : Nat} {v : Value} {ps : List (Nat × Nat)} {w w' : World} {row : Option Nat} (h : LnP lo v g n ps w) (hg : w.grownBy w' row) (hr : ∀ b, row = some b → b < lo) : LnP lo v g n ps w' := by
  refine ⟨World.ownsRow.kept h.out hg ?_, h.idx.kept hg ?_, h.ne⟩
  · cases hv : v.ownBlock with
    | none => exact Or.inl rfl
    | some b =>
      refine Or.inr fun e => ?_
      have := (World.ownsRow.lt h.out b hv).1
      have := hr b e.symm
      omega
  · refine Or.inr fun e => ?_
    have := (World.ownsRow.lt h.idx g rfl).1
    have := hr g e.symm
    omega
theorem lnL_len (xs : List It) (gap room : Int) (wraps : Bool) : (lnL xs gap room wraps).length ≤ xs.length := by
  unfold lnL; rw [List.length_map]; exact lnK_len _
theorem lnL_each {xs : List It} {gap room : Int} {wraps : Bool} (h : xs.length ≤ 1048576) : ∀ l ∈ lnL xs gap room wraps, l.length ≤ 1048576 := by
  intro l hl
  obtain ⟨p, hp, rfl⟩ := List.mem_map.1 hl
  have := lnK_pos xs.length p hp
  rw [lineI_len]
  omega
end Go.Proofs.Ytcnmchcleghcgaa

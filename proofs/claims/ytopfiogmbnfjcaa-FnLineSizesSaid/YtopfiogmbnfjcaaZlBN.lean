import Derived.BigQuiet
import Derived.Lib.QuietBelow
import Derived.Test.YtopfiogmbnfjcaaZlAE
import Derived.Test.YtopfiogmbnfjcaaZlAF
import Derived.Test.YtopfiogmbnfjcaaZlBL
import Derived.Test.YtopfiogmbnfjcaaZlBM
section
namespace Go.Proofs.Ytopfiogmbnfjcaa
open Go.ChangeShapes Go.WideShapes Go.ChangeAt Go.RowKit
set_option linter.unusedVariables false
set_option linter.unusedSimpArgs false
set_option maxRecDepth 8000

/-- Segments in a row, from s up to n. -/
def Chain : Nat → List (Nat × Nat) → Nat → Prop
  | s, [], n => s = n
  | s, p :: ps, n => p.1 = s ∧ s < p.2 ∧ Chain p.2 ps n
theorem chain_le : ∀ {ps : List (Nat × Nat)} {s n : Nat}, Chain s ps n → s ≤ n
  | [], _, _, h => Nat.le_of_eq h
  | p :: ps, s, n, h => by have := chain_le h.2.2; have := h.2.1; omega
theorem chain_snoc : ∀ {ps : List (Nat × Nat)} {s t u : Nat}, Chain s ps t → t < u → Chain s (ps ++ [(t, u)]) u
  | [], s, t, u, h, hu => by have : s = t := h; subst this; exact ⟨rfl, hu, rfl⟩
  | p :: ps, s, t, u, h, hu => ⟨h.1, h.2.1, chain_snoc h.2.2 hu⟩
theorem chain_last : ∀ {d : List (Nat × Nat)} {p : Nat × Nat} {s t : Nat}, Chain s (d ++ [p]) t → Chain s d p.1 ∧ p.2 = t ∧ p.1 < p.2
  | [], p, s, t, h => by obtain ⟨h1, h2, h3⟩ := h; exact ⟨h1.symm, h3, by omega⟩
  | q :: d, p, s, t, h => by
    obtain ⟨h1, h2, h3⟩ := h
    have := chain_last h3
    exact ⟨⟨h1, h2, this.1⟩, this.2⟩
theorem lnK_chain {xs : List It} {gap room : Int} {wraps : Bool} : ∀ i : Nat, Chain 0 (lnK xs gap room wraps i) i
  | 0 => rfl
  | i + 1 => by
    have ih := lnK_chain (xs := xs) (gap := gap) (room := room) (wraps := wraps) i
    by_cases h0 : i = 0
    · subst h0; exact ⟨rfl, by decide, rfl⟩
    · obtain ⟨p, hp, h2, h1⟩ := (lnK_ok (xs := xs) (gap := gap) (room := room) (wraps := wraps) i).some (by omega)
      rw [lnK_succ hp]
      split
      · have hs := getLast_split hp
        rw [hs] at ih
        have := chain_last ih
        exact chain_snoc this.1 (by omega)
      · exact chain_snoc ih (by omega)
/-- The lines once they are marked. -/
structure LnQ (lo : Nat) (v : Value) (g n k : Nat) (ps : List (Nat × Nat)) (w : World) : Prop where
  out : w.ownsRow lo 27 1 v ps.length (ps.map (hdr g))
  idx : RowI lo (.slice (some ⟨g, 0, none⟩) n n) (mksI k n) w
  ne : v.ownBlock = none ∨ v.ownBlock ≠ some g
theorem LnQ.below {lo g n k : Nat} {v : Value} {ps : List (Nat × Nat)} {w w' : World} (h : LnQ lo v g n k ps w) (hb : Below w.heap.size w w') : LnQ lo v g n k ps w' :=
  ⟨World.ownsRow.kept h.out ⟨hb.os, hb.tape, hb.output, hb.size, fun k hk _ => hb.block k hk⟩ (by cases v.ownBlock <;> simp : v.ownBlock = none ∨ v.ownBlock ≠ none), h.idx.below hb, h.ne⟩
theorem chain_drop {ps : List (Nat × Nat)} {e j n : Nat} (h : Chain e (ps.drop j) n) (hj : j < ps.length) : ∃ p, ps[j]? = some p ∧ p.1 = e ∧ e < p.2 ∧ Chain p.2 (ps.drop (j + 1)) n := by
  rw [List.drop_eq_getElem_cons hj] at h
  exact ⟨ps[j], List.getElem?_eq_getElem hj, h.1, h.2.1, h.2.2⟩
end Go.Proofs.Ytopfiogmbnfjcaa
end
section
namespace Go.Proofs.Ytopfiogmbnfjcaa
open Go.ChangeShapes Go.WideShapes Go.ChangeAt Go.RowKit
set_option linter.unusedVariables false
set_option linter.unusedSimpArgs false
set_option maxRecDepth 20000

def pD (ps : List (Nat × Nat)) (j : Nat) : Nat × Nat := ps.getD j (0, 0)
theorem pD_eq {ps : List (Nat × Nat)} {j : Nat} (h : j < ps.length) : ps[j]? = some (pD ps j) := by simp [pD, List.getD, h]
theorem pD_mem {ps : List (Nat × Nat)} {j : Nat} (h : j < ps.length) : pD ps j ∈ ps := List.mem_of_getElem? (pD_eq h)
theorem lnD_map {ps : List (Nat × Nat)} {j : Nat} (h : j < ps.length) : lnD (ps.map lineI) j = lineI (pD ps j) := by
  simp [lnD, pD, List.getD, h]
end Go.Proofs.Ytopfiogmbnfjcaa
end

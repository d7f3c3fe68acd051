/-
  What lies in memory of a tree: a slice of nodes with their children and rules (to be read), kept over calls that leave old memory alone. Conditions: none.
-/
import Derived.Test.YtjlgcnhjifdgfaaNds
namespace Go.Proofs.Ytjlgcnhjifdgfaa
open Go.ChangeShapes Go.WideShapes Go.ChangeAt Go.RowKit
set_option linter.unusedVariables false

def KAt (w : World) (v : Value) (zs : List Int) : Prop := ∃ a c, v = .slice a zs.length c ∧ Ints w a zs.length zs
def TAt (w : World) (v : Value) (rl : Nat) (zs : List Int) : Prop := ∃ a c, v = .slice a rl c ∧ Rls w a rl zs
def NodeAt (w : World) (b o : Nat) (n : PN) : Prop := ∃ k t, w.rangeAt b o (nL n.up k n.sty n.meas t) ∧ KAt w k n.kids ∧ TAt w t n.rl n.rules
/-- The nodes ns lie at a. -/
def Nds (w : World) (a : Option Addr) (ns : List PN) : Prop :=
  (∀ n ∈ ns, n.ok) ∧ (ns = [] ∨ ∃ b off, a = some ⟨b, off, none⟩ ∧ b < w.heap.size ∧ ∀ i n, ns[i]? = some n → NodeAt w b (off + i * 64) n)
theorem KAt.below {w w' : World} {v : Value} {zs : List Int} (h : KAt w v zs) (hb : Below w.heap.size w w') : KAt w' v zs := by
  obtain ⟨a, c, e, h⟩ := h; exact ⟨a, c, e, h.below hb⟩
theorem TAt.below {w w' : World} {v : Value} {rl : Nat} {zs : List Int} (h : TAt w v rl zs) (hb : Below w.heap.size w w') : TAt w' v rl zs := by
  obtain ⟨a, c, e, h⟩ := h; exact ⟨a, c, e, h.below hb⟩
theorem NodeAt.below {w w' : World} {b o : Nat} {n : PN} (h : NodeAt w b o n) (hb : Below w.heap.size w w') : NodeAt w' b o n := by
  obtain ⟨k, t, h1, h2, h3⟩ := h; exact ⟨k, t, rg_below h1 hb, h2.below hb, h3.below hb⟩
theorem Nds.below {w w' : World} {a : Option Addr} {ns : List PN} (h : Nds w a ns) (hb : Below w.heap.size w w') : Nds w' a ns := by
  refine ⟨h.1, ?_⟩
  rcases h.2 with h0 | ⟨b, off, ha, hlt, hc⟩
  · exact Or.inl h0
  · exact Or.inr ⟨b, off, ha, Nat.lt_of_lt_of_le hlt hb.size, fun i n hi => (hc i n hi).below hb⟩
theorem Nds.look {w : World} {a : Option Addr} {ns : List PN} (h : Nds w a ns) {i : Nat} (hi : i < ns.length) : ∃ b off, a = some ⟨b, off, none⟩ ∧ b < w.heap.size ∧ NodeAt w b (off + i * 64) ns[i] := by
  rcases h.2 with h0 | ⟨b, off, ha, hlt, hc⟩
  · subst h0; exact absurd hi (Nat.not_lt_zero _)
  · exact ⟨b, off, ha, hlt, hc i _ (List.getElem?_eq_getElem hi)⟩
theorem KAt.one {w : World} {v : Value} {zs : List Int} (h : KAt w v zs) : v.oneCell' = true := by obtain ⟨a, c, rfl, _⟩ := h; rfl
theorem TAt.one {w : World} {v : Value} {rl : Nat} {zs : List Int} (h : TAt w v rl zs) : v.oneCell' = true := by obtain ⟨a, c, rfl, _⟩ := h; rfl
/-- What may be asked of a length. -/
def PN.fit (n : PN) : Prop := n.kids.length ≤ 9223372036854775807 ∧ n.rl ≤ 9223372036854775807
/-- How much a tree holds. -/
def szK (n : PN) : Nat := n.kids.length + n.rl
def szL (ns : List PN) : Nat := (ns.map szK).sum
def szS (ns : List PN) : Nat := ns.length + szL ns
theorem szL_take {ns : List PN} {i : Nat} (h : i < ns.length) : szL (ns.take (i + 1)) = szL (ns.take i) + szK ns[i] := by
  unfold szL
  rw [List.take_succ_eq_append_getElem h, List.map_append, List.sum_append]
  simp
theorem szL_take_le (ns : List PN) (i : Nat) : szL (ns.take i) ≤ szL ns := by
  have h : szL ns = szL (ns.take i) + szL (ns.drop i) := by
    unfold szL
    rw [← List.sum_append, ← List.map_append, List.take_append_drop]
  omega
theorem szK_le {ns : List PN} {i : Nat} (h : i < ns.length) : szK ns[i] ≤ szL ns := by
  have h1 := szL_take h
  have h2 := szL_take_le ns (i + 1)
  omega
end Go.Proofs.Ytjlgcnhjifdgfaa

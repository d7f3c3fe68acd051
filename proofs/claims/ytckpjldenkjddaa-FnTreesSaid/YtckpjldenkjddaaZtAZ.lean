import Derived.IntWalk
import Derived.Test.YtckpjldenkjddaaZtAM
import Derived.Test.YtckpjldenkjddaaZtAN
section
namespace Go.Proofs.Ytckpjldenkjddaa
open Go.ChangeShapes Go.WideShapes Go.ChangeAt Go.RowKit
set_option linter.unusedVariables false
set_option linter.unusedSimpArgs false
set_option maxRecDepth 8000

section
variable {P : Program}
end
/-- A node marked where it stands. -/
theorem OwnN.remark {lo g cap i : Nat} {ms : List ND} {m m' : ND} {w w' : World} (h : OwnN lo (.slice (some ⟨g, 0, none⟩) ms.length cap) ms w) (hi : ms[i]? = some m)
    (hkv : m'.kv = m.kv) (htv : m'.tv = m.tv) (hkl : m'.n.kids.length = m.n.kids.length) (hrl : m'.n.rl = m.n.rl)
    (hrow : w'.ownsRow lo 61 64 (.slice (some ⟨g, 0, none⟩) ms.length cap) ms.length (cellsN (ms.set i m'))) (hm : m'.own lo w')
    (hfr : ∀ k, k < w.heap.size → k ≠ g → m.comp true ≠ some k → m.comp false ≠ some k → w'.heap[k]? = w.heap[k]?) (hs : w.heap.size ≤ w'.heap.size) :
    OwnN lo (.slice (some ⟨g, 0, none⟩) ms.length cap) (ms.set i m') w' := by
  have hil := (List.getElem?_eq_some_iff.1 hi).1
  have hcomp : ∀ s, m'.comp s = m.comp s := fun s => by unfold ND.comp; rw [hkv, htv, hkl, hrl]
  have rowK : ∀ {e : TypeId} {size n : Nat} {x : Value} {xs : List Value}, w.ownsRow lo e size x n xs → (∀ b, x.ownBlock = some b → b ≠ g ∧ m.comp true ≠ some b ∧ m.comp false ≠ some b) → w'.ownsRow lo e size x n xs := by
    intro e size n x xs hr hne
    refine ⟨hr.1, ?_⟩
    rcases hr.2 with hn | ⟨g', cap', cur, rfl, hb, hg', rest⟩
    · exact .inl hn
    · obtain ⟨a1, a2, a3⟩ := hne g' rfl
      exact .inr ⟨g', cap', cur, rfl, hb, (hfr g' (Array.getElem?_eq_some_iff.1 hg').1 a1 a2 a3).trans hg', rest⟩
  have ownK : ∀ q : ND, q.own lo w → (∀ s b, q.comp s = some b → b ≠ g ∧ m.comp true ≠ some b ∧ m.comp false ≠ some b) → q.own lo w' := by
    intro q ⟨h1, ⟨a, c, e, hk⟩, ⟨a', c', e', ht⟩⟩ hne
    refine ⟨h1, ⟨a, c, e, ?_⟩, ⟨a', c', e', ?_⟩⟩
    · by_cases h0 : q.n.kids = []
      · exact Or.inl h0
      · exact Or.inr (rowK (hk.resolve_left h0) fun b hb => hne true b (by
          unfold ND.comp blk
          rw [if_pos rfl, if_neg (by simpa using h0)]; exact hb))
    · by_cases h0 : q.n.rl = 0
      · exact Or.inl h0
      · exact Or.inr (rowK (ht.resolve_left h0) fun b hb => hne false b (by
          unfold ND.comp blk
          rw [if_neg (by decide), if_neg h0]; exact hb))
  refine ⟨by rw [List.length_set]; exact hrow, fun q hq => ?_, fun a b ma mb s t x ha hb hs ht => ?_⟩
  · obtain ⟨j, hj⟩ := List.mem_iff_getElem?.1 hq
    by_cases e : j = i
    · subst e
      rw [List.getElem?_set_self hil] at hj
      cases hj
      exact ⟨hm, fun s b hb => by rw [hcomp] at hb; exact (h.2.1 m (List.mem_of_getElem? hi)).2 s b hb⟩
    · rw [List.getElem?_set_ne (fun h => e h.symm)] at hj
      have hq' := h.2.1 q (List.mem_of_getElem? hj)
      refine ⟨ownK q hq'.1 fun s b hb => ⟨fun e' => hq'.2 s b hb (by rw [e']; rfl), fun e' => ?_, fun e' => ?_⟩, hq'.2⟩
      · exact e (h.2.2 j i q m s true b hj hi hb e').1
      · exact e (h.2.2 j i q m s false b hj hi hb e').1
  · have get : ∀ (a : Nat) (ma : ND), (ms.set i m')[a]? = some ma → ∃ ma' : ND, ms[a]? = some ma' ∧ ∀ s, ma.comp s = ma'.comp s := fun a ma ha => by
      by_cases e : a = i
      · subst e
        rw [List.getElem?_set_self hil] at ha
        cases ha
        exact ⟨m, hi, hcomp⟩
      · rw [List.getElem?_set_ne (fun h => e h.symm)] at ha
        exact ⟨ma, ha, fun _ => rfl⟩
    obtain ⟨ma', h1, h2⟩ := get a ma ha
    obtain ⟨mb', h3, h4⟩ := get b mb hb
    exact h.2.2 a b ma' mb' s t x h1 h3 (by rw [← h2]; exact hs) (by rw [← h4]; exact ht)
/-- Nothing but blocks from lo to hi has turned. -/
structure MkFr (lo hi : Nat) (w w' : World) : Prop where
  os : w'.os = w.os
  tape : w'.tape = w.tape
  output : w'.output = w.output
  size : w.heap.size ≤ w'.heap.size
  block : ∀ k, k < w.heap.size → (k < lo ∨ hi ≤ k) → w'.heap[k]? = w.heap[k]?
theorem MkFr.refl (lo hi : Nat) (w : World) : MkFr lo hi w w := ⟨rfl, rfl, rfl, Nat.le_refl _, fun _ _ _ => rfl⟩
theorem MkFr.grown {lo hi : Nat} {w u u' : World} {row : Option Nat} (h : MkFr lo hi w u) (hg : u.grownBy u' row) (hr : ∀ b, row = some b → lo ≤ b ∧ b < hi) : MkFr lo hi w u' :=
  ⟨hg.os.trans h.os, hg.tape.trans h.tape, hg.output.trans h.output, Nat.le_trans h.size hg.size, fun k hk h1 => (hg.block k (Nat.lt_of_lt_of_le hk h.size) (fun e => by have := hr k e.symm; omega)).trans (h.block k hk h1)⟩
set_option linter.unusedVariables false
set_option linter.unusedSimpArgs false
set_option maxRecDepth 8000

section
variable {ops : Array Oper} {rest : List Oper} {op : Oper} {a : Act} {w : World} {Q : Exit → Act → World → Prop}
end
section
variable {Q : Exit → Act → World → Prop} {a : Act} {u : World} {lo g cap n N o B j k s id : Nat} {xs : List Value} {w0 : World} {z : Int}
end
set_option linter.unusedVariables false
set_option linter.unusedSimpArgs false
set_option maxRecDepth 8000

section
variable {Q : Exit → Act → World → Prop} {a : Act} {u : World} {g cap n N k s id : Nat} {v : Value}
end
set_option linter.unusedVariables false
set_option linter.unusedSimpArgs false
set_option maxRecDepth 8000

section
variable {ops : Array Oper} {rest : List Oper} {op : Oper} {a : Act} {w : World} {Q : Exit → Act → World → Prop}
end
section
variable {Q : Exit → Act → World → Prop} {a : Act} {u : World} {g cap n N o B j k s id : Nat} {z : Int}
end
end Go.Proofs.Ytckpjldenkjddaa
end
section
namespace Go.Proofs.Ytckpjldenkjddaa
open Go.ChangeShapes Go.WideShapes Go.ChangeAt Go.RowKit
set_option linter.unusedVariables false
set_option linter.unusedSimpArgs false
set_option maxRecDepth 8000

theorem gr_sets (g : Nat) : ∀ (vs : List Value) (o : Nat) (w : World), w.grownBy (w.setCells g o vs) (some g)
  | [], _, w => World.grownBy.refl w _
  | v :: vs, o, w => (gr_sets g vs (o + 1) (w.setCell ⟨g, o, none⟩ v)) |> fun h => gr_tr (gr_set (World.grownBy.refl w _)) h
def ND.styled (m : ND) (f : Nat → Int) : ND := ⟨{ m.n with sty := f }, m.kv, m.tv⟩
theorem cellsN_sty (ms : List ND) {i : Nat} {m : ND} (hi : ms[i]? = some m) (f : Nat → Int) : setL (cellsN ms) (i * 64 + 2) (sCells f).toList = cellsN (ms.set i (m.styled f)) := by
  have hil := (List.getElem?_eq_some_iff.1 hi).1
  have hcl := cellsN_len ms
  rw [← cellsN_set ms hil]
  apply List.ext_getElem?
  intro q
  have e0 := cellsN_at ms (q / 64) (q % 64) (Nat.mod_lt _ (by decide))
  rw [show q / 64 * 64 + q % 64 = q by omega] at e0
  rw [setL_at _ _ _ _ (by simp only [Array.length_toList, sCells_size]; omega), setL_at _ _ _ _ (by rw [ND.cells_len, hcl]; omega), ND.cells_len]
  simp only [Array.length_toList, sCells_size]
  by_cases h1 : i * 64 ≤ q ∧ q < i * 64 + 64
  · have e : q / 64 = i := by omega
    rw [if_pos h1]
    by_cases h2 : i * 64 + 2 ≤ q ∧ q < i * 64 + 2 + 60
    · rw [if_pos h2]
      have h3 : (m.styled f).cells[2 + (q - (i * 64 + 2))]? = _ := nL_sty (q - (i * 64 + 2)) (by omega)
      rw [show q - i * 64 = 2 + (q - (i * 64 + 2)) by omega, h3, Array.getElem?_toList, sCells_get f (by omega)]
      rfl
    · rw [if_neg h2, e0, e, hi]
      by_cases a0 : q - i * 64 = 0
      · rw [a0, show q % 64 = 0 by omega]; rfl
      · by_cases a1 : q - i * 64 = 1
        · rw [a1, show q % 64 = 1 by omega]; rfl
        · by_cases a2 : q - i * 64 = 62
          · rw [a2, show q % 64 = 62 by omega]; rfl
          · rw [show q - i * 64 = 63 by omega, show q % 64 = 63 by omega]; rfl
  · rw [if_neg h1, if_neg (by omega)]
theorem OwnN.restyle {lo g cap k : Nat} {ms : List ND} {m : ND} {w : World} {f : Nat → Int} (h : OwnN lo (.slice (some ⟨g, 0, none⟩) ms.length cap) ms w) (hi : ms[k]? = some m) (hf : InR f) :
    OwnN lo (.slice (some ⟨g, 0, none⟩) ms.length cap) (ms.set k (m.styled f)) (w.setCells g (k * 64 + 2) (sCells f).toList) := by
  have g1 := gr_sets g (sCells f).toList (k * 64 + 2) w
  have hown := (h.2.1 m (List.mem_of_getElem? hi)).1
  have hgne := (h.2.1 m (List.mem_of_getElem? hi)).2
  have hrow := ownsRow_setCells (sCells f).toList _ (k * 64 + 2) w h.1
  rw [cellsN_sty ms hi f] at hrow
  generalize w.setCells g (k * 64 + 2) (sCells f).toList = w1 at *
  have rowK : ∀ {e : TypeId} {size n : Nat} {x : Value} {xs : List Value}, w.ownsRow lo e size x n xs → (∀ b, x.ownBlock = some b → b ≠ g) → w1.ownsRow lo e size x n xs := fun hr hne => World.ownsRow.kept hr g1 (by
    rename_i x xs
    cases hx : x.ownBlock with
    | none => exact Or.inl rfl
    | some b => exact Or.inr fun e => hne b hx (by simpa using e))
  have hkr : KRow lo m.kv m.n.kids w1 := by
    obtain ⟨a, c, e, hr⟩ := hown.2.1
    by_cases h0 : m.n.kids = []
    · exact ⟨a, c, e, Or.inl h0⟩
    · exact ⟨a, c, e, Or.inr (rowK (hr.resolve_left h0) fun b hb e => hgne true b (by unfold ND.comp blk; rw [if_pos rfl, if_neg (by simpa using h0)]; exact hb) (by rw [e]; rfl))⟩
  have htr : TRow lo m.tv m.n.rl m.n.rules w1 := by
    obtain ⟨a, c, e, hr⟩ := hown.2.2
    by_cases h0 : m.n.rl = 0
    · exact ⟨a, c, e, Or.inl h0⟩
    · exact ⟨a, c, e, Or.inr (rowK (hr.resolve_left h0) fun b hb e => hgne false b (by unfold ND.comp blk; rw [if_neg (by decide), if_neg h0]; exact hb) (by rw [e]; rfl))⟩
  exact h.remark hi rfl rfl rfl rfl hrow ⟨⟨hown.1.1, hown.1.2.1, hf, hown.1.2.2.2⟩, hkr, htr⟩ (fun q hq h1 _ _ => g1.block q hq (fun e => h1 (by simpa using e))) g1.size
end Go.Proofs.Ytckpjldenkjddaa
end

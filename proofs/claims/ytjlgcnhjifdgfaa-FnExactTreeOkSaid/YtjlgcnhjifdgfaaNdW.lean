/-
  Rows of nodes of one's own: each node's children and rules lie in rows of their own, none of them shared. Conditions: none.
-/
import Derived.Test.YtjlgcnhjifdgfaaNdM
namespace Go.Proofs.Ytjlgcnhjifdgfaa
open Go.ChangeShapes Go.WideShapes Go.ChangeAt Go.RowKit
set_option linter.unusedVariables false

/-- A node with where its children and its rules lie. -/
structure ND where
  n : PN
  kv : Value
  tv : Value
instance : Inhabited ND := ⟨⟨default, .slice none 0 0, .slice none 0 0⟩⟩
def ND.cells (m : ND) : List Value := nL m.n.up m.kv m.n.sty m.n.meas m.tv
def cellsN (ms : List ND) : List Value := ms.flatMap ND.cells
theorem ND.cells_len (m : ND) : m.cells.length = 64 := nL_len ..
theorem cellsN_len : ∀ ms : List ND, (cellsN ms).length = ms.length * 64
  | [] => rfl
  | m :: ms => by
    have h := cellsN_len ms
    unfold cellsN at h ⊢
    rw [List.flatMap_cons, List.length_append, h, ND.cells_len, List.length_cons]; omega
theorem cellsN_at : ∀ (ms : List ND) (i j : Nat), j < 64 → (cellsN ms)[i * 64 + j]? = ms[i]?.bind (fun m => m.cells[j]?)
  | [], i, j, _ => by simp [cellsN]
  | m :: ms, i, j, hj => by
    have h := cellsN_at ms
    unfold cellsN at h ⊢
    rw [List.flatMap_cons]
    cases i with
    | zero => rw [List.getElem?_append_left (by rw [ND.cells_len]; omega)]; simp
    | succ i =>
      rw [List.getElem?_append_right (by rw [ND.cells_len]; omega), ND.cells_len, show (i + 1) * 64 + j - 64 = i * 64 + j by omega, h i j hj, List.getElem?_cons_succ]
theorem cellsN_push (ms : List ND) (m : ND) : cellsN (ms ++ [m]) = cellsN ms ++ m.cells := by simp [cellsN]
/-- Values put into a list one after the other. -/
def setL (xs : List Value) : Nat → List Value → List Value
  | _, [] => xs
  | o, v :: vs => setL (xs.set o v) (o + 1) vs
theorem setL_len : ∀ (vs xs : List Value) (o : Nat), (setL xs o vs).length = xs.length
  | [], _, _ => rfl
  | v :: vs, xs, o => by rw [setL, setL_len vs]; simp
theorem setL_at : ∀ (vs xs : List Value) (o i : Nat), o + vs.length ≤ xs.length → (setL xs o vs)[i]? = if o ≤ i ∧ i < o + vs.length then vs[i - o]? else xs[i]?
  | [], xs, o, i, _ => by rw [setL, if_neg (by simp only [List.length_nil]; omega)]
  | v :: vs, xs, o, i, h => by
    simp only [List.length_cons] at h
    rw [setL, setL_at vs _ _ _ (by simp; omega)]
    by_cases h1 : o + 1 ≤ i ∧ i < o + 1 + vs.length
    · rw [if_pos h1, if_pos (by simp only [List.length_cons]; omega), show i - o = (i - (o + 1)) + 1 by omega, List.getElem?_cons_succ]
    · rw [if_neg h1]
      by_cases e : o = i
      · subst e
        rw [List.getElem?_set_self (by omega), if_pos (by simp only [List.length_cons]; omega)]
        simp
      · rw [List.getElem?_set_ne e, if_neg (by simp only [List.length_cons]; omega)]
theorem cellsN_set (ms : List ND) {i : Nat} (hi : i < ms.length) (m : ND) : setL (cellsN ms) (i * 64) m.cells = cellsN (ms.set i m) := by
  apply List.ext_getElem?
  intro q
  rw [setL_at _ _ _ _ (by rw [ND.cells_len, cellsN_len]; omega), ND.cells_len]
  have hq : q / 64 * 64 + q % 64 = q := by omega
  have h64 : q % 64 < 64 := Nat.mod_lt _ (by decide)
  have e1 := cellsN_at (ms.set i m) (q / 64) (q % 64) h64
  have e2 := cellsN_at ms (q / 64) (q % 64) h64
  rw [hq] at e1 e2
  rw [e1, e2]
  by_cases h : i * 64 ≤ q ∧ q < i * 64 + 64
  · have e : q / 64 = i := by omega
    rw [if_pos h, e, List.getElem?_set_self hi, show q - i * 64 = q % 64 by omega]
    rfl
  · rw [if_neg h, List.getElem?_set_ne (by omega)]
theorem ownsRow_setCells {g cap n lo size : Nat} {e : TypeId} : ∀ (vs xs : List Value) (o : Nat) (w : World), w.ownsRow lo e size (.slice (some ⟨g, 0, none⟩) n cap) n xs → (w.setCells g o vs).ownsRow lo e size (.slice (some ⟨g, 0, none⟩) n cap) n (setL xs o vs)
  | [], _, _, _, h => h
  | v :: vs, xs, o, w, h => ownsRow_setCells vs (xs.set o v) (o + 1) _ (h.stored o v).1

def KRow (lo : Nat) (v : Value) (zs : List Int) (w : World) : Prop := ∃ a c, v = .slice a zs.length c ∧ (zs = [] ∨ RowI lo v zs w)
def TRow (lo : Nat) (v : Value) (rl : Nat) (zs : List Int) (w : World) : Prop := ∃ a c, v = .slice a rl c ∧ (rl = 0 ∨ RowR lo v rl zs w)
def blk (v : Value) (n : Nat) : Option Nat := if n = 0 then none else v.ownBlock
def ND.comp (m : ND) (s : Bool) : Option Nat := if s then blk m.kv m.n.kids.length else blk m.tv m.n.rl
/-- What a node needs beside its cells. -/
def ND.own (lo : Nat) (m : ND) (w : World) : Prop := m.n.ok ∧ KRow lo m.kv m.n.kids w ∧ TRow lo m.tv m.n.rl m.n.rules w
/-- A row of nodes of one's own. -/
def OwnN (lo : Nat) (v : Value) (ms : List ND) (w : World) : Prop :=
  w.ownsRow lo 61 64 v ms.length (cellsN ms) ∧
  (∀ m ∈ ms, m.own lo w ∧ ∀ s b, m.comp s = some b → v.ownBlock ≠ some b) ∧
  (∀ (i j : Nat) (mi mj : ND) (s t : Bool) (b : Nat), ms[i]? = some mi → ms[j]? = some mj → mi.comp s = some b → mj.comp t = some b → i = j ∧ s = t)

/-- The blocks from lo on are as they were. -/
def From (lo : Nat) (w w' : World) : Prop := w.heap.size ≤ w'.heap.size ∧ ∀ k, lo ≤ k → k < w.heap.size → w'.heap[k]? = w.heap[k]?
theorem From.of_below {lo : Nat} {w w' : World} (h : Below w.heap.size w w') : From lo w w' := ⟨h.size, fun k _ hk => h.block k hk⟩
theorem ownsRow_from {lo n size : Nat} {e : TypeId} {v : Value} {xs : List Value} {w w' : World} (h : w.ownsRow lo e size v n xs) (hf : From lo w w') : w'.ownsRow lo e size v n xs := by
  refine ⟨h.1, ?_⟩
  rcases h.2 with hn | ⟨g, cap, cur, rfl, hb, hg, rest⟩
  · exact .inl hn
  · exact .inr ⟨g, cap, cur, rfl, hb, (hf.2 g hb (Array.getElem?_eq_some_iff.1 hg).1).trans hg, rest⟩
theorem ownsRow_lower {lo lo' n size : Nat} {e : TypeId} {v : Value} {xs : List Value} {w : World} (h : w.ownsRow lo e size v n xs) (hl : lo' ≤ lo) : w.ownsRow lo' e size v n xs := by
  refine ⟨h.1, ?_⟩
  rcases h.2 with hn | ⟨g, cap, cur, rfl, hb, rest⟩
  · exact .inl hn
  · exact .inr ⟨g, cap, cur, rfl, Nat.le_trans hl hb, rest⟩
theorem KRow.kept {lo : Nat} {v : Value} {zs : List Int} {w w' : World} (h : KRow lo v zs w) (hf : From lo w w') : KRow lo v zs w' := by
  obtain ⟨a, c, e, h⟩ := h
  exact ⟨a, c, e, h.imp id fun h => ownsRow_from h hf⟩
theorem TRow.kept {lo rl : Nat} {v : Value} {zs : List Int} {w w' : World} (h : TRow lo v rl zs w) (hf : From lo w w') : TRow lo v rl zs w' := by
  obtain ⟨a, c, e, h⟩ := h
  exact ⟨a, c, e, h.imp id fun h => ownsRow_from h hf⟩
theorem ND.own.kept {lo : Nat} {m : ND} {w w' : World} (h : m.own lo w) (hf : From lo w w') : m.own lo w' := ⟨h.1, h.2.1.kept hf, h.2.2.kept hf⟩
theorem OwnN.kept {lo : Nat} {v : Value} {ms : List ND} {w w' : World} (h : OwnN lo v ms w) (hf : From lo w w') : OwnN lo v ms w' :=
  ⟨ownsRow_from h.1 hf, fun m hm => ⟨(h.2.1 m hm).1.kept hf, (h.2.1 m hm).2⟩, h.2.2⟩
theorem OwnN.below {lo : Nat} {v : Value} {ms : List ND} {w w' : World} (h : OwnN lo v ms w) (hb : Below w.heap.size w w') : OwnN lo v ms w' := h.kept (From.of_below hb)
theorem KRow.lower {lo lo' : Nat} {v : Value} {zs : List Int} {w : World} (h : KRow lo v zs w) (hl : lo' ≤ lo) : KRow lo' v zs w := by
  obtain ⟨a, c, e, h⟩ := h
  exact ⟨a, c, e, h.imp id fun h => ownsRow_lower h hl⟩
theorem TRow.lower {lo lo' rl : Nat} {v : Value} {zs : List Int} {w : World} (h : TRow lo v rl zs w) (hl : lo' ≤ lo) : TRow lo' v rl zs w := by
  obtain ⟨a, c, e, h⟩ := h
  exact ⟨a, c, e, h.imp id fun h => ownsRow_lower h hl⟩
theorem ND.own.lower {lo lo' : Nat} {m : ND} {w : World} (h : m.own lo w) (hl : lo' ≤ lo) : m.own lo' w := ⟨h.1, h.2.1.lower hl, h.2.2.lower hl⟩
theorem OwnN.lower {lo lo' : Nat} {v : Value} {ms : List ND} {w : World} (h : OwnN lo v ms w) (hl : lo' ≤ lo) : OwnN lo' v ms w :=
  ⟨ownsRow_lower h.1 hl, fun m hm => ⟨(h.2.1 m hm).1.lower hl, (h.2.1 m hm).2⟩, h.2.2⟩
theorem ND.own.lt {lo : Nat} {m : ND} {w : World} (h : m.own lo w) (s : Bool) (b : Nat) (hb : m.comp s = some b) : lo ≤ b ∧ b < w.heap.size := by
  obtain ⟨_, ⟨a, c, e, hk⟩, ⟨a', c', e', ht⟩⟩ := h
  cases s with
  | true =>
    unfold ND.comp blk at hb
    simp only [if_true] at hb
    split at hb
    · cases hb
    · rename_i h0
      rcases hk with h1 | h1
      · rw [h1] at h0; exact absurd rfl h0
      · exact World.ownsRow.lt h1 b hb
  | false =>
    unfold ND.comp blk at hb
    simp only [Bool.false_eq_true, if_false] at hb
    split at hb
    · cases hb
    · rename_i h0
      rcases ht with h1 | h1
      · exact absurd h1 h0
      · exact World.ownsRow.lt h1 b hb
theorem From.refl (lo : Nat) (w : World) : From lo w w := ⟨Nat.le_refl _, fun _ _ _ => rfl⟩
theorem From.trans {lo : Nat} {a b c : World} (h : From lo a b) (k : From lo b c) : From lo a c := ⟨Nat.le_trans h.1 k.1, fun q h1 h2 => (k.2 q h1 (Nat.lt_of_lt_of_le h2 h.1)).trans (h.2 q h1 h2)⟩
theorem From.mono {lo lo' : Nat} {a b : World} (h : From lo a b) (hl : lo ≤ lo') : From lo' a b := ⟨h.1, fun q h1 h2 => h.2 q (Nat.le_trans hl h1) h2⟩
theorem from_set {lo g : Nat} {w : World} (hg : g < lo) (j : Nat) (v : Value) : From lo w (w.setCell ⟨g, j, none⟩ v) := ⟨by simp, fun k h1 _ => Below.heap_setCell w ⟨g, j, none⟩ v k (fun e => by simp at e; omega)⟩
theorem from_cells {lo g : Nat} (hg : g < lo) : ∀ (vs : List Value) (o : Nat) (w : World), From lo w (w.setCells g o vs)
  | [], _, w => From.refl lo w
  | v :: vs, o, w => (from_set hg o v).trans (from_cells hg vs (o + 1) _)
theorem cells_size (g : Nat) : ∀ (vs : List Value) (o : Nat) (w : World), (w.setCells g o vs).heap.size = w.heap.size
  | [], _, _ => rfl
  | v :: vs, o, w => (cells_size g vs (o + 1) _).trans (by simp)
theorem putA_all (cs : Array Value) (vs : List Value) (h : vs.length = cs.size) : putA cs 0 vs = vs.toArray := by
  apply Array.ext_getElem?
  intro i
  rw [putA_at _ _ _ _ (by omega)]
  by_cases hi : i < vs.length
  · rw [if_pos (by omega)]; simp
  · rw [if_neg (by omega), Array.getElem?_eq_none (by omega), Array.getElem?_eq_none (by simpa using by omega)]
/-- To be read. -/
theorem KRow.kat {lo : Nat} {v : Value} {zs : List Int} {w : World} (h : KRow lo v zs w) (hr : AllI zs) : KAt w v zs := by
  obtain ⟨a, c, e, h⟩ := h
  rcases h with h0 | h
  · subst h0; exact ⟨a, c, e, rfl, hr, Or.inl rfl⟩
  · rcases h.2 with ⟨h1, h2⟩ | ⟨g, cap, cur, h1, _⟩
    · exact ⟨a, c, e, rfl, hr, Or.inl h2⟩
    · subst h1
      exact ⟨_, cap, rfl, RowI.ints h rfl hr⟩
theorem TRow.tat {lo rl : Nat} {v : Value} {zs : List Int} {w : World} (h : TRow lo v rl zs w) (hr : AllI zs) (hl : zs.length = rl * 3) : TAt w v rl zs := by
  obtain ⟨a, c, e, h⟩ := h
  rcases h with h0 | h
  · exact ⟨a, c, e, hl, hr, Or.inl h0⟩
  · obtain ⟨a', c', e', h'⟩ := RowR.slice h hr
    exact ⟨a', c', e', h'⟩
theorem OwnN.nds {lo : Nat} {v : Value} {ms : List ND} {w : World} (h : OwnN lo v ms w) : ∃ a cap, v = .slice a ms.length cap ∧ Nds w a (ms.map ND.n) := by
  have hok : ∀ n ∈ ms.map ND.n, n.ok := fun n hn => by
    obtain ⟨m, hm, rfl⟩ := List.mem_map.1 hn
    exact (h.2.1 m hm).1.1
  have hs := h.1.1
  rcases h.1.2 with ⟨h1, h2⟩ | ⟨g, cap, cur, h1, hlo, hg, hnc, hcm, hcs, htake⟩
  · refine ⟨none, 0, by rw [h1, h2], hok, Or.inl ?_⟩
    rw [List.length_eq_zero_iff.1 h2]; rfl
  · refine ⟨some ⟨g, 0, none⟩, cap, h1, hok, Or.inr ⟨g, 0, rfl, (Array.getElem?_eq_some_iff.1 hg).1, fun i n hi => ?_⟩⟩
    rw [List.getElem?_map] at hi
    cases hm : ms[i]? with
    | none => rw [hm] at hi; cases hi
    | some m =>
      rw [hm] at hi
      simp at hi
      subst hi
      have hlt := (List.getElem?_eq_some_iff.1 hm).1
      have hmem := List.mem_of_getElem? hm
      obtain ⟨⟨⟨_, hki, _, hri, hrl⟩, hk, ht⟩, _⟩ := h.2.1 m hmem
      refine ⟨m.kv, m.tv, fun j u hu => ?_, hk.kat hki, ht.tat hri hrl⟩
      have hj : j < 64 := by have := (List.getElem?_eq_some_iff.1 hu).1; rwa [nL_len] at this
      have hown := h.1
      rw [h1] at hown
      rw [Nat.zero_add, World.ownsRow.cellAt hown (i * 64 + j) (by omega), cellsN_at ms i j hj, hm]
      exact hu
theorem OwnN.ndsAt {lo g cap : Nat} {ms : List ND} {ns : List PN} {w : World} (h : OwnN lo (.slice (some ⟨g, 0, none⟩) ns.length cap) ms w) (hm : ms.map ND.n = ns) : Nds w (some ⟨g, 0, none⟩) ns := by
  obtain ⟨a, c, e, hn⟩ := h.nds
  simp only [Value.slice.injEq] at e
  rw [hm, ← e.1] at hn
  exact hn
/-- One node stored. -/
theorem OwnN.store {lo g cap i : Nat} {ms : List ND} {m : ND} {w : World} (h : OwnN lo (.slice (some ⟨g, 0, none⟩) ms.length cap) ms w) (hi : i < ms.length) (hm : m.own lo w)
    (hg : ∀ s b, m.comp s = some b → b ≠ g) (hap : ∀ s b, m.comp s = some b → ∀ j mj t, j ≠ i → ms[j]? = some mj → mj.comp t ≠ some b) (hin : ∀ b, m.comp true = some b → m.comp false ≠ some b) :
    OwnN lo (.slice (some ⟨g, 0, none⟩) ms.length cap) (ms.set i m) (w.setCells g (i * 64) m.cells) := by
  have hlen : (ms.set i m).length = ms.length := List.length_set
  have hother : ∀ k, k ≠ g → (w.setCells g (i * 64) m.cells).heap[k]? = w.heap[k]? := fun k hk => by
    have : ∀ (vs : List Value) (o : Nat) (w : World), (w.setCells g o vs).heap[k]? = w.heap[k]? := by
      intro vs
      induction vs with
      | nil => intro o w; rfl
      | cons v vs ih => intro o w; exact (ih _ _).trans (Below.heap_setCell w ⟨g, o, none⟩ v k hk)
    exact this _ _ _
  have rowK : ∀ {e : TypeId} {size n : Nat} {v : Value} {xs : List Value}, w.ownsRow lo e size v n xs → (∀ b, v.ownBlock = some b → b ≠ g) → (w.setCells g (i * 64) m.cells).ownsRow lo e size v n xs := by
    intro e size n v xs hr hne
    refine ⟨hr.1, ?_⟩
    rcases hr.2 with hn | ⟨g', cap', cur, rfl, hb, hg', rest⟩
    · exact .inl hn
    · exact .inr ⟨g', cap', cur, rfl, hb, (hother g' (hne g' rfl)).trans hg', rest⟩
  have ownK : ∀ q : ND, q.own lo w → (∀ s b, q.comp s = some b → b ≠ g) → q.own lo (w.setCells g (i * 64) m.cells) := by
    intro q ⟨h1, ⟨a, c, e, hk⟩, ⟨a', c', e', ht⟩⟩ hne
    refine ⟨h1, ⟨a, c, e, ?_⟩, ⟨a', c', e', ?_⟩⟩
    · by_cases h0 : q.n.kids = []
      · exact Or.inl h0
      · exact Or.inr (rowK (hk.resolve_left h0) fun b hb => hne true b (by
          unfold ND.comp blk
          rw [if_pos rfl, if_neg (by simpa using h0)]; exact hb))
    · by_cases h0 : q.n.rl = 0
      · exact Or.inl h0
      · exact Or.inr (rowK (ht.resolve_left h0) fun b hb => hne false b (by
          unfold ND.comp blk
          rw [if_neg (by decide), if_neg h0]; exact hb))
  refine ⟨?_, fun q hq => ?_, fun a b ma mb s t x ha hb hs ht => ?_⟩
  · rw [hlen, ← cellsN_set ms hi m]
    exact ownsRow_setCells _ _ _ _ h.1
  · rcases List.mem_or_eq_of_mem_set hq with hq | rfl
    · refine ⟨ownK q (h.2.1 q hq).1 fun s b hb e => (h.2.1 q hq).2 s b hb (by rw [e]; rfl), (h.2.1 q hq).2⟩
    · exact ⟨ownK _ hm hg, fun s b hb e => hg s b hb (by simpa [Value.ownBlock] using e.symm)⟩
  · by_cases ea : a = i
    · by_cases eb : b = i
      · subst ea
        rw [eb] at hb
        rw [List.getElem?_set_self hi] at ha hb
        cases ha
        cases hb
        refine ⟨eb.symm, ?_⟩
        cases s <;> cases t
        · rfl
        · exact absurd hs (hin x ht)
        · exact absurd ht (hin x hs)
        · rfl
      · rw [ea, List.getElem?_set_self hi] at ha
        cases ha
        rw [List.getElem?_set_ne (fun e => eb e.symm)] at hb
        exact absurd ht (hap s x hs b mb t eb hb)
    · by_cases eb : b = i
      · rw [eb, List.getElem?_set_self hi] at hb
        cases hb
        rw [List.getElem?_set_ne (fun e => ea e.symm)] at ha
        exact absurd hs (hap t x ht a ma s ea ha)
      · rw [List.getElem?_set_ne (fun e => ea e.symm)] at ha
        rw [List.getElem?_set_ne (fun e => eb e.symm)] at hb
        exact h.2.2 a b ma mb s t x ha hb hs ht
theorem OwnN.there {lo g cap i : Nat} {ms : List ND} {w : World} (h : OwnN lo (.slice (some ⟨g, 0, none⟩) ms.length cap) ms w) (hi : i < ms.length) : w.there g (i * 64) 64 := fun j hj => by
  refine ⟨?_, World.ownsRow.frozenAt h.1 _⟩
  rw [World.ownsRow.cellAt h.1 (i * 64 + j) (by omega), cellsN_at ms i j hj, List.getElem?_eq_getElem hi, Option.bind_some, List.getElem?_eq_getElem (by rw [ND.cells_len]; exact hj)]
  rfl
/-- Nodes of nothing but zeros. -/
def ndZ : ND := ⟨⟨0, [], fun _ => 0, false, 0, []⟩, .slice none 0 0, .slice none 0 0⟩
theorem ndZ_comp (s : Bool) : ndZ.comp s = none := by cases s <;> rfl
theorem ndZ_own (lo : Nat) (w : World) : ndZ.own lo w :=
  ⟨⟨⟨by decide, by decide⟩, fun z hz => by simp [ndZ] at hz, fun i => by show _ ≤ (0 : Int) ∧ (0 : Int) ≤ _; omega, fun z hz => by simp [ndZ] at hz, rfl⟩, ⟨none, 0, rfl, Or.inl rfl⟩, ⟨none, 0, rfl, Or.inl rfl⟩⟩
theorem ownN_zero {lo : Nat} {v : Value} {n : Nat} {w : World} (h : w.ownsRow lo 61 64 v n (cellsN (List.replicate n ndZ))) : OwnN lo v (List.replicate n ndZ) w := by
  refine ⟨by rw [List.length_replicate]; exact h, fun m hm => ?_, fun i j mi mj s t b hi hj hs ht => ?_⟩
  · obtain rfl := List.eq_of_mem_replicate hm
    exact ⟨ndZ_own lo w, fun s b hb => by rw [ndZ_comp] at hb; cases hb⟩
  · obtain rfl := List.eq_of_mem_replicate (List.mem_of_getElem? hi)
    rw [ndZ_comp] at hs; cases hs
theorem made_nd (n : Nat) : (madeCells nZ (n * 64)).toList = cellsN (List.replicate n ndZ) := by
  apply List.ext_getElem?
  intro q
  have hq : q / 64 * 64 + q % 64 = q := by omega
  have h64 : q % 64 < 64 := Nat.mod_lt _ (by decide)
  have e1 := cellsN_at (List.replicate n ndZ) (q / 64) (q % 64) h64
  rw [hq] at e1
  rw [e1]
  have hz : nZ.size = 64 := nA_size ..
  by_cases h : q < n * 64
  · rw [List.getElem?_replicate, if_pos (by omega), Option.bind_some]
    have : nZ[q % 64]? = some (nZ[q % 64]'(by omega)) := Array.getElem?_eq_getElem _
    simp only [madeCells, hz]
    simp [h]
    show some nZ[q % 64]! = nZ.toList[q % 64]?
    rw [Array.getElem?_toList, getElem!_pos nZ (q % 64) (by omega)]
    exact this.symm
  · rw [List.getElem?_eq_none (by simp [madeCells]; omega), List.getElem?_replicate, if_neg (by omega)]
    rfl
theorem info_node : (Try.prog.info? 61).map (fun i => (i.zero, i.size, i.bytes)) = some (some (.agg nZ), 64, 536) := by kernel_rfl
end Go.Proofs.Ytjlgcnhjifdgfaa

import Derived.Deep.RegionHeld
import Derived.Test.YtckpjldenkjddaaZtAU
import Derived.Test.YtckpjldenkjddaaZtBB
section
namespace Go.Proofs.Ytckpjldenkjddaa
open Go.ChangeShapes Go.WideShapes Go.ChangeAt Go.RowKit
set_option linter.unusedVariables false
set_option linter.unusedSimpArgs false
set_option maxRecDepth 8000

def ND.tabd (m : ND) (rl : Nat) (rs : List Int) (tv : Value) : ND := ⟨{ m.n with rl := rl, rules := rs }, m.kv, tv⟩
def ND.measd (m : ND) (me : Bool) : ND := ⟨{ m.n with meas := me }, m.kv, m.tv⟩
theorem cellsN_one (ms : List ND) {i j : Nat} {m m' : ND} {v : Value} (hi : ms[i]? = some m) (hj : j < 64) (h : ∀ q, q < 64 → m'.cells[q]? = if j = q then some v else m.cells[q]?) : (cellsN ms).set (i * 64 + j) v = cellsN (ms.set i m') := by
  have hil := (List.getElem?_eq_some_iff.1 hi).1
  have hcl := cellsN_len ms
  apply List.ext_getElem?
  intro q
  have h64 : q % 64 < 64 := Nat.mod_lt _ (by decide)
  have e0 := cellsN_at ms (q / 64) (q % 64) h64
  have e1 := cellsN_at (ms.set i m') (q / 64) (q % 64) h64
  rw [show q / 64 * 64 + q % 64 = q by omega] at e0 e1
  rw [e1, List.getElem?_set]
  by_cases e : q / 64 = i
  · rw [e, List.getElem?_set_self hil]
    show _ = m'.cells[q % 64]?
    rw [h _ h64]
    by_cases a : j = q % 64
    · rw [if_pos a, if_pos (by omega), if_pos (by omega)]
    · rw [if_neg a, if_neg (by omega), e0, e, hi]; rfl
  · rw [List.getElem?_set_ne (fun h => e h.symm), if_neg (by omega), e0]
theorem cells_cases {P : Nat → Prop} (h0 : P 0) (h1 : P 1) (hs : ∀ j, j < 60 → P (2 + j)) (h62 : P 62) (h63 : P 63) : ∀ q, q < 64 → P q := fun q hq => by
  by_cases a : q = 0
  · subst a; exact h0
  by_cases b : q = 1
  · subst b; exact h1
  by_cases c : q = 62
  · subst c; exact h62
  by_cases d : q = 63
  · subst d; exact h63
  have := hs (q - 2) (by omega)
  rwa [show 2 + (q - 2) = q by omega] at this
theorem cellsN_meas (ms : List ND) {i : Nat} {m : ND} (hi : ms[i]? = some m) (me : Bool) : (cellsN ms).set (i * 64 + 62) (.bool me) = cellsN (ms.set i (m.measd me)) :=
  cellsN_one ms hi (by decide) (cells_cases rfl rfl (fun j hj => by
    have h1 : m.cells[2 + j]? = _ := nL_sty j hj
    have h2 : (m.measd me).cells[2 + j]? = _ := nL_sty j hj
    rw [h1, h2, if_neg (by omega)]; rfl) (by rw [if_pos rfl]; exact nL_meas) (by
    have h1 : m.cells[63]? = _ := nL_tab
    have h2 : (m.measd me).cells[63]? = _ := nL_tab
    rw [h1, h2, if_neg (by decide)]; rfl))
theorem cellsN_tabd (ms : List ND) {i : Nat} {m : ND} (hi : ms[i]? = some m) (rl : Nat) (rs : List Int) (tv : Value) : (cellsN ms).set (i * 64 + 63) tv = cellsN (ms.set i (m.tabd rl rs tv)) :=
  cellsN_one ms hi (by decide) (cells_cases rfl rfl (fun j hj => by
    have h1 : m.cells[2 + j]? = _ := nL_sty j hj
    have h2 : (m.tabd rl rs tv).cells[2 + j]? = _ := nL_sty j hj
    rw [h1, h2, if_neg (by omega)]; rfl) (by
    have h1 : m.cells[62]? = _ := nL_meas
    have h2 : (m.tabd rl rs tv).cells[62]? = _ := nL_meas
    rw [h1, h2, if_neg (by decide)]; rfl) (by rw [if_pos rfl]; exact nL_tab))
/-- One node of the row becomes another one; nothing but the row's block has turned. -/
theorem OwnN.swap {lo g cap i : Nat} {ms : List ND} {m m' : ND} {w w' : World} (h : OwnN lo (.slice (some ⟨g, 0, none⟩) ms.length cap) ms w) (hi : ms[i]? = some m)
    (hkv : m'.kv = m.kv) (hks : m'.n.kids = m.n.kids) (hok : m'.n.ok)
    (hrow : w'.ownsRow lo 61 64 (.slice (some ⟨g, 0, none⟩) ms.length cap) ms.length (cellsN (ms.set i m'))) (hg : w.grownBy w' (some g))
    (ht : TRow lo m'.tv m'.n.rl m'.n.rules w) (hfresh : ∀ b, m'.comp false = some b → b ≠ g ∧ ∀ mj ∈ ms, ∀ t, mj.comp t ≠ some b) :
    OwnN lo (.slice (some ⟨g, 0, none⟩) ms.length cap) (ms.set i m') w' := by
  have hil := (List.getElem?_eq_some_iff.1 hi).1
  have hkc : m'.comp true = m.comp true := by unfold ND.comp; rw [if_pos rfl, if_pos rfl, hkv, hks]
  have rowK : ∀ {e : TypeId} {size n : Nat} {x : Value} {xs : List Value}, w.ownsRow lo e size x n xs → (∀ b, x.ownBlock = some b → b ≠ g) → w'.ownsRow lo e size x n xs := by
    intro e size n x xs hr hne
    refine World.ownsRow.kept hr hg ?_
    cases hx : x.ownBlock with
    | none => exact Or.inl rfl
    | some b => exact Or.inr fun e => hne b hx (by simpa using e)
  have kK : ∀ q : ND, KRow lo q.kv q.n.kids w → (∀ b, q.comp true = some b → b ≠ g) → KRow lo q.kv q.n.kids w' := by
    intro q ⟨a, c, e, hk⟩ hne
    refine ⟨a, c, e, ?_⟩
    by_cases h0 : q.n.kids = []
    · exact Or.inl h0
    · exact Or.inr (rowK (hk.resolve_left h0) fun b hb => hne b (by unfold ND.comp blk; rw [if_pos rfl, if_neg (by simpa using h0)]; exact hb))
  have tK : ∀ q : ND, TRow lo q.tv q.n.rl q.n.rules w → (∀ b, q.comp false = some b → b ≠ g) → TRow lo q.tv q.n.rl q.n.rules w' := by
    intro q ⟨a, c, e, hk⟩ hne
    refine ⟨a, c, e, ?_⟩
    by_cases h0 : q.n.rl = 0
    · exact Or.inl h0
    · exact Or.inr (rowK (hk.resolve_left h0) fun b hb => hne b (by unfold ND.comp blk; rw [if_neg (by decide), if_neg h0]; exact hb))
  have hm := h.2.1 m (List.mem_of_getElem? hi)
  have hgn : ∀ q ∈ ms, ∀ s b, q.comp s = some b → b ≠ g := fun q hq s b hb e => (h.2.1 q hq).2 s b hb (by rw [e]; rfl)
  refine ⟨by rw [List.length_set]; exact hrow, fun q hq => ?_, fun a b ma mb s t x ha hb hs ht' => ?_⟩
  · obtain ⟨j, hj⟩ := List.mem_iff_getElem?.1 hq
    by_cases e : j = i
    · subst e
      rw [List.getElem?_set_self hil] at hj
      cases hj
      have hk' := kK m hm.1.2.1 (fun b hb => hgn m (List.mem_of_getElem? hi) true b hb)
      refine ⟨⟨hok, by rw [hkv, hks]; exact hk', tK _ ht fun b hb => (hfresh b hb).1⟩, fun s b hb e => ?_⟩
      have hbg : b = g := by simpa [Value.ownBlock] using e.symm
      cases s with
      | true => rw [hkc] at hb; exact hgn m (List.mem_of_getElem? hi) true b hb hbg
      | false => exact (hfresh b hb).1 hbg
    · rw [List.getElem?_set_ne (fun h => e h.symm)] at hj
      have hm := List.mem_of_getElem? hj
      have hq' := h.2.1 q hm
      exact ⟨⟨hq'.1.1, kK q hq'.1.2.1 (hgn q hm true), tK q hq'.1.2.2 (hgn q hm false)⟩, hq'.2⟩
  · by_cases ea : a = i
    · subst ea
      rw [List.getElem?_set_self hil] at ha
      cases ha
      by_cases eb : b = a
      · subst eb
        rw [List.getElem?_set_self hil] at hb
        cases hb
        refine ⟨rfl, ?_⟩
        cases s <;> cases t <;> try rfl
        · rw [hkc] at ht'; exact absurd ht' ((hfresh x hs).2 m (List.mem_of_getElem? hi) true)
        · rw [hkc] at hs; exact absurd hs ((hfresh x ht').2 m (List.mem_of_getElem? hi) true)
      · rw [List.getElem?_set_ne (fun h => eb h.symm)] at hb
        cases s with
        | true => rw [hkc] at hs; exact absurd (h.2.2 a b m mb true t x hi hb hs ht').1.symm eb
        | false => exact absurd ht' ((hfresh x hs).2 mb (List.mem_of_getElem? hb) t)
    · rw [List.getElem?_set_ne (fun h => ea h.symm)] at ha
      by_cases eb : b = i
      · subst eb
        rw [List.getElem?_set_self hil] at hb
        cases hb
        cases t with
        | true => rw [hkc] at ht'; exact absurd (h.2.2 a b ma m s true x ha hi hs ht').1 ea
        | false => exact absurd hs ((hfresh x ht').2 ma (List.mem_of_getElem? ha) s)
      · rw [List.getElem?_set_ne (fun h => eb h.symm)] at hb
        exact h.2.2 a b ma mb s t x ha hb hs ht'
theorem OwnN.remeas {lo g cap k : Nat} {ms : List ND} {m : ND} {w : World} (me : Bool) (h : OwnN lo (.slice (some ⟨g, 0, none⟩) ms.length cap) ms w) (hi : ms[k]? = some m) :
    OwnN lo (.slice (some ⟨g, 0, none⟩) ms.length cap) (ms.set k (m.measd me)) (w.setCell ⟨g, k * 64 + 62, none⟩ (.bool me)) := by
  have g1 : w.grownBy (w.setCell ⟨g, k * 64 + 62, none⟩ (.bool me)) (some g) := gr_set (World.grownBy.refl w _)
  have hown := (h.2.1 m (List.mem_of_getElem? hi)).1
  have hgne := (h.2.1 m (List.mem_of_getElem? hi)).2
  have hrow := (World.ownsRow.stored h.1 (k * 64 + 62) (.bool me)).1
  rw [cellsN_meas ms hi me] at hrow
  generalize w.setCell ⟨g, k * 64 + 62, none⟩ (.bool me) = w1 at *
  have rowK : ∀ {e : TypeId} {size n : Nat} {x : Value} {xs : List Value}, w.ownsRow lo e size x n xs → (∀ b, x.ownBlock = some b → b ≠ g) → w1.ownsRow lo e size x n xs := fun hr hne => World.ownsRow.kept hr g1 (by
    rename_i x xs
    cases hx : x.ownBlock with
    | none => exact Or.inl rfl
    | some b => exact Or.inr fun e => hne b hx (by simpa using e))
  have hkr : KRow lo m.kv m.n.kids w1 := by
    obtain ⟨a, c, e, hr⟩ := hown.2.1
    by_cases h0 : m.n.kids = []
    · exact ⟨a, c, e, Or.inl h0⟩
    · exact ⟨a, c, e, Or.inr (rowK (hr.resolve_left h0) fun b hb e => hgne true b (by unfold ND.comp blk; rw [if_pos rfl, if_neg (by simpa using h0)]; exact hb) (by rw [e]; rfl))⟩
  have htr : TRow lo m.tv m.n.rl m.n.rules w1 := by
    obtain ⟨a, c, e, hr⟩ := hown.2.2
    by_cases h0 : m.n.rl = 0
    · exact ⟨a, c, e, Or.inl h0⟩
    · exact ⟨a, c, e, Or.inr (rowK (hr.resolve_left h0) fun b hb e => hgne false b (by unfold ND.comp blk; rw [if_neg (by decide), if_neg h0]; exact hb) (by rw [e]; rfl))⟩
  exact h.remark hi rfl rfl rfl rfl hrow ⟨hown.1, hkr, htr⟩ (fun q hq h1 _ _ => g1.block q hq (fun e => h1 (by simpa using e))) g1.size
theorem OwnN.retab {lo g cap k n1 rl : Nat} {ms : List ND} {m : ND} {tv : Value} {rs : List Int} {w : World} (h : OwnN lo (.slice (some ⟨g, 0, none⟩) ms.length cap) ms w) (hi : ms[k]? = some m)
    (ht : TRow n1 tv rl rs w) (hr : AllI rs) (hl : rs.length = rl * 3) (hlo : lo ≤ n1) (hg : g < n1) (hc : ∀ mj ∈ ms, ∀ t b, mj.comp t = some b → b < n1) :
    OwnN lo (.slice (some ⟨g, 0, none⟩) ms.length cap) (ms.set k (m.tabd rl rs tv)) (w.setCell ⟨g, k * 64 + 63, none⟩ tv) := by
  have hrow := (World.ownsRow.stored h.1 (k * 64 + 63) tv).1
  rw [cellsN_tabd ms hi rl rs tv] at hrow
  have hok := (h.2.1 m (List.mem_of_getElem? hi)).1.1
  have hfr : ∀ b, blk tv rl = some b → n1 ≤ b := fun b hb => by
    unfold blk at hb
    split at hb
    · cases hb
    · rename_i h0
      obtain ⟨a, c, e, hrw⟩ := ht
      exact (World.ownsRow.lt (hrw.resolve_left h0) b hb).1
  refine h.swap hi rfl rfl ⟨hok.1, hok.2.1, hok.2.2.1, hr, hl⟩ hrow (gr_set (World.grownBy.refl w _)) (ht.lower hlo) (fun b hb => ?_)
  have hb' : n1 ≤ b := hfr b hb
  exact ⟨by omega, fun mj hj t e => by have := hc mj hj t b e; omega⟩
/-- What stands in memory while SetTable works: its boxes, the copy's variable, the copy. -/
structure SG (w u : World) (s3 : Value) (O5 : Obj) (X : Nat) (x : Value) (ms : List ND) (w' : World) : Prop where
  bu : Below u.heap.size u w'
  bw : Below w.heap.size w w'
  hu : u.heap.size = w.heap.size + 3
  hX : u.heap.size ≤ X
  hg : ∀ b, x.ownBlock = some b → b < X
  h3 : w'.heap[w.heap.size]? = some (.cells #[s3] 26)
  h5 : w'.heap[w.heap.size + 1]? = some O5
  h6 : w'.heap[w.heap.size + 1 + 1]? = some (.cells #[.slice none 0 0] 26)
  h8 : w'.heap[X]? = some (.cells #[x] 26)
  ho : OwnN u.heap.size x ms w'
theorem SG.c3 {w u : World} {s3 x : Value} {O5 : Obj} {X : Nat} {ms : List ND} {w' : World} (h : SG w u s3 O5 X x ms w') : w'.cell? ⟨w.heap.size, 0, none⟩ = some s3 := (Go.Joins.cell_of_block h.h3 0).trans rfl
theorem SG.c8 {w u : World} {s3 x : Value} {O5 : Obj} {X : Nat} {ms : List ND} {w' : World} (h : SG w u s3 O5 X x ms w') : w'.cell? ⟨X, 0, none⟩ = some x := (Go.Joins.cell_of_block h.h8 0).trans rfl
theorem SG.c6 {w u : World} {s3 x : Value} {O5 : Obj} {X : Nat} {ms : List ND} {w' : World} (h : SG w u s3 O5 X x ms w') : w'.cell? ⟨w.heap.size + 1 + 1, 0, none⟩ = some (.slice none 0 0) := (Go.Joins.cell_of_block h.h6 0).trans rfl
theorem SG.kept {w u : World} {s3 x : Value} {O5 : Obj} {X : Nat} {ms : List ND} {w' w'' : World} (h : SG w u s3 O5 X x ms w') (b : Below w'.heap.size w' w'') : SG w u s3 O5 X x ms w'' :=
  ⟨h.bu.trans (b.mono h.bu.size), h.bw.trans (b.mono h.bw.size), h.hu, h.hX, h.hg, hp_below h.h3 b, hp_below h.h5 b, hp_below h.h6 b, hp_below h.h8 b, h.ho.below b⟩
theorem SG.ptr {w u : World} {s3 : Value} {O5 : Obj} {X : Nat} {ms : List ND} {w' : World} {av : Option Addr} {cv : Nat} (h : SG w u s3 O5 X (.slice av ms.length cv) ms w') (hm : 0 < ms.length) : ∃ g, av = some ⟨g, 0, none⟩ := by
  rcases h.ho.1.2 with ⟨h1, h2⟩ | ⟨g, cap, cur, h1, _⟩
  · omega
  · simp at h1; exact ⟨g, h1.1⟩
theorem SG.done {w u : World} {s3 x : Value} {O5 : Obj} {X : Nat} {ms : List ND} {w' : World} (h : SG w u s3 O5 X x ms w') :
    (w'.setCell ⟨w.heap.size + 1 + 1, 0, none⟩ x).cell? ⟨w.heap.size + 1 + 1, 0, none⟩ = some x ∧ OwnN w.heap.size x ms (w'.setCell ⟨w.heap.size + 1 + 1, 0, none⟩ x) ∧ Below w.heap.size w (w'.setCell ⟨w.heap.size + 1 + 1, 0, none⟩ x) := by
  have hu := h.hu
  have g3 := Go.Joins.block_setCell (i := 0) h.h6 x
  refine ⟨(Go.Joins.cell_of_block g3 0).trans rfl, (h.ho.kept (from_set (g := w.heap.size + 1 + 1) (by omega) 0 x)).lower (by omega), bl_set h.bw (g := w.heap.size + 1 + 1) 0 (by omega) x⟩
theorem SG.set1 {w u : World} {s3 : Value} {O5 : Obj} {X : Nat} {ms ms' : List ND} {w' w4 : World} {g cv j : Nat} {v : Value} (h : SG w u s3 O5 X (.slice (some ⟨g, 0, none⟩) ms.length cv) ms w') (hm : 0 < ms.length) (e : w4 = w'.setCell ⟨g, j, none⟩ v)
    (ho : OwnN u.heap.size (.slice (some ⟨g, 0, none⟩) ms.length cv) ms' w4) : SG w u s3 O5 X (.slice (some ⟨g, 0, none⟩) ms.length cv) ms' w4 := by
  have hg : u.heap.size ≤ g := by
    rcases h.ho.1.2 with ⟨h1, h2⟩ | ⟨g', cap, cur, h1, hg, _⟩
    · omega
    · simp at h1; omega
  have hu := h.hu
  have hX : g ≠ X := fun e => by have := h.hg g rfl; omega
  exact ⟨by rw [e]; exact bl_set h.bu j hg v, by rw [e]; exact bl_set h.bw j (by omega) v, hu, h.hX, h.hg, by rw [e]; exact hp_set h.h3 (by omega) j v, by rw [e]; exact hp_set h.h5 (by omega) j v, by rw [e]; exact hp_set h.h6 (by omega) j v, by rw [e]; exact hp_set h.h8 hX.symm j v, ho⟩
theorem SG.thereAt {w u : World} {s3 : Value} {O5 : Obj} {X : Nat} {ms : List ND} {w' : World} {g cv k : Nat} (h : SG w u s3 O5 X (.slice (some ⟨g, 0, none⟩) ms.length cv) ms w') (hm : k < ms.length) (j : Nat) (hj : j < 64) :
    (∃ v, w'.cell? ⟨g, k * 64 + j, none⟩ = some v) ∧ w'.frozen? ⟨g, k * 64 + j, none⟩ = false := by
  have := h.ho.there hm j hj
  exact ⟨Option.isSome_iff_exists.1 this.1, this.2⟩
/-- The table stored, then the mark. -/
theorem SG.tab {w u : World} {s3 : Value} {O5 : Obj} {X : Nat} {ms : List ND} {wB w4 w5 : World} {g cv k rl : Nat} {rs : List Int} {tv : Value} (h : SG w u s3 O5 X (.slice (some ⟨g, 0, none⟩) ms.length cv) ms wB) (hm : k < ms.length) (b4 : Below wB.heap.size wB w4)
    (ht : TRow wB.heap.size tv rl rs w4) (hr : AllI rs) (hl : rs.length = rl * 3) (e5 : w5 = w4.setCell ⟨g, k * 64 + 63, none⟩ tv) :
    SG w u s3 O5 X (.slice (some ⟨g, 0, none⟩) (ms.set k (ms[k].tabd rl rs tv)).length cv) (ms.set k (ms[k].tabd rl rs tv)) w5 := by
  have h4 := h.kept b4
  have hi : ms[k]? = some ms[k] := List.getElem?_eq_getElem hm
  have ho := h4.ho.retab hi ht hr hl h.bu.size (h.ho.1.lt g rfl).2 (fun mj hj t b e => ((h.ho.2.1 mj hj).1.lt t b e).2)
  rw [← e5] at ho
  rw [List.length_set]
  exact h4.set1 (by omega) e5 ho
theorem SG.mea {w u : World} {s3 : Value} {O5 : Obj} {X : Nat} {ms : List ND} {w5 w6 : World} {g cv k : Nat} (me : Bool) (h : SG w u s3 O5 X (.slice (some ⟨g, 0, none⟩) ms.length cv) ms w5) (hm : k < ms.length) (e6 : w6 = w5.setCell ⟨g, k * 64 + 62, none⟩ (.bool me)) :
    SG w u s3 O5 X (.slice (some ⟨g, 0, none⟩) (ms.set k (ms[k].measd me)).length cv) (ms.set k (ms[k].measd me)) w6 := by
  have hi : ms[k]? = some ms[k] := List.getElem?_eq_getElem hm
  have ho := h.ho.remeas me hi
  rw [← e6] at ho
  rw [List.length_set]
  exact h.set1 (by omega) e6 ho
/-- The table appended to a slice of none and then stored. -/
theorem SG.rebuild {w u : World} {s3 : Value} {O5 : Obj} {X : Nat} {ms : List ND} {w5 va wB : World} {g cv k rl : Nat} {rs : List Int} {tv : Value} (h : SG w u s3 O5 X (.slice (some ⟨g, 0, none⟩) ms.length cv) ms w5) (hm : k < ms.length)
    (b1 : Below w5.heap.size w5 va) (hown : wB.ownsRow w5.heap.size 137 3 tv (0 + rl) ([] ++ rs.map (Value.int .i64))) (hg : va.grownBy wB (some w5.heap.size)) (hr : AllI rs) (hl : rs.length = rl * 3) :
    SG w u s3 O5 X (.slice (some ⟨g, 0, none⟩) ms.length cv) ms wB ∧ (∃ a c, tv = .slice a rl c) ∧ ∀ wF, wF = wB.setCell ⟨g, k * 64 + 63, none⟩ tv → SG w u s3 O5 X (.slice (some ⟨g, 0, none⟩) (ms.set k (ms[k].tabd rl rs tv)).length cv) (ms.set k (ms[k].tabd rl rs tv)) wF := by
  have bB : Below w5.heap.size w5 wB := b1.grown hg b1.size (fun q hq => by simp at hq; omega)
  obtain ⟨a, c, e⟩ := own_form hown
  rw [Nat.zero_add] at e
  have ht : TRow w5.heap.size tv rl rs wB := ⟨a, c, e, Or.inr (by unfold RowR; simpa using hown)⟩
  exact ⟨h.kept bB, ⟨a, c, e⟩, fun wF ef => h.tab hm bB ht hr hl ef⟩
def tabSet (ns : List PN) (z : Int) (rl : Nat) (rs : List Int) : List PN := ns.set (z - 1).toNat { ndAt ns z with meas := decide (0 < rl), rl := rl, rules := rs }
def stK (ns : List PN) (z : Int) : Bool := decide (0 < (ndAt ns z).kids.length)
def stN (ns : List PN) (z : Int) (rl : Nat) (rs : List Int) : List PN := if (nIn ns.length z && treeB ns) = true then if (decide (0 < rl) && (!tokB rs rl || stK ns z)) = true then ns else tabSet ns z rl rs else ns
def stC (ns : List PN) (z : Int) (rl : Nat) (rs : List Int) : Int := if (nIn ns.length z && treeB ns) = true then if (decide (0 < rl) && (!tokB rs rl || stK ns z)) = true then 6 else 0 else 1
theorem tabled_map {ms : List ND} {ns : List PN} {k rl : Nat} {rs : List Int} {tv : Value} {me : Bool} (h : ms.map ND.n = ns) (hk : k < ms.length) (hme : me = decide (0 < rl)) (h1 : k < (ms.set k (ms[k].tabd rl rs tv)).length) (h2 : k < (ms.set k (ms[k].measd me)).length) :
    ((ms.set k (ms[k].tabd rl rs tv)).set k ((ms.set k (ms[k].tabd rl rs tv))[k].measd me)).map ND.n = tabSet ns ((k : Int) + 1) rl rs ∧ ((ms.set k (ms[k].measd me)).set k ((ms.set k (ms[k].measd me))[k].tabd rl rs tv)).map ND.n = tabSet ns ((k : Int) + 1) rl rs := by
  subst h hme
  unfold tabSet
  have e : ((k : Int) + 1 - 1).toNat = k := by omega
  rw [e, ndAt_get (by simp; omega) (by simp; omega)]
  simp only [e, List.getElem_set_self, List.set_set, List.map_set]
  constructor <;> (congr 1; simp [ND.tabd, ND.measd])
theorem kl_nat (n : Nat) : decide (0 < n) = decide ((0 : Int) < (n : Int)) := by simp
set_option linter.unusedVariables false
set_option linter.unusedSimpArgs false
set_option maxRecDepth 8000

set_option linter.unusedVariables false
set_option linter.unusedSimpArgs false
set_option maxRecDepth 8000

set_option maxHeartbeats 1000000 in
theorem ssettableK (a : Option Addr) (cap : Nat) (ns : List PN) (z : Int) (b : Option Addr) (rl c : Nat) (rs : List Int) (w : World) (hz : Nds w a ns) (hl : szS ns ≤ 1048576) (hx : Rls w b rl rs) (hrl : rl ≤ 1048576) (hz0 : -9223372036854775808 ≤ z ∧ z ≤ 9223372036854775807) :
    Calls Try.prog 29 #[.agg #[.slice a ns.length cap], .int .i64 z, .agg #[.slice b rl c]] w (ChPostK (stN ns z rl rs) (stC ns z rl rs) w) := by
  have bb := below_three w (.cells #[.slice a ns.length cap] 26) (.cells #[.slice b rl c] 51) (.cells #[.slice none 0 0] 26)
  have h0 := hp_on (hp_on (hp_new w (.cells #[.slice a ns.length cap] 26)) (.cells #[.slice b rl c] 51)) (.cells #[.slice none 0 0] 26)
  have h1 := hp_on (hp_new (w.alloc (.cells #[.slice a ns.length cap] 26)) (.cells #[.slice b rl c] 51)) (.cells #[.slice none 0 0] 26)
  have h2 := hp_new ((w.alloc (.cells #[.slice a ns.length cap] 26)).alloc (.cells #[.slice b rl c] 51)) (.cells #[.slice none 0 0] 26)
  simp only [World.size_alloc] at h1 h2
  obtain ⟨u, eu⟩ : ∃ u, u = (((w.alloc (.cells #[.slice a ns.length cap] 26)).alloc (.cells #[.slice b rl c] 51)).alloc (.cells #[.slice none 0 0] 26)) := ⟨_, rfl⟩
  rw [← eu] at bb h0 h1 h2
  have hs : u.heap.size = w.heap.size + 3 := by rw [eu]; simp
  have hrr := hx.2.1
  have hrl3 := hx.1
  have c0 : u.cell? ⟨w.heap.size, 0, none⟩ = some (.slice a ns.length cap) := (Go.Joins.cell_of_block h0 0).trans rfl
  have KEY : ∀ (w1 v1 : World) (x : Value) (ms : List ND), OwnN u.heap.size x ms w1 → Below u.heap.size u w1 → v1 = w1.alloc (.cells #[x] 26) → SG w u (.slice a ns.length cap) (.cells #[.slice b rl c] 51) w1.heap.size x ms v1 := fun w1 v1 x ms ho b1 e => by
    have b2 := bel_alloc w1 (.cells #[x] 26)
    rw [← e] at b2
    have b3 := b1.trans (b2.mono b1.size)
    refine ⟨b3, bb.trans (b3.mono bb.size), hs, b1.size, fun b hb => (ho.1.lt b hb).2, hp_below h0 b3, hp_below h1 b3, hp_below h2 b3, ?_, ho.below b2⟩
    rw [e]; exact hp_new _ _
  have EU := Lib.hid eu
  have HZ := Lib.hid (hz.below bb)
  have HR := Lib.hid (hx.below bb)
  have KEY' := KEY
  clear KEY
  have KEY := Lib.hid KEY'
  clear KEY'
  clear hz hx eu bb h0 h1 h2 hs
  have hv : stN ns z rl rs = (if (nIn ns.length z && treeB ns) = true then if (decide (0 < rl) && (!tokB rs rl || stK ns z)) = true then ns else tabSet ns z rl rs else ns) := rfl
  have hc : stC ns z rl rs = (if (nIn ns.length z && treeB ns) = true then if (decide (0 < rl) && (!tokB rs rl || stK ns z)) = true then 6 else 0 else 1) := rfl
  have KT := Lib.hid (fun w' (h : Nds w' a ns) => streeok a cap ns w' h hl)
  have KI := Lib.hid (fun w' => sl10is a ns.length cap z w')
  have KO := Lib.hid (fun w' (h : Rls w' b rl rs) => stableok b rl c rs w' h (by omega))
  have hM : decide ((0 : Int) < (rl : Int)) = decide (0 < rl) := by simp
  have HK := Lib.hid (show stK ns z = decide (0 < (ndAt ns z).kids.length) from rfl)
  have hnl : ns.length ≤ 1048576 := by unfold szS at hl; omega
  have HLK := Lib.hid (fun h => nd_look HZ.out (z := z) h)
  have HNI := Lib.hid (fun h : nIn ns.length z = true => nIn_iff.1 h)
  obtain ⟨r0, hr0, hrz0, hrz1, hrz2⟩ := info_parts info_rule
  have HMM := Lib.hid (rfl : decide (0 < rl) = decide (0 < rl))
  generalize nIn ns.length z = r at *
  generalize treeB ns = t at *
  generalize tokB rs rl = T at *
  obtain ⟨M, eM⟩ : ∃ M, M = decide (0 < rl) := ⟨_, rfl⟩
  rw [← eM] at hM hv hc
  have EM := Lib.hid eM
  have hMn := eM.symm
  clear eM HMM
  generalize stK ns z = K at *
  rw [hv, hc]
  clear hv hc
  cases t
  case' false => rw [Bool.and_false]
  case' true => cases r
  case' true.true => cases M
  case' true.true.true => cases T
  case' true.true.true.true => cases K
  case' true.true.false | true.true.true.false | true.true.true.true.false | true.true.true.true.true =>
    obtain ⟨b0, off, k, kv, tv0, rfl, hzk, hkl, hgd, hok0, hrg, hkk0, htt0⟩ := HLK.out rfl
    subst hzk
    have hw : IntKind.i64.wrap ((k : Int) + 1 - 1) = (k : Int) := by rw [show (k : Int) + 1 - 1 = k by omega]; exact IntWalk.i64_in _ (by omega)
    have hlo : (0 : Int) ≤ (k : Int) := Int.natCast_nonneg _
    have K1 := Lib.hid hkk0.one
    have T1 := Lib.hid htt0.one
    have HRG := Lib.hid hrg
    obtain ⟨ka, kc, rfl, _⟩ := hkk0
    have FK := Lib.hid (fldKids (ndAt ns ((k : Int) + 1)).up (.slice ka (ndAt ns ((k : Int) + 1)).kids.length kc) (ndAt ns ((k : Int) + 1)).sty (ndAt ns ((k : Int) + 1)).meas tv0)
    obtain ⟨kl, ekl⟩ : ∃ q, q = (ndAt ns ((k : Int) + 1)).kids.length := ⟨_, rfl⟩
    have hkk : decide ((0 : Int) < (kl : Int)) = _ := ((kl_nat kl).symm.trans (by rw [ekl])).trans HK.out.symm
    have hkn : decide (0 < kl) = _ := (kl_nat kl).trans hkk
    have EKL := Lib.hid ekl
    clear hgd hok0 hrg ekl
  all_goals
    try simp only [Bool.false_and, Bool.true_and, Bool.and_false, Bool.and_true, Bool.not_true, Bool.not_false, Bool.true_or, Bool.or_true, Bool.false_or, Bool.or_false]
    go_enter Try.func29, Try.ntmps29
    go_wp2_with (first
      | (rw [← EU.out])
      | (go_at_call 68; refine (sl10copyK _ cap ns u HZ.out hl).mono ?_; rintro e w1 ⟨v, ms, hms, rfl, ho, b1, hkcs⟩; have HKCS := Lib.hid hkcs; clear hkcs; obtain ⟨av, cv, rfl⟩ := own_form ho.1; clear c0;
          obtain ⟨v1, ev1⟩ : ∃ v1, v1 = w1.alloc (.cells #[.slice av ms.length cv] 26) := ⟨_, rfl⟩; have S1 := Lib.hid (KEY.out w1 v1 _ ms ho b1 ev1); have EV1 := Lib.hid ev1; clear ev1 b1 ho; have c3 := S1.out.c3; have HMS := Lib.hid hms; clear hms)
      | (rw [← EV1.out])
      | (go_at_call 18; refine (KT.out _ (HZ.out.below S1.out.bu)).mono ?_; rintro e w2 ⟨rfl, b2⟩; have S2 := Lib.hid (S1.out.kept b2); clear b2 c3; have c3 := S2.out.c3; have c8 := S2.out.c8; have c6 := S2.out.c6; have f6 := Go.Joins.unfrozen_of_block S2.out.h6 0)
      | (go_at_call 69; refine (KI.out _).mono ?_; rintro e w2 ⟨rfl, b2⟩; replace S2 := Lib.hid (S2.out.kept b2); clear b2 c3 c8 c6 f6; have c3 := S2.out.c3; have c8 := S2.out.c8; have c6 := S2.out.c6; have c5 := (Go.Joins.cell_of_block S2.out.h5 0).trans rfl; have f6 := Go.Joins.unfrozen_of_block S2.out.h6 0;
          (try (have hkm : k < ms.length := (by rw [map_len HMS.out]; exact hkl); obtain ⟨g, eg⟩ := S2.out.ptr (by omega); subst eg; have hhi : (k : Int) < (ms.length : Int) := (by omega); obtain ⟨⟨v62, c62⟩, f62⟩ := S2.out.thereAt hkm 62 (by decide); obtain ⟨w5, ew5⟩ : ∃ w5, w5 = w2.setCell ⟨g, k * 64 + 62, none⟩ (.bool false) := ⟨_, rfl⟩; have S5 := Lib.hid (S2.out.mea _ hkm ew5); have EW5 := Lib.hid ew5; clear ew5)))
      | (go_at_call 81; refine (KO.out _ (HR.out.below S2.out.bu)).mono ?_; rintro e w3 ⟨rfl, b3⟩; replace S2 := Lib.hid (S2.out.kept b3); clear b3 c3 c8 c6 c5 f6; have c3 := S2.out.c3; have c8 := S2.out.c8; have c6 := S2.out.c6; have c5 := (Go.Joins.cell_of_block S2.out.h5 0).trans rfl; have f6 := Go.Joins.unfrozen_of_block S2.out.h6 0)
      | (go_at_call 70; refine (sl10nd b0 off ns.length cap k _ (ndAt ns ((k : Int) + 1)) _ tv0 _ rfl hkl hnl (rg_below HRG.out S2.out.bu) K1.out T1.out).mono ?_; rintro e w3 ⟨rfl, b3⟩; have FF := Lib.hid (FK.out w3); replace S2 := Lib.hid (S2.out.kept b3); clear b3 c3 c8 c6 c5 f6; have c8 := S2.out.c8; have c6 := S2.out.c6; have c5 := (Go.Joins.cell_of_block S2.out.h5 0).trans rfl; have f6 := Go.Joins.unfrozen_of_block S2.out.h6 0;
          clear c62 f62 EW5 S5; obtain ⟨⟨v62, c62⟩, f62⟩ := S2.out.thereAt hkm 62 (by decide); obtain ⟨w5, ew5⟩ : ∃ w5, w5 = w3.setCell ⟨g, k * 64 + 62, none⟩ (.bool true) := ⟨_, rfl⟩; have S5 := Lib.hid (S2.out.mea _ hkm ew5); have EW5 := Lib.hid ew5; clear ew5)
      | (rw [← EW5.out]; clear c62 f62 c8 c6 f6; have c8 := S5.out.c8; have c6 := S5.out.c6; have c5 := (Go.Joins.cell_of_block S5.out.h5 0).trans rfl; have f6 := Go.Joins.unfrozen_of_block S5.out.h6 0)
      | (have FF' := FF.out; clear FF; (with_reducible apply list_gfield); exact rfl; exact rfl; exact rfl; (with_reducible exact FF'); simp only [Act.put, List.setIfInBounds_toArray, List.set_cons_succ, List.set_cons_zero]; clear FF'; rw [← EKL.out])
      | fail)
  all_goals try
    (have D := S2.out.done
     obtain ⟨zc, D1, D2⟩ := D
     first
       | (obtain ⟨w7, ew7⟩ : ∃ q, q = (_ : World).setCell ⟨w.heap.size + 1 + 1, 0, none⟩ (.slice (some ⟨g, 0, none⟩) ms.length cv) := ⟨_, rfl⟩
          rw [← ew7] at zc D1 D2 ⊢
          exact bodyPost_ret (v := .tuple #[.agg #[.slice (some ⟨g, 0, none⟩) ms.length cv], .int .i64 6]) (by simp [results, Try.results29, go_sem, zc]) rfl ⟨_, ms, HMS.out, rfl, D1, D2, HKCS.out⟩)
       | exact bodyPost_ret (v := .tuple #[.agg #[.slice (some ⟨g, 0, none⟩) ms.length cv], .int .i64 6]) (by simp only [results, Try.results29]; simp [go_sem, zc]) rfl ⟨_, ms, HMS.out, rfl, D1, D2, HKCS.out⟩
       | exact bodyPost_ret (v := .tuple #[.agg #[.slice av ms.length cv], .int .i64 1]) (by simp only [results, Try.results29]; simp [go_sem, zc]) rfl ⟨_, ms, HMS.out, rfl, D1, D2, HKCS.out⟩)
  all_goals
    have S5' := S5.out
    first
      | (obtain ⟨ms5, e5⟩ : ∃ q, q = ms.set k (ms[k].measd true) := ⟨_, rfl⟩
         rw [← e5] at S5' c8
         obtain ⟨me, hme, eme⟩ : ∃ me, me = true ∧ ms5 = ms.set k (ms[k].measd me) := ⟨_, rfl, e5⟩)
      | (obtain ⟨ms5, e5⟩ : ∃ q, q = ms.set k (ms[k].measd false) := ⟨_, rfl⟩
         rw [← e5] at S5' c8
         obtain ⟨me, hme, eme⟩ : ∃ me, me = false ∧ ms5 = ms.set k (ms[k].measd me) := ⟨_, rfl, e5⟩)
    have EME := Lib.hid eme
    have HME := Lib.hid hme
    have hkm5 : k < ms5.length := (by rw [eme]; simpa using hkm)
    have hhi5 : (k : Int) < (ms5.length : Int) := (by omega)
    clear S5 e5 hme eme
    have hS5 : w5.drew.cell? ⟨w1.heap.size, 0, none⟩ = some (.slice (some ⟨g, 0, none⟩) ms5.length cv) ∧ w5.drew.cell? ⟨w.heap.size + 1, 0, none⟩ = some (.slice b rl c) := ⟨c8, c5⟩
    refine wp_region_held_drew (S := fun w' => w'.cell? ⟨w1.heap.size, 0, none⟩ = some (.slice (some ⟨g, 0, none⟩) ms5.length cv) ∧ w'.cell? ⟨w.heap.size + 1, 0, none⟩ = some (.slice b rl c)) (by kernel_rfl) hS5 (fun hHeld => ?_)
    refine wpAnyH_take (i := 0) (oi := ⟨some 49, Op.fieldAddr 26 (Operand.tmp 8) 0, 0, _, _, _⟩) (v := ?_) rfl (by kernel_rfl) (by kernel_rfl) (by kernel_rfl) (fun _ _ _ h => h) (Or.inl ⟨by rfl, ?_⟩) hHeld ?_
    rotate_left
    · intro W hSW; (try dsimp only at hSW); obtain ⟨q8, q5⟩ := hSW; go_simp <;> with_reducible rfl
    simp only [Act.put, List.setIfInBounds_toArray, List.set_cons_zero, List.set_cons_succ]
    refine wpAnyH_take (i := 1) (oi := ⟨some 50, Op.load 24 (Operand.tmp 49), 24, _, _, _⟩) (v := ?_) rfl (by kernel_rfl) (by kernel_rfl) (by kernel_rfl) (fun _ _ _ h => h) (Or.inl ⟨by rfl, ?_⟩) hHeld ?_
    rotate_left
    · intro W hSW; (try dsimp only at hSW); obtain ⟨q8, q5⟩ := hSW; go_simp <;> with_reducible rfl
    simp only [Act.put, List.setIfInBounds_toArray, List.set_cons_zero, List.set_cons_succ]
    refine wpAnyH_take (i := 2) (oi := ⟨some 51, Op.move (Operand.tmp 1), 3, _, _, _⟩) (v := ?_) rfl (by kernel_rfl) (by kernel_rfl) (by kernel_rfl) (fun _ _ _ h => h) (Or.inl ⟨by rfl, ?_⟩) hHeld ?_
    rotate_left
    · intro W hSW; (try dsimp only at hSW); obtain ⟨q8, q5⟩ := hSW; go_simp <;> with_reducible rfl
    simp only [Act.put, List.setIfInBounds_toArray, List.set_cons_zero, List.set_cons_succ]
    refine wpAnyH_take (i := 3) (oi := ⟨some 52, Op.binOp BinOp.sub 3 (Operand.tmp 51) (Operand.const (Value.int IntKind.i64 1)) 3, 3, _, _, _⟩) (v := ?_) rfl (by kernel_rfl) (by kernel_rfl) (by kernel_rfl) (fun _ _ _ h => h) (Or.inl ⟨by rfl, ?_⟩) hHeld ?_
    rotate_left
    · intro W hSW; (try dsimp only at hSW); obtain ⟨q8, q5⟩ := hSW; go_simp <;> with_reducible rfl
    simp only [Act.put, List.setIfInBounds_toArray, List.set_cons_zero, List.set_cons_succ]
    refine wpAnyH_take (i := 5) (oi := ⟨some 54, Op.fieldAddr 51 (Operand.tmp 5) 0, 0, _, _, _⟩) (v := ?_) rfl (by kernel_rfl) (by kernel_rfl) (by kernel_rfl) (fun _ _ _ h => h) (Or.inl ⟨by rfl, ?_⟩) hHeld ?_
    rotate_left
    · intro W hSW; (try dsimp only at hSW); obtain ⟨q8, q5⟩ := hSW; go_simp <;> with_reducible rfl
    simp only [Act.put, List.setIfInBounds_toArray, List.set_cons_zero, List.set_cons_succ]
    refine wpAnyH_take (i := 6) (oi := ⟨some 55, Op.load 49 (Operand.tmp 54), 49, _, _, _⟩) (v := ?_) rfl (by kernel_rfl) (by kernel_rfl) (by kernel_rfl) (fun _ _ _ h => h) (Or.inl ⟨by rfl, ?_⟩) hHeld ?_
    rotate_left
    · intro W hSW; (try dsimp only at hSW); obtain ⟨q8, q5⟩ := hSW; go_simp <;> with_reducible rfl
    simp only [Act.put, List.setIfInBounds_toArray, List.set_cons_zero, List.set_cons_succ]
    refine anyH_1 4 rfl (by kernel_rfl) rfl ?_
    go_wp2_with (fail)
    obtain ⟨va, eva⟩ : ∃ q, q = w5.alloc (.cells #[] 137) := ⟨_, rfl⟩
    rw [← eva]
    have b1 : Below w5.heap.size w5 va := (by rw [eva]; exact bel_alloc w5 _)
    have Sa := Lib.hid (S5'.kept b1)
    have ca8 := Sa.out.c8
    have ca5 : va.cell? ⟨w.heap.size + 1, 0, none⟩ = some (.slice b rl c) := (Go.Joins.cell_of_block Sa.out.h5 0).trans rfl
    refine ⟨⟨ca8, ca5⟩, ?_⟩
    have HOA : va.ownsRow w5.heap.size 137 3 (.slice (some ⟨w5.heap.size, 0, none⟩) 0 0) 0 [] := by rw [eva]; exact World.ownsRow_lit w5 #[] 0 (Nat.le_refl _) (by unfold maxLen; omega) rfl
    have HNA := rls_news (HR.out.below Sa.out.bu)
    have hsz := b1.size
    refine anyH_1 7 rfl (by kernel_rfl) rfl ?_
    refine wp_append_any _ _ 49 rfl w5.heap.size 137 r0 (.agg #[.int .i64 0, .int .i64 0, .int .i64 0]) 3 24 Try.underlying49 hr0 hrz0 hrz1 hrz2 rfl (by decide) (.slice (some ⟨w5.heap.size, 0, none⟩) 0 0) 0 [] rfl HOA b rl c (rs.map (Value.int .i64)) rfl (by simp; exact hrl3) HNA (ints_one' rs) (by unfold maxLen; omega) (by omega) hsz ?_
    intro tv wB hown hgr _
    obtain ⟨SB, ⟨ta, tc, rfl⟩, hF⟩ := S5'.rebuild hkm5 b1.drew hown hgr hrr hrl3
    have cb8 := SB.c8
    have cb5 : wB.cell? ⟨w.heap.size + 1, 0, none⟩ = some (.slice b rl c) := (Go.Joins.cell_of_block SB.h5 0).trans rfl
    refine ⟨⟨cb8, cb5⟩, ?_⟩
    simp only [Act.put, List.setIfInBounds_toArray, List.set_cons_zero, List.set_cons_succ]
    obtain ⟨⟨v63, c63⟩, f63⟩ := SB.thereAt hkm5 63 (by decide)
    obtain ⟨wF, eF⟩ : ∃ q, q = wB.setCell ⟨g, k * 64 + 63, none⟩ (.slice ta rl tc) := ⟨_, rfl⟩
    have SF := Lib.hid (hF wF eF)
    have EF := Lib.hid eF
    have hq8 : w1.heap.size ≠ g := by have := S5'.hg g rfl; omega
    clear hF eF hown hgr HOA HNA Sa ca8 ca5 hS5 hHeld c8 c5 c6 f6
    refine anyH_1 8 rfl (by kernel_rfl) rfl ?_
    go_wp2_with (fail)
    refine anyH_1 9 rfl (by kernel_rfl) rfl ?_
    go_wp2_with (fail)
    refine anyH_1 10 rfl (by kernel_rfl) rfl ?_
    go_wp2_with (fail)
    refine anyH_1 11 rfl (by kernel_rfl) rfl ?_
    have cF8 := SF.out.c8
    have cF5 : wF.cell? ⟨w.heap.size + 1, 0, none⟩ = some (.slice b rl c) := (Go.Joins.cell_of_block SF.out.h5 0).trans rfl
    have cF6 := SF.out.c6
    have fF6 := Go.Joins.unfrozen_of_block SF.out.h6 0
    have hFl : (ms5.set k (ms5[k].tabd rl rs (.slice ta rl tc))).length = ms5.length := List.length_set
    rw [hFl] at cF8
    go_wp2_with (rw [← EF.out])
    refine wpAnyH_done (by kernel_rfl) ?_ _
    have D := SF.out.done
    rw [hFl] at D
    have hmm : (ms5.set k (ms5[k].tabd rl rs (.slice ta rl tc))).map ND.n = tabSet ns ((k : Int) + 1) rl rs := by
      have e1 := EME.out
      subst e1
      exact (tabled_map HMS.out hkm (HME.out.trans EM.out) (by simpa using hkm) (by simpa using hkm)).2
    have cq8 := cF8
    clear cF8 cF5 cb8 cb5 c63 f63 SF EF SB eva b1 hsz S5'
    have HK5 : KCs ms5 := by
      have e1 := EME.out
      subst e1
      exact HKCS.out.set (fun e => HKCS.out ms[k] (List.getElem_mem _) e)
    obtain ⟨ms6, ems6⟩ : ∃ q, q = ms5.set k (ms5[k].tabd rl rs (.slice ta rl tc)) := ⟨_, rfl⟩
    have HK6 := Lib.hid (show KCs ms6 by rw [ems6]; exact HK5.set (fun e => HK5 ms5[k] (List.getElem_mem _) e))
    clear HK5
    rw [← ems6] at D hmm
    go_wp2_with (fail)
    obtain ⟨zc, D1, D2⟩ := D
    obtain ⟨w7, ew7⟩ : ∃ q, q = wF.setCell ⟨w.heap.size + 1 + 1, 0, none⟩ (.slice (some ⟨g, 0, none⟩) ms5.length cv) := ⟨_, rfl⟩
    rw [← ew7] at zc D1 D2 ⊢
    exact bodyPost_ret (v := .tuple #[.agg #[.slice (some ⟨g, 0, none⟩) ms5.length cv], .int .i64 0]) (by simp [results, Try.results29, go_sem, zc]) rfl ⟨_, ms6, hmm, rfl, D1, D2, HK6.out⟩
end Go.Proofs.Ytckpjldenkjddaa
end

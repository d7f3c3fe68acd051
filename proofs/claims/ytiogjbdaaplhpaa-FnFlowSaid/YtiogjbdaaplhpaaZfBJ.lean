import Derived.Deep.RegionHeld
import Derived.Laws.Tables
import Derived.Deep.RegionLaw
import Derived.Lib.SliceRun
import Derived.Test.YtiogjbdaaplhpaaZfAO
import Derived.Test.YtiogjbdaaplhpaaZfAP
import Derived.Test.YtiogjbdaaplhpaaZfAU
import Derived.Test.YtiogjbdaaplhpaaZfAW
import Derived.Test.YtiogjbdaaplhpaaZfBI
section
namespace Go.Proofs.Ytiogjbdaaplhpaa
open Go.ChangeShapes Go.WideShapes Go.ChangeAt Go.RowKit
set_option linter.unusedVariables false
set_option linter.unusedSimpArgs false
set_option maxRecDepth 8000

theorem TRow.off {lo rl g : Nat} {v : Value} {zs : List Int} {w w' : World} (h : TRow lo v rl zs w) (hg : w.grownBy w' (some g)) (hne : ∀ b, blk v rl = some b → b ≠ g) : TRow lo v rl zs w' := by
  obtain ⟨a, c, e, hr⟩ := h
  refine ⟨a, c, e, ?_⟩
  by_cases h0 : rl = 0
  · exact Or.inl h0
  · refine Or.inr (World.ownsRow.kept (hr.resolve_left h0) hg ?_)
    cases hx : v.ownBlock with
    | none => exact Or.inl rfl
    | some b => exact Or.inr fun e => hne b (by unfold blk; rw [if_neg h0]; exact hx) (by simpa using e)
theorem TRow.lt {lo rl b : Nat} {v : Value} {zs : List Int} {w : World} (h : TRow lo v rl zs w) (hb : blk v rl = some b) : lo ≤ b ∧ b < w.heap.size := by
  obtain ⟨a, c, e, hr⟩ := h
  unfold blk at hb
  split at hb
  · cases hb
  · rename_i h0
    exact World.ownsRow.lt (hr.resolve_left h0) b hb
theorem gr_cells {a : World} {g : Nat} : ∀ (vs : List Value) (o : Nat) (b : World), a.grownBy b (some g) → a.grownBy (b.setCells g o vs) (some g)
  | [], _, _, h => h
  | v :: vs, o, b, h => gr_cells vs (o + 1) _ (gr_set h)
set_option linter.unusedVariables false
set_option linter.unusedSimpArgs false
set_option maxRecDepth 8000

set_option linter.unusedVariables false
set_option linter.unusedSimpArgs false
set_option maxRecDepth 8000

theorem KidsP.far {w w' : World} {G n lo lo' j : Nat} {v v' : Value} {zs : List Int} {ps : List Value} (h : KidsP w G n lo v zs) (hown : w.ownsRow lo' 84 1 v' j ps) (hg : w.grownBy w' v'.ownBlock) (hne : ∀ x, v.ownBlock = some x → v'.ownBlock ≠ some x) : KidsP w' G n lo v zs := by
  obtain ⟨qs, h1, h2⟩ := h
  refine ⟨qs, World.ownsRow.kept h1 hg ?_, fun j z hz => ?_⟩
  · cases hx : v.ownBlock with
    | none => exact Or.inl rfl
    | some x => exact Or.inr fun e => hne x hx e.symm
  · obtain ⟨p, h3, h4⟩ := h2 j z hz
    exact ⟨p, h3, h4.app hown hg⟩
set_option linter.unusedVariables false
set_option linter.unusedSimpArgs false
set_option maxRecDepth 8000

def rmB (ns : List PN) (z y : Int) : Bool := treeB ns && nIn ns.length z && nIn ns.length y
theorem rk_done {w w1 : World} {lo : Nat} {x : Value} {ms : List ND} (h6 : w1.heap[w.heap.size + 1]? = some (.cells #[.slice none 0 0] 26)) (ho : OwnN lo x ms w1) (hlo : w.heap.size + 1 < lo) (hb : Below w.heap.size w w1) :
    (w1.setCell ⟨w.heap.size + 1, 0, none⟩ x).cell? ⟨w.heap.size + 1, 0, none⟩ = some x ∧ OwnN w.heap.size x ms (w1.setCell ⟨w.heap.size + 1, 0, none⟩ x) ∧ Below w.heap.size w (w1.setCell ⟨w.heap.size + 1, 0, none⟩ x) := by
  have g3 := Go.Joins.block_setCell (i := 0) h6 x
  exact ⟨(Go.Joins.cell_of_block g3 0).trans rfl, (ho.kept (from_set (g := w.heap.size + 1) hlo 0 x)).lower (by omega), bl_set hb (g := w.heap.size + 1) 0 (by omega) x⟩
set_option linter.unusedVariables false
set_option linter.unusedSimpArgs false
set_option maxRecDepth 8000

def ND.kidd (m : ND) (zs : List Int) (kv : Value) : ND := ⟨{ m.n with kids := zs }, kv, m.tv⟩
def ND.upd (m : ND) (z : Int) : ND := ⟨{ m.n with up := z }, m.kv, m.tv⟩
theorem cellsN_kidd (ms : List ND) {i : Nat} {m : ND} (hi : ms[i]? = some m) (zs : List Int) (kv : Value) : (cellsN ms).set (i * 64 + 1) kv = cellsN (ms.set i (m.kidd zs kv)) :=
  cellsN_one ms hi (by decide) (cells_cases rfl (by rw [if_pos rfl]; exact nL_kids) (fun j hj => by
    have h1 : m.cells[2 + j]? = _ := nL_sty j hj
    have h2 : (m.kidd zs kv).cells[2 + j]? = _ := nL_sty j hj
    rw [h1, h2, if_neg (by omega)]; rfl) (by
    have h1 : m.cells[62]? = _ := nL_meas
    have h2 : (m.kidd zs kv).cells[62]? = _ := nL_meas
    rw [h1, h2, if_neg (by decide)]; rfl) (by
    have h1 : m.cells[63]? = _ := nL_tab
    have h2 : (m.kidd zs kv).cells[63]? = _ := nL_tab
    rw [h1, h2, if_neg (by decide)]; rfl))
theorem cellsN_upd (ms : List ND) {i : Nat} {m : ND} (hi : ms[i]? = some m) (z : Int) : (cellsN ms).set (i * 64 + 0) (.int .i64 z) = cellsN (ms.set i (m.upd z)) :=
  cellsN_one ms hi (by decide) (cells_cases (by rw [if_pos rfl]; exact nL_up) rfl (fun j hj => by
    have h1 : m.cells[2 + j]? = _ := nL_sty j hj
    have h2 : (m.upd z).cells[2 + j]? = _ := nL_sty j hj
    rw [h1, h2, if_neg (by omega)]; rfl) (by
    have h1 : m.cells[62]? = _ := nL_meas
    have h2 : (m.upd z).cells[62]? = _ := nL_meas
    rw [h1, h2, if_neg (by decide)]; rfl) (by
    have h1 : m.cells[63]? = _ := nL_tab
    have h2 : (m.upd z).cells[63]? = _ := nL_tab
    rw [h1, h2, if_neg (by decide)]; rfl))
/-- One node of the row becomes another one, whose row at the side s is new; nothing but the row's block has turned. -/
theorem OwnN.swapS {lo g cap i : Nat} {ms : List ND} {m m' : ND} {w w' : World} (s : Bool) (h : OwnN lo (.slice (some ⟨g, 0, none⟩) ms.length cap) ms w) (hi : ms[i]? = some m)
    (hoth : m'.comp (!s) = m.comp (!s)) (hok : m'.n.ok) (hK : KRow lo m'.kv m'.n.kids w) (hT : TRow lo m'.tv m'.n.rl m'.n.rules w)
    (hrow : w'.ownsRow lo 61 64 (.slice (some ⟨g, 0, none⟩) ms.length cap) ms.length (cellsN (ms.set i m'))) (hg : w.grownBy w' (some g))
    (hfresh : ∀ b, m'.comp s = some b → b ≠ g ∧ ∀ mj ∈ ms, ∀ t, mj.comp t ≠ some b) :
    OwnN lo (.slice (some ⟨g, 0, none⟩) ms.length cap) (ms.set i m') w' := by
  have hil := (List.getElem?_eq_some_iff.1 hi).1
  have hmi := List.mem_of_getElem? hi
  have rowK : ∀ {e : TypeId} {size n : Nat} {x : Value} {xs : List Value}, w.ownsRow lo e size x n xs → (∀ b, x.ownBlock = some b → b ≠ g) → w'.ownsRow lo e size x n xs := by
    intro e size n x xs hr hne
    refine World.ownsRow.kept hr hg ?_
    cases hx : x.ownBlock with
    | none => exact Or.inl rfl
    | some b => exact Or.inr fun e => hne b hx (by simpa using e)
  have ownK : ∀ q : ND, q.n.ok → KRow lo q.kv q.n.kids w → TRow lo q.tv q.n.rl q.n.rules w → (∀ t b, q.comp t = some b → b ≠ g) → q.own lo w' := by
    intro q h0 ⟨a, c, e, hk⟩ ⟨a', c', e', ht⟩ hne
    refine ⟨h0, ⟨a, c, e, ?_⟩, ⟨a', c', e', ?_⟩⟩
    · by_cases h0 : q.n.kids = []
      · exact Or.inl h0
      · exact Or.inr (rowK (hk.resolve_left h0) fun b hb => hne true b (by unfold ND.comp blk; rw [if_pos rfl, if_neg (by simpa using h0)]; exact hb))
    · by_cases h0 : q.n.rl = 0
      · exact Or.inl h0
      · exact Or.inr (rowK (ht.resolve_left h0) fun b hb => hne false b (by unfold ND.comp blk; rw [if_neg (by decide), if_neg h0]; exact hb))
  have hgn : ∀ q ∈ ms, ∀ t b, q.comp t = some b → b ≠ g := fun q hq t b hb e => (h.2.1 q hq).2 t b hb (by rw [e]; rfl)
  have side : ∀ t b, m'.comp t = some b → (t = s ∧ b ≠ g ∧ ∀ mj ∈ ms, ∀ t, mj.comp t ≠ some b) ∨ (t = !s ∧ m.comp t = some b) := fun t b hb => by
    by_cases e : t = s
    · subst e; exact Or.inl ⟨rfl, hfresh b hb⟩
    · have e' : t = !s := by cases t <;> cases s <;> simp_all
      subst e'
      exact Or.inr ⟨rfl, by rw [← hoth]; exact hb⟩
  have hgm : ∀ t b, m'.comp t = some b → b ≠ g := fun t b hb => by
    rcases side t b hb with ⟨_, h1, _⟩ | ⟨_, h1⟩
    · exact h1
    · exact hgn m hmi t b h1
  refine ⟨by rw [List.length_set]; exact hrow, fun q hq => ?_, fun a b ma mb t t' x ha hb hs ht' => ?_⟩
  · obtain ⟨j, hj⟩ := List.mem_iff_getElem?.1 hq
    by_cases e : j = i
    · subst e
      rw [List.getElem?_set_self hil] at hj
      cases hj
      exact ⟨ownK _ hok hK hT hgm, fun t b hb e => hgm t b hb (by simpa [Value.ownBlock] using e.symm)⟩
    · rw [List.getElem?_set_ne (fun h => e h.symm)] at hj
      have hm := List.mem_of_getElem? hj
      have hq' := h.2.1 q hm
      exact ⟨ownK q hq'.1.1 hq'.1.2.1 hq'.1.2.2 (hgn q hm), hq'.2⟩
  · by_cases ea : a = i
    · subst ea
      rw [List.getElem?_set_self hil] at ha
      cases ha
      by_cases eb : b = a
      · subst eb
        rw [List.getElem?_set_self hil] at hb
        cases hb
        refine ⟨rfl, ?_⟩
        rcases side t x hs with ⟨e1, _, h1⟩ | ⟨e1, h1⟩
        · rcases side t' x ht' with ⟨e2, _, h2⟩ | ⟨e2, h2⟩
          · rw [e1, e2]
          · exact absurd h2 (h1 m hmi t')
        · rcases side t' x ht' with ⟨e2, _, h2⟩ | ⟨e2, h2⟩
          · exact absurd h1 (h2 m hmi t)
          · rw [e1, e2]
      · rw [List.getElem?_set_ne (fun h => eb h.symm)] at hb
        rcases side t x hs with ⟨_, _, h1⟩ | ⟨_, h1⟩
        · exact absurd ht' (h1 mb (List.mem_of_getElem? hb) t')
        · exact absurd (h.2.2 a b m mb t t' x hi hb h1 ht').1.symm eb
    · rw [List.getElem?_set_ne (fun h => ea h.symm)] at ha
      by_cases eb : b = i
      · subst eb
        rw [List.getElem?_set_self hil] at hb
        cases hb
        rcases side t' x ht' with ⟨_, _, h1⟩ | ⟨_, h1⟩
        · exact absurd hs (h1 ma (List.mem_of_getElem? ha) t)
        · exact absurd (h.2.2 a b ma m t t' x ha hi hs h1).1 ea
      · rw [List.getElem?_set_ne (fun h => eb h.symm)] at hb
        exact h.2.2 a b ma mb t t' x ha hb hs ht'
/-- New children. -/
theorem OwnN.rekid {lo g cap k n1 : Nat} {ms : List ND} {m : ND} {kv : Value} {zs : List Int} {w : World} (h : OwnN lo (.slice (some ⟨g, 0, none⟩) ms.length cap) ms w) (hi : ms[k]? = some m)
    (hk : RowI n1 kv zs w) (hz : AllI zs) (hlo : lo ≤ n1) (hg : g < n1) (hc : ∀ mj ∈ ms, ∀ t b, mj.comp t = some b → b < n1) :
    OwnN lo (.slice (some ⟨g, 0, none⟩) ms.length cap) (ms.set k (m.kidd zs kv)) (w.setCell ⟨g, k * 64 + 1, none⟩ kv) := by
  have hrow := (World.ownsRow.stored h.1 (k * 64 + 1) kv).1
  rw [cellsN_kidd ms hi zs kv] at hrow
  have hown := (h.2.1 m (List.mem_of_getElem? hi)).1
  obtain ⟨a, c, e⟩ := own_form hk
  refine h.swapS true hi rfl ⟨hown.1.1, hz, hown.1.2.2.1, hown.1.2.2.2.1, hown.1.2.2.2.2⟩ ⟨a, c, e, Or.inr (ownsRow_lower hk hlo)⟩ hown.2.2 hrow (gr_set (World.grownBy.refl w _)) (fun b hb => ?_)
  have hb' : n1 ≤ b := by
    unfold ND.comp blk at hb
    rw [if_pos rfl] at hb
    split at hb
    · cases hb
    · exact (World.ownsRow.lt hk b hb).1
  exact ⟨by omega, fun mj hj t e => by have := hc mj hj t b e; omega⟩
/-- Another parent. -/
theorem OwnN.reup {lo g cap k : Nat} {ms : List ND} {m : ND} {w : World} (z : Int) (hz : I64 z) (h : OwnN lo (.slice (some ⟨g, 0, none⟩) ms.length cap) ms w) (hi : ms[k]? = some m) :
    OwnN lo (.slice (some ⟨g, 0, none⟩) ms.length cap) (ms.set k (m.upd z)) (w.setCell ⟨g, k * 64 + 0, none⟩ (.int .i64 z)) := by
  have g1 : w.grownBy (w.setCell ⟨g, k * 64 + 0, none⟩ (.int .i64 z)) (some g) := gr_set (World.grownBy.refl w _)
  have hown := (h.2.1 m (List.mem_of_getElem? hi)).1
  have hgne := (h.2.1 m (List.mem_of_getElem? hi)).2
  have hrow := (World.ownsRow.stored h.1 (k * 64 + 0) (.int .i64 z)).1
  rw [cellsN_upd ms hi z] at hrow
  generalize w.setCell ⟨g, k * 64 + 0, none⟩ (.int .i64 z) = w1 at *
  have rowK : ∀ {e : TypeId} {size n : Nat} {x : Value} {xs : List Value}, w.ownsRow lo e size x n xs → (∀ b, x.ownBlock = some b → b ≠ g) → w1.ownsRow lo e size x n xs := fun hr hne => World.ownsRow.kept hr g1 (by
    rename_i x xs
    cases hx : x.ownBlock with
    | none => exact Or.inl rfl
    | some b => exact Or.inr fun e => hne b hx (by simpa using e))
  have hkr : KRow lo m.kv m.n.kids w1 := by
    obtain ⟨a, c, e, hr⟩ := hown.2.1
    by_cases h0 : m.n.kids = []
    · exact ⟨a, c, e, Or.inl h0⟩
    · exact ⟨a, c, e, Or.inr (rowK (hr.resolve_left h0) fun b hb e => hgne true b (by unfold ND.comp blk; rw [if_pos rfl, if_neg (by simpa using h0)]; exact hb) (by rw [e]; rfl))⟩
  have htr : TRow lo m.tv m.n.rl m.n.rules w1 := by
    obtain ⟨a, c, e, hr⟩ := hown.2.2
    by_cases h0 : m.n.rl = 0
    · exact ⟨a, c, e, Or.inl h0⟩
    · exact ⟨a, c, e, Or.inr (rowK (hr.resolve_left h0) fun b hb e => hgne false b (by unfold ND.comp blk; rw [if_neg (by decide), if_neg h0]; exact hb) (by rw [e]; rfl))⟩
  exact h.remark hi rfl rfl rfl rfl hrow ⟨⟨hz, hown.1.2.1, hown.1.2.2.1, hown.1.2.2.2.1, hown.1.2.2.2.2⟩, hkr, htr⟩ (fun q hq h1 _ _ => g1.block q hq (fun e => h1 (by simpa using e))) g1.size
/-- What stands in memory while the model's RemoveKid works: its boxes, the copy's variable, the copy. -/
structure SK (w u : World) (s3 : Value) (X : Nat) (x : Value) (ms : List ND) (w' : World) : Prop where
  bu : Below u.heap.size u w'
  bw : Below w.heap.size w w'
  hu : u.heap.size = w.heap.size + 2
  hX : u.heap.size ≤ X
  hg : ∀ b, x.ownBlock = some b → b < X
  h3 : w'.heap[w.heap.size]? = some (.cells #[s3] 26)
  h6 : w'.heap[w.heap.size + 1]? = some (.cells #[.slice none 0 0] 26)
  h8 : w'.heap[X]? = some (.cells #[x] 26)
  ho : OwnN u.heap.size x ms w'
section
variable {w u w' w'' : World} {s3 x : Value} {X : Nat} {ms : List ND}
theorem SK.c3 (h : SK w u s3 X x ms w') : w'.cell? ⟨w.heap.size, 0, none⟩ = some s3 := c_of h.h3
theorem SK.c8 (h : SK w u s3 X x ms w') : w'.cell? ⟨X, 0, none⟩ = some x := c_of h.h8
theorem SK.c6 (h : SK w u s3 X x ms w') : w'.cell? ⟨w.heap.size + 1, 0, none⟩ = some (.slice none 0 0) := c_of h.h6
theorem SK.kept (h : SK w u s3 X x ms w') (b : Below w'.heap.size w' w'') : SK w u s3 X x ms w'' :=
  ⟨h.bu.trans (b.mono h.bu.size), h.bw.trans (b.mono h.bw.size), h.hu, h.hX, h.hg, hp_below h.h3 b, hp_below h.h6 b, hp_below h.h8 b, h.ho.below b⟩
theorem SK.ptr {av : Option Addr} {cv : Nat} (h : SK w u s3 X (.slice av ms.length cv) ms w') (hm : 0 < ms.length) : ∃ g, av = some ⟨g, 0, none⟩ := by
  rcases h.ho.1.2 with ⟨h1, h2⟩ | ⟨g, cap, cur, h1, _⟩
  · omega
  · simp at h1; exact ⟨g, h1.1⟩
theorem SK.done (h : SK w u s3 X x ms w') :
    (w'.setCell ⟨w.heap.size + 1, 0, none⟩ x).cell? ⟨w.heap.size + 1, 0, none⟩ = some x ∧ OwnN w.heap.size x ms (w'.setCell ⟨w.heap.size + 1, 0, none⟩ x) ∧ Below w.heap.size w (w'.setCell ⟨w.heap.size + 1, 0, none⟩ x) :=
  rk_done h.h6 h.ho (by rw [h.hu]; omega) h.bw
theorem SK.set1 {ms' : List ND} {w4 : World} {g cv j : Nat} {v : Value} (h : SK w u s3 X (.slice (some ⟨g, 0, none⟩) ms.length cv) ms w') (hm : 0 < ms.length) (e : w4 = w'.setCell ⟨g, j, none⟩ v)
    (ho : OwnN u.heap.size (.slice (some ⟨g, 0, none⟩) ms.length cv) ms' w4) : SK w u s3 X (.slice (some ⟨g, 0, none⟩) ms.length cv) ms' w4 := by
  have hg : u.heap.size ≤ g := by
    rcases h.ho.1.2 with ⟨h1, h2⟩ | ⟨g', cap, cur, h1, hg, _⟩
    · omega
    · simp at h1; omega
  have hu := h.hu
  have hX : g ≠ X := fun e => by have := h.hg g rfl; omega
  exact ⟨by rw [e]; exact bl_set h.bu j hg v, by rw [e]; exact bl_set h.bw j (by omega) v, hu, h.hX, h.hg, by rw [e]; exact hp_set h.h3 (by omega) j v, by rw [e]; exact hp_set h.h6 (by omega) j v, by rw [e]; exact hp_set h.h8 hX.symm j v, ho⟩
theorem SK.thereAt {g cv k : Nat} (h : SK w u s3 X (.slice (some ⟨g, 0, none⟩) ms.length cv) ms w') (hm : k < ms.length) (j : Nat) (hj : j < 64) :
    (∃ v, w'.cell? ⟨g, k * 64 + j, none⟩ = some v) ∧ w'.frozen? ⟨g, k * 64 + j, none⟩ = false := by
  have := h.ho.there hm j hj
  exact ⟨Option.isSome_iff_exists.1 this.1, this.2⟩
/-- The children stored. -/
theorem SK.kid {wB w4 w5 : World} {g cv k : Nat} {zs : List Int} {kv : Value} (h : SK w u s3 X (.slice (some ⟨g, 0, none⟩) ms.length cv) ms wB) (hm : k < ms.length) (b4 : Below wB.heap.size wB w4)
    (hk : RowI wB.heap.size kv zs w4) (hz : AllI zs) (e5 : w5 = w4.setCell ⟨g, k * 64 + 1, none⟩ kv) :
    SK w u s3 X (.slice (some ⟨g, 0, none⟩) (ms.set k (ms[k].kidd zs kv)).length cv) (ms.set k (ms[k].kidd zs kv)) w5 := by
  have h4 := h.kept b4
  have hi : ms[k]? = some ms[k] := List.getElem?_eq_getElem hm
  have ho := h4.ho.rekid hi hk hz h.bu.size (h.ho.1.lt g rfl).2 (fun mj hj t b e => ((h.ho.2.1 mj hj).1.lt t b e).2)
  rw [← e5] at ho
  rw [List.length_set]
  exact h4.set1 (by omega) e5 ho
/-- The parent stored. -/
theorem SK.up {w5 w6 : World} {g cv k : Nat} (z : Int) (hz : I64 z) (h : SK w u s3 X (.slice (some ⟨g, 0, none⟩) ms.length cv) ms w5) (hm : k < ms.length) (e6 : w6 = w5.setCell ⟨g, k * 64 + 0, none⟩ (.int .i64 z)) :
    SK w u s3 X (.slice (some ⟨g, 0, none⟩) (ms.set k (ms[k].upd z)).length cv) (ms.set k (ms[k].upd z)) w6 := by
  have hi : ms[k]? = some ms[k] := List.getElem?_eq_getElem hm
  have ho := h.ho.reup z hz hi
  rw [← e6] at ho
  rw [List.length_set]
  exact h.set1 (by omega) e6 ho
end
end Go.Proofs.Ytiogjbdaaplhpaa
end

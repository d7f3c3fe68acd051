import Derived.Test.YtckpjldenkjddaaZtAJ
import Derived.Test.YtckpjldenkjddaaZtBQ
section
namespace Go.Proofs.Ytckpjldenkjddaa
open Go.ChangeShapes Go.WideShapes Go.ChangeAt Go.RowKit
set_option linter.unusedVariables false
set_option linter.unusedSimpArgs false
set_option maxRecDepth 8000

/-- What stands while any tree is drawn: the tree so far in the block gt, the result's in the first. -/
structure TA (w : World) (cb : Nat) (a : Option Addr) (len cap gt : Nat) (ms : List ND) (v : Value) (wr : World) : Prop where
  here : wr.heap[gt]? = some (.cells #[v] 26)
  gtl : w.heap.size < gt
  res : wr.heap[w.heap.size]? = some (.cells #[.slice none 0 0] 26)
  cur : Cur cb a len cap wr
  gro : w.grownBy wr (some cb)
  own : OwnN (w.heap.size + 1) v ms wr
  apv : v.ownBlock ≠ some gt
  apc : ∀ m ∈ ms, ∀ s, m.comp s ≠ some gt
section
variable {w wr w' : World} {cb gt : Nat} {a : Option Addr} {len cap : Nat} {ms : List ND} {v : Value}
theorem TA.lt (h : TA w cb a len cap gt ms v wr) (W : TDw w cb a len) : cb < wr.heap.size := Nat.lt_of_lt_of_le W.ltc h.gro.size
theorem TA.code (h : TA w cb a len cap gt ms v wr) (W : TDw w cb a len) : 0 < len → ∀ b off, a = some ⟨b, off, none⟩ → b < wr.heap.size := fun h0 b off e => Nat.lt_of_lt_of_le (W.code h0 b off e) h.gro.size
theorem TA.draw (h : TA w cb a len cap gt ms v wr) (W : TDw w cb a len) (g : wr.grownBy w' (some cb)) (c : Cur cb a len cap w') : TA w cb a len cap gt ms v w' :=
  ⟨blk_kept h.here g (by have := W.ltc; have := h.gtl; omega), h.gtl, blk_kept h.res g (by have := W.ltc; omega), c, gr_trans h.gro g, h.own.kept ⟨g.size, fun k h1 h2 => g.block k h2 (by have := W.ltc; simp; omega)⟩, h.apv, h.apc⟩
theorem TA.below (h : TA w cb a len cap gt ms v wr) (W : TDw w cb a len) (b : Below wr.heap.size wr w') : TA w cb a len cap gt ms v w' :=
  h.draw W (gr_below b _) (h.cur.kept (h.lt W) (gr_below b none) (fun k hk => by cases hk))
theorem TA.drew (h : TA w cb a len cap gt ms v wr) (W : TDw w cb a len) : TA w cb a len cap gt ms v wr.drew :=
  h.draw W ⟨rfl, rfl, rfl, Nat.le_refl _, fun _ _ _ => rfl⟩ (h.cur.kept (h.lt W) (row := none) ⟨rfl, rfl, rfl, Nat.le_refl _, fun _ _ _ => rfl⟩ (fun k hk => by cases hk))
theorem TA.ptr {va : Option Addr} {vc : Nat} (h : TA w cb a len cap gt ms (.slice va ms.length vc) wr) (hm : 0 < ms.length) : ∃ g, va = some ⟨g, 0, none⟩ := by
  rcases h.own.1.2 with ⟨h1, h2⟩ | ⟨g, cap, cur, h1, _⟩
  · omega
  · simp at h1; exact ⟨g, h1.1⟩
theorem TA.cellAt {g vc p j : Nat} (h : TA w cb a len cap gt ms (.slice (some ⟨g, 0, none⟩) ms.length vc) wr) (hp : p < ms.length) (hj : j < 64) : wr.cell? ⟨g, p * 64 + j, none⟩ = ms[p].cells[j]? ∧ wr.frozen? ⟨g, p * 64 + j, none⟩ = false :=
  ⟨by rw [World.ownsRow.cellAt h.own.1 (p * 64 + j) (by omega), cellsN_at ms p j hj, List.getElem?_eq_getElem hp]; rfl, World.ownsRow.frozenAt h.own.1 _⟩
/-- A change of the nodes behind a store into their row. -/
theorem TA.node {g vc : Nat} {ms' : List ND} (h : TA w cb a len cap gt ms (.slice (some ⟨g, 0, none⟩) ms.length vc) wr) (W : TDw w cb a len) (hl : ms'.length = ms.length) (ho : OwnN (w.heap.size + 1) (.slice (some ⟨g, 0, none⟩) ms.length vc) ms' w') (hg : wr.grownBy w' (some g))
    (hc : ∀ m ∈ ms', ∀ s, m.comp s ≠ some gt) : TA w cb a len cap gt ms' (.slice (some ⟨g, 0, none⟩) ms'.length vc) w' := by
  have hgl := (World.ownsRow.lt h.own.1 g rfl).1
  have hne : g ≠ gt := fun e => h.apv (by rw [e]; rfl)
  rw [hl]
  refine ⟨blk_kept h.here hg (Ne.symm hne), h.gtl, blk_kept h.res hg (by omega), h.cur.kept (h.lt W) hg (fun k hk => ?_), ?_, ho, h.apv, hc⟩
  · simp at hk
    subst hk
    exact ⟨by have := W.ltc; omega, fun h0 b off e => by have := W.code h0 b off e; omega⟩
  · exact ⟨hg.os.trans h.gro.os, hg.tape.trans h.gro.tape, hg.output.trans h.gro.output, Nat.le_trans h.gro.size hg.size, fun k hk hne => (hg.block k (Nat.lt_of_lt_of_le hk h.gro.size) (by simp; omega)).trans (h.gro.block k hk hne)⟩
theorem TA.fin (h : TA w cb a len cap gt ms v wr) (W : TDw w cb a len) (e : w' = wr.setCell ⟨w.heap.size, 0, none⟩ v) : w'.cell? ⟨w.heap.size, 0, none⟩ = some v ∧ OwnN w.heap.size v ms w' ∧ Cur cb a len cap w' ∧ w.grownBy w' (some cb) := by
  subst e
  exact ⟨c_of (Go.Joins.block_setCell (i := 0) h.res v), (h.own.kept (from_set (by omega) 0 v)).lower (by omega), h.cur.stored (h.lt W) W.ltc W.code v, gr_store h.gro (Nat.le_refl _)⟩
theorem comp_set {ms : List ND} {m' : ND} {k gt : Nat} (h : ∀ m ∈ ms, ∀ s, m.comp s ≠ some gt) (h' : ∀ s, m'.comp s ≠ some gt) : ∀ m ∈ ms.set k m', ∀ s, m.comp s ≠ some gt := fun m hm => by
  rcases List.mem_or_eq_of_mem_set hm with hm | rfl
  · exact h m hm
  · exact h'
/-- The parent of a node stored. -/
theorem TA.up {g vc k : Nat} (z : Int) (hz : I64 z) (h : TA w cb a len cap gt ms (.slice (some ⟨g, 0, none⟩) ms.length vc) wr) (W : TDw w cb a len) (hk : k < ms.length) (e : w' = wr.setCell ⟨g, k * 64 + 0, none⟩ (.int .i64 z)) :
    TA w cb a len cap gt (ms.set k (ms[k].upd z)) (.slice (some ⟨g, 0, none⟩) (ms.set k (ms[k].upd z)).length vc) w' := by
  have ho := h.own.reup z hz (List.getElem?_eq_getElem hk)
  rw [← e] at ho
  exact h.node W List.length_set ho (by rw [e]; exact gr_set (World.grownBy.refl wr _)) (comp_set h.apc (fun s => (by cases s <;> rfl : (ms[k].upd z).comp s = ms[k].comp s) ▸ h.apc _ (List.getElem_mem hk) s))
theorem TA.meas {g vc k : Nat} (b : Bool) (h : TA w cb a len cap gt ms (.slice (some ⟨g, 0, none⟩) ms.length vc) wr) (W : TDw w cb a len) (hk : k < ms.length) (e : w' = wr.setCell ⟨g, k * 64 + 62, none⟩ (.bool b)) :
    TA w cb a len cap gt (ms.set k (ms[k].measd b)) (.slice (some ⟨g, 0, none⟩) (ms.set k (ms[k].measd b)).length vc) w' := by
  have ho := h.own.remeas b (List.getElem?_eq_getElem hk)
  rw [← e] at ho
  exact h.node W List.length_set ho (by rw [e]; exact gr_set (World.grownBy.refl wr _)) (comp_set h.apc (fun s => (by cases s <;> rfl : (ms[k].measd b).comp s = ms[k].comp s) ▸ h.apc _ (List.getElem_mem hk) s))
theorem TA.sty {g vc k : Nat} {f : Nat → Int} (hf : InR f) (h : TA w cb a len cap gt ms (.slice (some ⟨g, 0, none⟩) ms.length vc) wr) (W : TDw w cb a len) (hk : k < ms.length) (e : w' = wr.setCells g (k * 64 + 2) (sCells f).toList) :
    TA w cb a len cap gt (ms.set k (ms[k].styled f)) (.slice (some ⟨g, 0, none⟩) (ms.set k (ms[k].styled f)).length vc) w' := by
  have ho := h.own.restyle (List.getElem?_eq_getElem hk) hf
  rw [← e] at ho
  exact h.node W List.length_set ho (by rw [e]; exact gr_cells _ _ _ (World.grownBy.refl wr _)) (comp_set h.apc (fun s => (by cases s <;> rfl : (ms[k].styled f).comp s = ms[k].comp s) ▸ h.apc _ (List.getElem_mem hk) s))
theorem TA.tab {g vc k n1 rl : Nat} {tv : Value} {rs : List Int} (h : TA w cb a len cap gt ms (.slice (some ⟨g, 0, none⟩) ms.length vc) wr) (W : TDw w cb a len) (hk : k < ms.length) (ht : TRow n1 tv rl rs wr) (hr : AllI rs) (hl : rs.length = rl * 3) (hg : g < n1) (hgt : gt < n1) (hlo : w.heap.size + 1 ≤ n1) (hc : ∀ mj ∈ ms, ∀ t b, mj.comp t = some b → b < n1) (e : w' = wr.setCell ⟨g, k * 64 + 63, none⟩ tv) :
    TA w cb a len cap gt (ms.set k (ms[k].tabd rl rs tv)) (.slice (some ⟨g, 0, none⟩) (ms.set k (ms[k].tabd rl rs tv)).length vc) w' := by
  have ho := h.own.retab (List.getElem?_eq_getElem hk) ht hr hl hlo hg hc
  rw [← e] at ho
  refine h.node W List.length_set ho (by rw [e]; exact gr_set (World.grownBy.refl wr _)) (comp_set h.apc (fun s => ?_))
  cases s with
  | true => exact h.apc _ (List.getElem_mem hk) true
  | false => exact fun hb => by have := (ht.lt hb).1; omega
end
end Go.Proofs.Ytckpjldenkjddaa
end

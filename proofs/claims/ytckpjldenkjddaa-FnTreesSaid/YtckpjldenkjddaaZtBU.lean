import Derived.Deep.RegionHeld
import Derived.Deep.RegionWith
import Derived.Maps.AppendAt
import Derived.OwnWalk
import Derived.Deep.QuietTactic
import Derived.BigQuiet
import Derived.Test.YtckpjldenkjddaaZtAA
import Derived.Test.YtckpjldenkjddaaZtAD
import Derived.Test.YtckpjldenkjddaaZtAF
import Derived.Test.YtckpjldenkjddaaZtAH
import Derived.Test.YtckpjldenkjddaaZtAJ
import Derived.Test.YtckpjldenkjddaaZtAN
import Derived.Test.YtckpjldenkjddaaZtBA
import Derived.Test.YtckpjldenkjddaaZtBJ
import Derived.Test.YtckpjldenkjddaaZtBL
import Derived.Test.YtckpjldenkjddaaZtBP
import Derived.Test.YtckpjldenkjddaaZtBT
section
namespace Go.Proofs.Ytckpjldenkjddaa
open Go.ChangeShapes Go.WideShapes Go.ChangeAt Go.RowKit
set_option linter.unusedVariables false
set_option linter.unusedSimpArgs false
set_option maxRecDepth 8000

set_option maxHeartbeats 1000000 in
theorem l10at_any (va : Option Addr) (vc n cb : Nat) (a : Option Addr) (len cap : Nat) (w : World) (hn : 1 ≤ n) (hn2 : n ≤ 1000) (hcb : cb < w.heap.size) (hlt : 0 < len → ∀ b off, a = some ⟨b, off, none⟩ → b < w.heap.size) (hc : Cur cb a len cap w) :
    Calls Try.prog 57 #[.pointer (some ⟨cb, 0, none⟩), .agg #[.slice va n vc]] w (DrewPost (-1) 1000 cb a len cap w) := by
  have g0 := gr_new w (.cells #[.slice va n vc] 26) cb
  have c0 := hc.kept hcb (World.grownBy_alloc w (.cells #[.slice va n vc] 26) none) (fun k hk => by cases hk)
  have h0 := hp_new w (.cells #[.slice va n vc] 26)
  obtain ⟨u, eu⟩ : ∃ u, u = w.alloc (.cells #[.slice va n vc] 26) := ⟨_, rfl⟩
  rw [← eu] at g0 c0 h0
  have EU := Lib.hid eu
  have zt : u.cell? ⟨w.heap.size, 0, none⟩ = some (.slice va n vc) := (Go.Joins.cell_of_block h0 0).trans rfl
  have hcu : cb < u.heap.size := Nat.lt_of_lt_of_le hcb g0.size
  clear eu h0
  go_enter Try.func57, Try.ntmps57
  go_wp2_with (first | (rw [← EU.out]) | fail)
  refine (below_pos (n : Int) cb a len cap u (by omega) (by omega) c0).mono ?_
  rintro e w1 ⟨x, rfl, x0, x1, c1, g1, s1⟩
  clear s1
  have hx : IntKind.i64.wrap (x + 1) = x + 1 := IntWalk.i64_in _ (by omega)
  have hcb1 : cb < w1.heap.size := Nat.lt_of_lt_of_le hcu g1.size
  have G1 := Lib.hid (gr_trans g0 g1)
  clear zt EU g0 g1 c0
  (try dsimp only)
  go_wp2_with (fail)
  refine (pick_r (-1) 1000 (by decide) (by decide) [1, 1, 2, 3, x + 1, 0, -1, 13] 8 rfl (by omega) (by omega) (by intro z hz; simp at hz; omega) cb a len cap w1 hcb1 c1).mono ?_
  rintro e w2 ⟨y, rfl, y0, y1, c2, g2⟩
  (try dsimp only)
  go_wp2
  go_ret
  exact ⟨y, rfl, y0, y1, c2, gr_trans G1.out g2⟩
end Go.Proofs.Ytckpjldenkjddaa
end
section
namespace Go.Proofs.Ytckpjldenkjddaa
open Go.ChangeShapes Go.WideShapes Go.ChangeAt Go.RowKit
set_option linter.unusedVariables false
set_option linter.unusedSimpArgs false
set_option maxRecDepth 8000

theorem tr_under : Try.prog.underlying 26 = some (.struct (Try.prog.fieldsOf 26)) := by kernel_rfl
theorem tr_size (v : Value) : (Try.prog.info? 26).map (·.size) = some (#[v] : Array Value).size := by kernel_rfl
theorem below_curT {b cb : Nat} {w wv w' : World} (h : Below b w wv) (hb : b ≤ wv.heap.size) (hg : wv.grownBy w' (some cb)) (hcb : b ≤ cb) : Below b w w' := h.grown hg hb (fun k hk => by simp at hk; omega)

end Go.Proofs.Ytckpjldenkjddaa
end
section
namespace Go.Proofs.Ytckpjldenkjddaa
open Go.ChangeShapes Go.WideShapes Go.ChangeAt Go.RowKit
set_option linter.unusedVariables false
set_option linter.unusedSimpArgs false
set_option maxRecDepth 8000

/-- What lies behind the pointer to the node z. -/
theorem Linked.look {w : World} {G b off : Nat} {ns : List PN} {a : Option Addr} (hL : Linked w G b off (linksOf ns)) (hz : Nds w a ns) (ha : a = some ⟨b, off, none⟩) {z : Int} {s : Nat} (h : PtrTo w G ns.length z (.pointer (some ⟨s, 0, none⟩))) (hin : nIn ns.length z = true) :
    ∃ (k : Nat) (upv : Value) (va : Option Addr) (vc : Nat), z = (k : Int) + 1 ∧ k < ns.length ∧ s = G + 1 + k ∧ w.cell? ⟨s, 0, none⟩ = some (.int .i64 z) ∧ w.cell? ⟨s, 1, none⟩ = some (.pointer (some ⟨b, off + k * 64, none⟩)) ∧ w.cell? ⟨s, 2, none⟩ = some upv ∧ UpP w G ns.length (upZ ns z) upv ∧
      w.cell? ⟨s, 3, none⟩ = some (.slice va (kidsZ ns z).length vc) ∧ KidsAt w G ns.length va (kidsZ ns z) ∧ NodeAt w b (off + k * 64) (ndAt ns z) := by
  obtain ⟨l, q, upv, kv, hzq, hq, hlq, hh, hup, _⟩ := hL.at (z := z) (by rw [linksOf_len]; exact hin)
  rw [linksOf_len] at hq hup
  obtain ⟨va, vc, c3, hka⟩ := hL.kids h
  obtain ⟨s', e, h'⟩ := h
  simp at e
  subst e
  have hs : s = G + 1 + q := by
    rcases h' with ⟨h1, h2⟩ | ⟨h1, _⟩
    · omega
    · rw [hin] at h1; cases h1
  subst hs
  have hupz : upZ ns z = l.1 := by rw [hzq]; exact linksOf_up hlq
  obtain ⟨b', off', eab, _, hnd⟩ := hz.look hq
  rw [ha] at eab
  simp at eab
  obtain ⟨rfl, rfl⟩ := eab
  refine ⟨q, upv, va, vc, hzq, hq, rfl, ?_, (Go.Joins.cell_of_block hh 1).trans rfl, (Go.Joins.cell_of_block hh 2).trans rfl, by rw [hupz]; exact hup, c3, hka, ?_⟩
  · rw [hzq]; exact (Go.Joins.cell_of_block hh 0).trans rfl
  · rw [hzq, ndAt_nat hq]; exact hnd
end Go.Proofs.Ytckpjldenkjddaa
end
section
namespace Go.Proofs.Ytckpjldenkjddaa
open Go.ChangeShapes Go.WideShapes Go.ChangeAt Go.RowKit

section
variable {P : Program}

/-- In the place of an operation: nothing, as late as it. -/
def nopOf (o : Oper) : Oper := ⟨none, .move (.const undef), o.type, o.pos, o.after, none⟩
/-- The operations, with nothing in the place of number k and of all from n on. -/
def blank (n k : Nat) : Nat → List Oper → List Oper
  | _, [] => []
  | i, o :: l => (if i = k ∨ n ≤ i then nopOf o else o) :: blank n k (i + 1) l
/-- The worlds that lie behind w: more drawn, more blocks. -/
def behind (w w' : World) : Prop := ∃ p : Regrown, w' = Sort.grow (redrawn w p.d) p.os
/-- The Bools over the region. -/
def newB (n k : Nat) (l : List Oper) : Bool :=
  Region.noSelect l.toArray && Region.noSelect (blank n k 0 l).toArray && Region.lexFrom .any (blank n k 0 l).toArray l.length 0 (Array.replicate l.length false) &&
  decide (k < n) && decide (n < l.length) && Region.sinkB .any l.toArray n && Region.chainB .any l.toArray n &&
  Region.seqB .any l.toArray (l.length - n) n (Array.replicate n true ++ Array.replicate (l.length - n) false) &&
  ((List.range n).all fun j => j == k || match l[k]?, l[j]? with | some x, some y => x.apart l.toArray y | _, _ => false) &&
  ((List.range l.length).all fun j => match l[j]? with | some o => o.after.all fun e => decide (e.on < j) | none => true) &&
  ((List.range n).all fun j => match l[j]? with | some o => (match o.guard with | none => true | some (g, _) => g != k && decide (g < n)) | none => true) &&
  ((List.range n).all fun i => (List.range n).all fun j => i == j || match l[i]?, l[j]? with | some x, some y => (match x.dst with | none => true | some t => y.dst != some t) | _, _ => true)

end
end Go.Proofs.Ytckpjldenkjddaa
end
section
namespace Go.Proofs.Ytckpjldenkjddaa
open Go.ChangeShapes Go.WideShapes Go.ChangeAt Go.RowKit
set_option linter.unusedVariables false
set_option linter.unusedSimpArgs false
set_option maxRecDepth 8000

def HpAt (g : Nat) (o : Obj) (w' : World) : Prop := w'.heap[g]? = some o
theorem load_tr {w : World} {g : Nat} {v : Value} (h : w.cell? ⟨g, 0, none⟩ = some v) : (loadVar 26 ⟨g, 0, none⟩).run Try.prog w = .ok (.agg #[v]) w :=
  run_loadVar_mid (P := Try.prog) w g 0 26 [v] (.struct (Try.prog.fieldsOf 26)) (fun j u hv => by
    match j, hv with
    | 0, hv => simp at hv; subst hv; exact h) (by kernel_rfl) rfl (by kernel_rfl)
end Go.Proofs.Ytckpjldenkjddaa
end

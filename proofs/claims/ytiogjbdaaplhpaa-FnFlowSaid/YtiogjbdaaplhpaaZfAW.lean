import Derived.Laws.Tables
import Derived.Deep.RegionHeld
import Derived.Test.YtiogjbdaaplhpaaZfAA
import Derived.Test.YtiogjbdaaplhpaaZfAE
import Derived.Test.YtiogjbdaaplhpaaZfAO
import Derived.Test.YtiogjbdaaplhpaaZfAP
import Derived.Test.YtiogjbdaaplhpaaZfAU
import Derived.Test.YtiogjbdaaplhpaaZfAV
section
namespace Go.Proofs.Ytiogjbdaaplhpaa
open Go.ChangeShapes Go.WideShapes Go.ChangeAt Go.RowKit
set_option linter.unusedVariables false
set_option linter.unusedSimpArgs false
set_option maxRecDepth 8000

/-- The same, and a node without children has a slice without room. -/
def ChPostK (ns : List PN) (c : Int) (w : World) (e : Ending) (w' : World) : Prop :=
  ∃ (v : Value) (ms : List ND), ms.map ND.n = ns ∧ e = .returned (.tuple #[.agg #[v], .int .i64 c]) ∧ OwnN w.heap.size v ms w' ∧ Below w.heap.size w w' ∧ KCs ms
/-- What stands in memory while SetStyle works: its boxes, the copy's variable, the copy. -/
structure SF (w u : World) (s3 : Value) (f : Nat → Int) (X : Nat) (x : Value) (ms : List ND) (w' : World) : Prop where
  bu : Below u.heap.size u w'
  bw : Below w.heap.size w w'
  hu : u.heap.size = w.heap.size + 3
  hX : u.heap.size ≤ X
  hg : ∀ b, x.ownBlock = some b → b < X
  h3 : w'.heap[w.heap.size]? = some (.cells #[s3] 26)
  h5 : w'.heap[w.heap.size + 1]? = some (.cells (sCells f) 41)
  h6 : w'.heap[w.heap.size + 1 + 1]? = some (.cells #[.slice none 0 0] 26)
  h8 : w'.heap[X]? = some (.cells #[x] 26)
  ho : OwnN u.heap.size x ms w'
theorem SF.c3 {w u : World} {s3 x : Value} {f : Nat → Int} {X : Nat} {ms : List ND} {w' : World} (h : SF w u s3 f X x ms w') : w'.cell? ⟨w.heap.size, 0, none⟩ = some s3 := (Go.Joins.cell_of_block h.h3 0).trans rfl
theorem SF.c8 {w u : World} {s3 x : Value} {f : Nat → Int} {X : Nat} {ms : List ND} {w' : World} (h : SF w u s3 f X x ms w') : w'.cell? ⟨X, 0, none⟩ = some x := (Go.Joins.cell_of_block h.h8 0).trans rfl
theorem SF.c6 {w u : World} {s3 x : Value} {f : Nat → Int} {X : Nat} {ms : List ND} {w' : World} (h : SF w u s3 f X x ms w') : w'.cell? ⟨w.heap.size + 1 + 1, 0, none⟩ = some (.slice none 0 0) := (Go.Joins.cell_of_block h.h6 0).trans rfl
theorem SF.kept {w u : World} {s3 x : Value} {f : Nat → Int} {X : Nat} {ms : List ND} {w' w'' : World} (h : SF w u s3 f X x ms w') (b : Below w'.heap.size w' w'') : SF w u s3 f X x ms w'' :=
  ⟨h.bu.trans (b.mono h.bu.size), h.bw.trans (b.mono h.bw.size), h.hu, h.hX, h.hg, hp_below h.h3 b, hp_below h.h5 b, hp_below h.h6 b, hp_below h.h8 b, h.ho.below b⟩
theorem SF.ptr {w u : World} {s3 : Value} {f : Nat → Int} {X : Nat} {ms : List ND} {w' : World} {av : Option Addr} {cv : Nat} (h : SF w u s3 f X (.slice av ms.length cv) ms w') (hm : 0 < ms.length) : ∃ g, av = some ⟨g, 0, none⟩ := by
  rcases h.ho.1.2 with ⟨h1, h2⟩ | ⟨g, cap, cur, h1, _⟩
  · omega
  · simp at h1; exact ⟨g, h1.1⟩
theorem SF.styled {w u : World} {s3 : Value} {f : Nat → Int} {X : Nat} {ms : List ND} {w' w4 : World} {g cv k : Nat} (h : SF w u s3 f X (.slice (some ⟨g, 0, none⟩) ms.length cv) ms w') (hm : k < ms.length) (hf : InR f) (e : w4 = w'.setCells g (k * 64 + 2) (sCells f).toList) :
    SF w u s3 f X (.slice (some ⟨g, 0, none⟩) ms.length cv) (ms.set k (ms[k].styled f)) w4 := by
  have hg : u.heap.size ≤ g := by
    rcases h.ho.1.2 with ⟨h1, h2⟩ | ⟨g', cap, cur, h1, hg, _⟩
    · omega
    · simp at h1; omega
  have hu := h.hu
  have hX : g ≠ X := fun e => by have := h.hg g rfl; omega
  have G := gr_sets g (sCells f).toList (k * 64 + 2) w'
  rw [← e] at G
  have ho := h.ho.restyle (List.getElem?_eq_getElem hm) hf
  rw [← e] at ho
  refine ⟨?_, ?_, hu, h.hX, h.hg, ?_, ?_, ?_, ?_, ho⟩
  · exact ⟨G.os.trans h.bu.os, G.tape.trans h.bu.tape, G.output.trans h.bu.output, Nat.le_trans h.bu.size G.size, fun q hq => (G.block q (Nat.lt_of_lt_of_le hq h.bu.size) (fun e => by simp at e; omega)).trans (h.bu.block q hq)⟩
  · exact ⟨G.os.trans h.bw.os, G.tape.trans h.bw.tape, G.output.trans h.bw.output, Nat.le_trans h.bw.size G.size, fun q hq => (G.block q (Nat.lt_of_lt_of_le hq h.bw.size) (fun e => by simp at e; omega)).trans (h.bw.block q hq)⟩
  · exact (G.block _ (hp_lt h.h3) (fun e => by simp at e; omega)).trans h.h3
  · exact (G.block _ (hp_lt h.h5) (fun e => by simp at e; omega)).trans h.h5
  · exact (G.block _ (hp_lt h.h6) (fun e => by simp at e; omega)).trans h.h6
  · exact (G.block _ (hp_lt h.h8) (fun e => hX (by simpa using e.symm))).trans h.h8
/-- The answer stands in its variable. -/
theorem SF.done {w u : World} {s3 x : Value} {f : Nat → Int} {X : Nat} {ms : List ND} {w' : World} (h : SF w u s3 f X x ms w') :
    (w'.setCell ⟨w.heap.size + 1 + 1, 0, none⟩ x).cell? ⟨w.heap.size + 1 + 1, 0, none⟩ = some x ∧ OwnN w.heap.size x ms (w'.setCell ⟨w.heap.size + 1 + 1, 0, none⟩ x) ∧ Below w.heap.size w (w'.setCell ⟨w.heap.size + 1 + 1, 0, none⟩ x) := by
  have hu := h.hu
  have g3 := Go.Joins.block_setCell (i := 0) h.h6 x
  refine ⟨(Go.Joins.cell_of_block g3 0).trans rfl, (h.ho.kept (from_set (g := w.heap.size + 1 + 1) (by omega) 0 x)).lower (by omega), bl_set h.bw (g := w.heap.size + 1 + 1) 0 (by omega) x⟩
end Go.Proofs.Ytiogjbdaaplhpaa
end
section
namespace Go.Proofs.Ytiogjbdaaplhpaa
open Go.ChangeShapes Go.WideShapes Go.ChangeAt Go.RowKit
set_option maxRecDepth 8000

theorem built_nd (f : Nat → Int) : Try.prog.built 61 [(2, .agg (sCells f))] = some (nA 0 (.slice none 0 0) f false (.slice none 0 0)) := by kernel_rfl
theorem list_build_nd {ops : Array Oper} {rest : List Oper} {o : Oper} {a : Act} {w : World} {Q : Exit → Act → World → Prop} {f : Nat → Int} (hg : o.guard = none) (x : Operand) (ho : o.op = .build 61 #[(2, x)]) (hx : a.eval x = .agg (sCells f))
    (h : wpList Try.prog ops Q rest (a.put o.dst (.agg (nA 0 (.slice none 0 0) f false (.slice none 0 0)))) w) : wpList Try.prog ops Q (o :: rest) a w := by
  have e : Try.prog.built 61 ((#[(2, x)] : Array (Nat × Operand)).map fun (i, y) => (i, a.eval y)).toList = some (nA 0 (.slice none 0 0) f false (.slice none 0 0)) := by
    simp only [List.map_toArray, List.map_cons, List.map_nil, hx]
    exact built_nd f
  exact wpList_build hg _ _ ho (by rw [e]; rfl) (by rw [e]; exact h)
end Go.Proofs.Ytiogjbdaaplhpaa
end
section
namespace Go.Proofs.Ytiogjbdaaplhpaa
open Go.ChangeShapes Go.WideShapes Go.ChangeAt Go.RowKit
set_option linter.unusedVariables false
set_option linter.unusedSimpArgs false
set_option maxRecDepth 8000

def tailA (kap : Option Addr) (kcp m : Nat) : Option Addr := if kcp = m then kap else kap.map fun x => x.add m
theorem ins_src1 {w : World} {kap : Option Addr} {ks : List Int} {m : Nat} (h : Ints w kap ks.length ks) (hm : m ≤ ks.length) : (kap = none ∧ m = 0) ∨ ∃ ad, kap = some ad ∧ ∀ j u, ((ks.take m).map (Value.int .i64))[j]? = some u → w.cell? (ad.add j) = some u := by
  rcases ints_news h with ⟨h1, h2⟩ | ⟨ad, h1, h2⟩
  · exact Or.inl ⟨h1, by omega⟩
  · refine Or.inr ⟨ad, h1, fun j u hu => h2 j u ?_⟩
    rw [List.getElem?_map] at hu ⊢
    rw [List.getElem?_take] at hu
    split at hu
    · exact hu
    · cases hu
theorem ins_src2 {w : World} {kap : Option Addr} {ks : List Int} {m kcp : Nat} (h : Ints w kap ks.length ks) (hm : m ≤ ks.length) (hc : ks.length ≤ kcp) : (tailA kap kcp m = none ∧ ks.length - m = 0) ∨ ∃ ad, tailA kap kcp m = some ad ∧ ∀ j u, ((ks.drop m).map (Value.int .i64))[j]? = some u → w.cell? (ad.add j) = some u := by
  unfold tailA
  rcases ints_news h with ⟨h1, h2⟩ | ⟨ad, h1, h2⟩
  · subst h1
    exact Or.inl ⟨by split <;> rfl, by omega⟩
  · subst h1
    by_cases e : kcp = m
    · rw [if_pos e]
      refine Or.inr ⟨ad, rfl, fun j u hu => ?_⟩
      rw [List.drop_of_length_le (by omega)] at hu
      simp at hu
    · rw [if_neg e]
      refine Or.inr ⟨ad.add m, rfl, fun j u hu => ?_⟩
      rw [List.getElem?_map, List.getElem?_drop] at hu
      have := h2 (m + j) u (by rw [List.getElem?_map]; exact hu)
      have e : (ad.add m).add j = ad.add (m + j) := by
        cases ad
        unfold Addr.add
        by_cases h1 : m = 0 <;> by_cases h2 : j = 0 <;> simp [h1, h2, Nat.add_assoc]
      rw [e]; exact this
theorem run_sl_h (kap : Option Addr) (len kcp m : Nat) (w : World) (h : m ≤ kcp) : (Instr.sliceAt 59 (.slice kap len kcp) none (some (.int .i64 (m : Int))) none).run Try.prog w = .ok (.slice kap m kcp) w := by
  have h0 : (0 : Int) ≤ (m : Int) := Int.natCast_nonneg _
  have h1 : (m : Int) ≤ (kcp : Int) := by omega
  have ha : (if kcp = 0 then kap else kap.map fun x => x.add 0) = kap := by
    split
    · rfl
    · cases kap with
      | none => rfl
      | some x => cases x; simp [Addr.add]
  go_simp
  try simp [ha]
theorem run_sl_l (kap : Option Addr) (len kcp m : Nat) (w : World) (h : m ≤ len) : (Instr.sliceAt 59 (.slice kap len kcp) (some (.int .i64 (m : Int))) none none).run Try.prog w = .ok (.slice (tailA kap kcp m) (len - m) (kcp - m)) w := by
  have h0 : (0 : Int) ≤ (m : Int) := Int.natCast_nonneg _
  have h1 : (m : Int) ≤ (len : Int) := by omega
  go_simp
  try simp [tailA]
end Go.Proofs.Ytiogjbdaaplhpaa
end
section
namespace Go.Proofs.Ytiogjbdaaplhpaa
open Go.ChangeShapes Go.WideShapes Go.ChangeAt Go.RowKit
set_option linter.unusedVariables false
set_option linter.unusedSimpArgs false
set_option maxRecDepth 8000

theorem MkFr.after {lo hi : Nat} {w u u' : World} (b : Below w.heap.size w u) (h : MkFr lo hi u u') : MkFr lo hi w u' :=
  ⟨h.os.trans b.os, h.tape.trans b.tape, h.output.trans b.output, Nat.le_trans b.size h.size, fun k hk h1 => (h.block k (Nat.lt_of_lt_of_le hk b.size) h1).trans (b.block k hk)⟩
theorem own_lt {lo : Nat} {v : Value} {ms : List ND} {w : World} (ho : OwnN lo v ms w) : (∀ b, v.ownBlock = some b → b < w.heap.size) ∧ ∀ m ∈ ms, ∀ s b, m.comp s = some b → b < w.heap.size :=
  ⟨fun b hb => (ho.1.lt b hb).2, fun m hm s b hb => ((ho.2.1 m hm).1.lt s b hb).2⟩
/-- The marks of one tree leave what stands below and behind its memory. -/
theorem MkFr.below {lo hi : Nat} {w w' : World} (h : MkFr lo hi w w') {n : Nat} (h1 : n ≤ lo) (h2 : n ≤ w.heap.size) : Below n w w' :=
  ⟨h.os, h.tape, h.output, h.size, fun k hk => h.block k (by omega) (Or.inl (by omega))⟩
theorem MkFr.from {lo hi lo' : Nat} {w w' : World} (h : MkFr lo hi w w') (h1 : hi ≤ lo') : From lo' w w' := ⟨h.size, fun k h2 h3 => h.block k h3 (Or.inr (by omega))⟩
theorem MkFr.heap {lo hi g : Nat} {w w' : World} {o : Obj} (h : MkFr lo hi w w') (hg : w.heap[g]? = some o) (h1 : g < lo ∨ hi ≤ g) : w'.heap[g]? = some o := (h.block g (hp_lt hg) h1).trans hg
end Go.Proofs.Ytiogjbdaaplhpaa
end
section
namespace Go.Proofs.Ytiogjbdaaplhpaa
open Go.ChangeShapes Go.WideShapes Go.ChangeAt Go.RowKit
set_option linter.unusedVariables false
set_option linter.unusedSimpArgs false

theorem im_tree : Try.prog.underlying 26 = some (.struct (Try.prog.fieldsOf 26)) := by kernel_rfl
theorem im_tree1 (v : Value) : (Try.prog.info? 26).map (·.size) = some (#[v] : Array Value).size := by kernel_rfl
theorem OwnN.ndsR {lo : Nat} {av : Option Addr} {cv : Nat} {ms : List ND} {R : List PN} {w : World} (h : OwnN lo (.slice av R.length cv) ms w) (hm : ms.map ND.n = R) : Nds w av R := by
  obtain ⟨a, c, e, hn⟩ := h.nds
  injection e with e1 e2 e3
  rw [e1, ← hm]
  exact hn
theorem c_of {w : World} {g : Nat} {v : Value} {t : TypeId} (h : w.heap[g]? = some (.cells #[v] t)) : w.cell? ⟨g, 0, none⟩ = some v := (Go.Joins.cell_of_block h 0).trans rfl
end Go.Proofs.Ytiogjbdaaplhpaa
end

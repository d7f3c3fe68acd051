import Derived.Laws.StructEq
import Derived.ChangeKeysEq
import Derived.Deep.CutBlock
import Derived.Deep.CutRange
import Derived.Test.YtiogjbdaaplhpaaZfAB
import Derived.Test.YtiogjbdaaplhpaaZfAC
import Derived.Test.YtiogjbdaaplhpaaZfAQ
import Derived.Test.YtiogjbdaaplhpaaZfAX
import Derived.Test.YtiogjbdaaplhpaaZfAZ
section
namespace Go.Proofs.Ytiogjbdaaplhpaa
open Go.ChangeShapes Go.WideShapes Go.ChangeAt Go.RowKit
set_option linter.unusedSimpArgs false

/-- The new style. -/
def newF (i : Nat) : Int := if i = 0 ∨ i = 5 then 2 else if i = 1 ∨ i = 2 ∨ i = 3 then 1 else 0
theorem snew (w : World) :
    Calls Try.prog 82 #[] w fun e w' => e = .returned (.agg (sCells newF)) ∧ Below w.heap.size w w' := by
  go_enter Try.func82, Try.ntmps82
  have hz := Lib.hid (hp_new w (.cells (sCells fun _ => 0) 41))
  have h9 := Lib.hid (setRow_heap _ _ _ (sCells newF) _ _ (hp_new w (.cells (sCells fun _ => 0) 41)))
  have b9 := Lib.hid (below_setRow (Go.Joins.below_alloc1 w (.cells (sCells fun _ => 0) 41)) (g := w.heap.size) (Nat.le_refl _) (sCells newF))
  go_wp2_with (first
    | ((with_reducible apply list_alloc_sty); exact rfl; exact rfl; simp only [World.size_alloc, Act.put, List.setIfInBounds_toArray, List.set_cons_succ, List.set_cons_zero])
    | ((with_reducible apply list_build_sty (f := newF)); exact rfl; exact rfl; (kernel_rfl); simp only [Act.put, List.setIfInBounds_toArray, List.set_cons_succ, List.set_cons_zero])
    | ((with_reducible apply list_store_sty); exact rfl; exact rfl; exact rfl; exact rfl; (with_reducible exact hz.out); simp only [Act.put, List.setIfInBounds_toArray, List.set_cons_succ, List.set_cons_zero]))
  exact bodyPost_ret (results_sty rfl rfl h9.out) rfl ⟨rfl, b9.out⟩
end Go.Proofs.Ytiogjbdaaplhpaa
end
section
namespace Go.Proofs.Ytiogjbdaaplhpaa
open Go.ChangeShapes Go.WideShapes Go.ChangeAt Go.RowKit

section
variable {P : Program} {dd : Nat} {xs ys : Array Value}
end
/-- Ints, and nothing else, in the first n places. -/
def IntRow (n : Nat) (xs : Array Value) : Prop := ∀ i, i < n → ∃ z, xs[i]? = some (.int .i64 z)
theorem IntRow.part {n : Nat} {xs : Array Value} (h : IntRow n xs) (o m : Nat) (hm : o + m ≤ n) : IntRow m (xs.extract o (o + m)) := fun i hi => by
  obtain ⟨z, hz⟩ := h (o + i) (by omega)
  refine ⟨z, ?_⟩
  have hlt := (Array.getElem?_eq_some_iff.1 hz).1
  rw [Array.getElem?_extract, if_pos (by omega), hz]
theorem val_size2 : (Try.prog.info? 35).map (·.size) = some 2 := by kernel_rfl
theorem sid_size12 : (Try.prog.info? 37).map (·.size) = some 12 := by kernel_rfl
theorem edg_size4 : (Try.prog.info? 39).map (·.size) = some 4 := by kernel_rfl
end Go.Proofs.Ytiogjbdaaplhpaa
end
section
namespace Go.Proofs.Ytiogjbdaaplhpaa
open Go.ChangeShapes Go.WideShapes Go.ChangeAt Go.RowKit
set_option linter.unusedSimpArgs false
set_option linter.unusedVariables false

/-- What stands while a style is drawn: the style so far in block gs, the result's block gr, the cursor. -/
structure YS (w : World) (cb : Nat) (a : Option Addr) (len cap gr gs : Nat) (f : Nat → Int) (wr : World) : Prop where
  here : wr.heap[gs]? = some (.cells (sCells f) 41)
  res : wr.heap[gr]? = some (.cells (sCells fun _ => 0) 41)
  cur : Cur cb a len cap wr
  gro : w.grownBy wr (some cb)
theorem gr_below {w w' : World} (h : Below w.heap.size w w') (row : Option Nat) : w.grownBy w' row := ⟨h.os, h.tape, h.output, h.size, fun k hk _ => h.block k hk⟩
theorem gr_row {w w1 : World} {cb g : Nat} (h : w.grownBy w1 (some cb)) (hg : w.heap.size ≤ g) (cs : Array Value) : w.grownBy (w1.setRow g cs) (some cb) :=
  ⟨h.os, h.tape, h.output, by rw [setRow_size]; exact h.size, fun i hi hne => (setRow_other w1 g i cs (by omega)).trans (h.block i hi hne)⟩
section
variable {w wr w' : World} {cb : Nat} {a : Option Addr} {len cap gr gs : Nat} {f : Nat → Int}
theorem YS.kept (h : YS w cb a len cap gr gs f wr) (W : SDw w cb a len gr gs) (g : wr.grownBy w' (some cb)) (c : Cur cb a len cap w') : YS w cb a len cap gr gs f w' :=
  ⟨blk_kept h.here g (by have := W.ltc; have := W.ges; omega), blk_kept h.res g (by have := W.ltc; have := W.ger; omega), c, gr_trans h.gro g⟩
theorem YS.lt (h : YS w cb a len cap gr gs f wr) (W : SDw w cb a len gr gs) : cb < wr.heap.size := Nat.lt_of_lt_of_le W.ltc h.gro.size
theorem YS.code (h : YS w cb a len cap gr gs f wr) (W : SDw w cb a len gr gs) : 0 < len → ∀ b off, a = some ⟨b, off, none⟩ → b < wr.heap.size := fun h0 b off e => Nat.lt_of_lt_of_le (W.code h0 b off e) h.gro.size
theorem YS.store (h : YS w cb a len cap gr gs f wr) (W : SDw w cb a len gr gs) (k : Nat) (z : Int) (v : Value) (hk : k < 60) (hv : sCell k z = v) : YS w cb a len cap gr gs (upd f k z) (wr.setCell ⟨gs, k, none⟩ v) :=
  ⟨sty_put h.here k z v hk hv, hp_set h.res W.ne k v, h.cur.stored (h.lt W) (by have := W.ltc; have := W.ges; omega) (fun h0 b off e => by have := W.code h0 b off e; have := W.ges; omega) _, gr_store h.gro W.ges⟩
theorem YS.fin (h : YS w cb a len cap gr gs f wr) (W : SDw w cb a len gr gs) : Cur cb a len cap (wr.setRow gr (sCells f)) ∧ w.grownBy (wr.setRow gr (sCells f)) (some cb) :=
  ⟨h.cur.kept (row := some gr) (h.lt W) ⟨rfl, rfl, rfl, by rw [setRow_size]; exact Nat.le_refl _, fun i _ hne => setRow_other wr gr i _ (fun e => hne (by rw [e]))⟩ (fun k hk => by
    simp at hk
    subst hk
    exact ⟨by have := W.ltc; have := W.ger; omega, fun h0 b off e => by have := W.code h0 b off e; have := W.ger; omega⟩), gr_row h.gro W.ger _⟩
end
theorem YS.stores {w : World} {cb : Nat} {a : Option Addr} {len cap gr gs : Nat} (W : SDw w cb a len gr gs) : ∀ (zs : List Int) (o : Nat) (f : Nat → Int) (wr : World), YS w cb a len cap gr gs f wr → 8 ≤ o → o + zs.length ≤ 60 → YS w cb a len cap gr gs (updL f o zs) (wr.setCells gs o (zs.map (Value.int .i64)))
  | [], _, _, _, h, _, _ => h
  | z :: zs, o, f, wr, h, h8, hl => by
    simp only [List.length_cons] at hl
    exact YS.stores W zs (o + 1) (upd f o z) _ (h.store W o z _ (by omega) (sCell_int z (by omega))) (by omega) (by omega)
/-- A row of ints is stored into the style that is being drawn. -/
theorem list_put_ys {ops : Array Oper} {rest : List Oper} {op : Oper} {act : Act} {Q : Exit → Act → World → Prop} {w wr : World} {cb : Nat} {a : Option Addr} {len cap gr gs : Nat} {f : Nat → Int} (zs : List Int) (o : Nat) {ty : TypeId} (hgd : op.guard = none) {x y : Operand} (ho : op.op = .store ty x y) (hx : act.eval x = .pointer (some ⟨gs, o, none⟩)) (hy : act.eval y = .agg (zs.map (Value.int .i64)).toArray)
    (hi : (Try.prog.info? ty).map (·.size) = some zs.length) (hl : 8 ≤ o ∧ o + zs.length ≤ 60) (W : SDw w cb a len gr gs) (hs : YS w cb a len cap gr gs f wr)
    (h : ∀ u, YS w cb a len cap gr gs (updL f o zs) u → wpList Try.prog ops Q rest (act.put op.dst undef) u) : wpList Try.prog ops Q (op :: rest) act wr :=
  list_store_ints zs o hgd ho hx hy hi hl.2 hs.here (h _ (YS.stores W zs o f wr hs hl.1 hl.2))
theorem bz_of (t : Bool) (k : Nat) (hk : k = 6 ∨ k = 7) : sCell k (if t then 1 else 0) = .bool t := by
  unfold sCell
  rw [if_pos hk]
  cases t <;> rfl

end Go.Proofs.Ytiogjbdaaplhpaa
end
section
namespace Go.Proofs.Ytiogjbdaaplhpaa
open Go.ChangeShapes Go.WideShapes Go.ChangeAt Go.RowKit
set_option linter.unusedVariables false
set_option linter.unusedSimpArgs false
set_option maxRecDepth 8000

/-- z and all below it, looked at f levels down. -/
def auF (ns : List PN) : Nat → Int → List Int
  | 0, z => [z]
  | f + 1, z => z :: (kidsZ ns z).flatMap (auF ns f)
def auV (ns : List PN) (z : Int) : List Int := if (nIn ns.length z && treeB ns) = true then auF ns 4 z else []
theorem flat_len {g : Int → List Int} {L : Nat} (hg : ∀ k, (g k).length ≤ L) : ∀ ks : List Int, (ks.flatMap g).length ≤ ks.length * L
  | [] => by simp
  | k :: ks => by
    have h1 := flat_len hg ks
    have h2 := hg k
    rw [List.flatMap_cons, List.length_append, List.length_cons, Nat.succ_mul]
    omega
theorem auF_len {ns : List PN} (ht : treeB ns = true) : ∀ (f : Nat) (z : Int), (auF ns f z).length ≤ 13 ^ f
  | 0, z => Nat.le_refl _
  | f + 1, z => by
    have h1 := flat_len (auF_len ht f) (kidsZ ns z)
    have h2 := Nat.mul_le_mul_right (13 ^ f) (kids_len ht z)
    have h3 : 0 < 13 ^ f := Nat.pow_pos (by decide)
    unfold auF
    rw [List.length_cons, Nat.pow_succ]
    omega
theorem auF_in {ns : List PN} (ht : treeB ns = true) : ∀ (f : Nat) (z : Int), nIn ns.length z = true → ∀ k ∈ auF ns f z, nIn ns.length k = true
  | 0, z, hz, k, hk => by
    simp [auF] at hk
    rw [hk]; exact hz
  | f + 1, z, hz, k, hk => by
    unfold auF at hk
    rcases List.mem_cons.1 hk with rfl | h
    · exact hz
    · obtain ⟨y, hy, h⟩ := List.mem_flatMap.1 h
      exact auF_in ht f y (kid_of ht hy).1 k h
theorem auV_all (ns : List PN) (z : Int) : AllI (auV ns z) := by
  unfold auV
  split
  · rename_i h
    simp only [Bool.and_eq_true] at h
    intro k hk
    have h1 := nIn_iff.1 (auF_in h.2 4 z h.1 k hk)
    have h2 := treeB_len h.2
    omega
  · intro k hk; cases hk
theorem auV_len (ns : List PN) (z : Int) : (auV ns z).length ≤ 28561 := by
  unfold auV
  split
  · rename_i h
    simp only [Bool.and_eq_true] at h
    exact auF_len h.2 4 z
  · simp
theorem au_ok {ns : List PN} (ht : treeB ns = true) {z : Int} (hz : nIn ns.length z = true) : hOk ns 4 z := by
  obtain ⟨d, h1, h2, _⟩ := dep_of ht hz
  exact hOk_of ht 4 d z hz h1 (by omega)
end Go.Proofs.Ytiogjbdaaplhpaa
end

/-
  The laws' helper markTree on a tree of the call's own: every number of it is another one behind; nothing but the tree has turned. Conditions: no list of more than 2097152.
  A walk over a frame that is known at a few slots alone: for functions of hundreds of slots. Conditions: those of each theorem.
  The laws' helpers markNodeS and markTree on a tree of the call's own: walked over a symbolic frame (598 slots). Conditions: no list of more than 2097152.
  The laws' helpers heldNodeS and heldTree on a marked tree of the call's own: walked over a symbolic frame (726 slots). Conditions: no list of more than 2097152.
-/
import Derived.Test.YtfnnfjpbplbjmaaNdA
import Derived.Test.YtfnnfjpbplbjmaaRlK
import Derived.IntWalk
namespace Go.Proofs.Ytfnnfjpbplbjmaa
open Go.ChangeShapes Go.WideShapes Go.ChangeAt Go.RowKit
set_option linter.unusedVariables false
set_option linter.unusedSimpArgs false
set_option maxRecDepth 8000

section
variable {P : Program}
/-- One cell stored. -/
theorem run_store1 (w : World) (b o : Nat) (ty : TypeId) (v : Value) (hv : v.cells = #[v]) (ht : w.there b o 1) (hi : (P.info? ty).map (·.size) = some 1) (h1 : v.oneCell' = true) :
    (Instr.storeAt ty (.pointer (some ⟨b, o, none⟩)) v).run P w = .ok () (w.setCell ⟨b, o, none⟩ v) := by
  have := run_storeCells_cells (P := P) b o [v] 0 w (fun j hj => by simpa using (ht j (by simpa using hj)).1) (fun j hj => by simpa using (ht j (by simpa using hj)).2)
    (fun u hu => by simp at hu; subst hu; exact h1)
  cases hq : P.info? ty with
  | none => simp [hq] at hi
  | some i =>
    have hs : i.size = 1 := by simpa [hq] using hi
    simp only [Nat.add_zero, World.setCells] at this
    simp only [Instr.storeAt, Instr.sureAddr, Sem.run_bind, Sem.run_pure, Result.andThen_ok]
    simp [storeVar, sizeOf, typeInfo, hq, hv, hs, this]
end
/-- The mark of cell j behind the first two. -/
def mkV (B j : Nat) : Value := if j = 6 ∨ j = 7 ∨ j = 60 then .bool (Int.tmod ((B : Int) + (j : Int)) 3 == 0) else .int .i64 ((B : Int) + (j : Int))
theorem setL_snoc : ∀ (vs xs : List Value) (o : Nat) (v : Value), (setL xs o vs).set (o + vs.length) v = setL xs o (vs ++ [v])
  | [], xs, o, v => rfl
  | u :: vs, xs, o, v => by
    rw [setL, List.cons_append, setL, ← setL_snoc vs, List.length_cons]
    congr 1; omega
/-- The first j of a node's marks stand. -/
def MkP (lo g cap n o B : Nat) (xs : List Value) (w0 : World) (j : Nat) (u : World) : Prop :=
  u.ownsRow lo 61 64 (.slice (some ⟨g, 0, none⟩) n cap) n (setL xs o ((List.range j).map (mkV B))) ∧ w0.grownBy u (some g)
theorem MkP.step {lo g cap n o B j : Nat} {xs : List Value} {w0 u : World} (h : MkP lo g cap n o B xs w0 j u) : MkP lo g cap n o B xs w0 (j + 1) (u.setCell ⟨g, o + j, none⟩ (mkV B j)) := by
  refine ⟨?_, gr_set h.2⟩
  have := (World.ownsRow.stored h.1 (o + j) (mkV B j)).1
  have e := setL_snoc ((List.range j).map (mkV B)) xs o (mkV B j)
  rw [List.length_map, List.length_range] at e
  rw [e] at this
  rw [List.range_succ, List.map_append]
  exact this
theorem MkP.there1 {lo g cap n o B j : Nat} {xs : List Value} {w0 u : World} (h : MkP lo g cap n o B xs w0 j u) (hj : o + j < n * 64) : u.there g (o + j) 1 := fun q hq => by
  obtain rfl : q = 0 := by omega
  refine ⟨?_, World.ownsRow.frozenAt h.1 _⟩
  have hl := h.1.1
  rw [Nat.add_zero, World.ownsRow.cellAt h.1 (o + j) hj, List.getElem?_eq_getElem (by omega)]
  rfl
theorem list_mark {lo g cap n o B j q : Nat} {xs : List Value} {w0 u : World} {ops : Array Oper} {rest : List Oper} {op : Oper} {a : Act} {Q : Exit → Act → World → Prop} {ty : TypeId} {x y : Operand} {v : Value}
    (hgd : op.guard = none) (ho : op.op = .store ty x y) (hx : a.eval x = .pointer (some ⟨g, q, none⟩)) (hy : a.eval y = v) (hP : MkP lo g cap n o B xs w0 j u) (hq : q = o + j) (hj : o + j < n * 64) (hv : v = mkV B j)
    (hi : (Try.prog.info? ty).map (·.size) = some 1) (hd : op.dst = none)
    (h : ∀ u', MkP lo g cap n o B xs w0 (j + 1) u' → wpList Try.prog ops Q rest a u') : wpList Try.prog ops Q (op :: rest) a u := by
  refine wpList_plain hgd fun K hK => ?_
  have hc : v.cells = #[v] ∧ v.oneCell' = true := by
    rw [hv]
    unfold mkV
    split <;> exact ⟨rfl, rfl⟩
  subst hq
  unfold Oper.wp execOp
  simp only [ho, hx, hy, Sem.run_bind, run_store1 u g (o + j) ty v hc.1 (hP.there1 hj) hi hc.2, Result.andThen_ok, Sem.run_pure]
  change K (a.put op.dst undef) _
  rw [hd]
  refine hK _ _ (h _ ?_)
  rw [hv]
  exact hP.step
theorem info_i1 : (Try.prog.info? 3).map (·.size) = some 1 := by kernel_rfl
theorem info_b1 : (Try.prog.info? 4).map (·.size) = some 1 := by kernel_rfl
theorem rmk_set {k m : Nat} {zs : List Int} (h : m * 3 + 2 < zs.length) :
    (((mksI k (m * 3) ++ zs.drop (m * 3)).set (m * 3) ((k : Int) + m * 3)).set (m * 3 + 1) ((k : Int) + m * 3 + 1)).set (m * 3 + 2) ((k : Int) + m * 3 + 1 + 1) = mksI k ((m + 1) * 3) ++ zs.drop ((m + 1) * 3) := by
  have e0 : ((k : Int) + m * 3) = (k : Int) + ((m * 3 : Nat) : Int) := by omega
  have e1 : ((k : Int) + m * 3 + 1) = (k : Int) + ((m * 3 + 1 : Nat) : Int) := by omega
  have e2 : ((k : Int) + m * 3 + 1 + 1) = (k : Int) + ((m * 3 + 2 : Nat) : Int) := by omega
  rw [e2, e1, e0, mksI_set (by omega), mksI_set (by omega), mksI_set (by omega), show (m + 1) * 3 = m * 3 + 2 + 1 by omega]
set_option maxHeartbeats 1000000 in
theorem markRS_full (g cap n base k : Nat) (K : Int) (zs : List Int) (w : World) (hn : n ≤ 2097152) (hk2 : k ≤ 4294967296) (hK : K = k) (h : RowR base (.slice (some ⟨g, 0, none⟩) n cap) n zs w) :
    Calls Try.prog 137 #[.slice (some ⟨g, 0, none⟩) n cap, .int .i64 K] w fun e w' => e = .returned (.int .i64 (K + n * 3)) ∧ RowR base (.slice (some ⟨g, 0, none⟩) n cap) n (mksI k (n * 3)) w' ∧ w.grownBy w' (some g) := by
  subst hK
  have hzl := h.size
  have HZL := Lib.hid hzl
  go_enter Try.func137, Try.ntmps137
  go_wp2
  go_loopw [1, 5] (fun q i wr => ∃ m : Nat, m ≤ n ∧ i = .int .i64 m ∧ q = .int .i64 ((k : Int) + m * 3) ∧ RowR base (.slice (some ⟨g, 0, none⟩) n cap) n (mksI k (m * 3) ++ zs.drop (m * 3)) wr ∧ w.grownBy wr (some g)) (fun _ i _ => n - (intOf i).toNat)
  case atStart => exact ⟨0, Nat.zero_le _, rfl, by simp, by simpa [mksI] using h, World.grownBy.refl _ _⟩
  case round =>
    obtain ⟨m, hm, rfl, rfl, ho, hg⟩ := hrel
    by_cases hlt : m < n
    · have hlo : (0 : Int) ≤ (m : Int) := Int.natCast_nonneg _
      have hhi : (m : Int) < (n : Int) := by omega
      have hr := (((ho.put (m * 3) ((k : Int) + m * 3)).put (m * 3 + 1) ((k : Int) + m * 3 + 1)).put (m * 3 + 2) ((k : Int) + m * 3 + 1 + 1))
      rw [rmk_set (by omega)] at hr
      have HR := Lib.hid hr
      have HG := Lib.hid (gr_set (j := m * 3 + 2) (u := .int .i64 ((k : Int) + m * 3 + 1 + 1)) (gr_set (j := m * 3 + 1) (u := .int .i64 ((k : Int) + m * 3 + 1)) (gr_set (j := m * 3) (u := .int .i64 ((k : Int) + m * 3)) hg)))
      obtain ⟨⟨y0, d0⟩, f0⟩ := ho.there (m * 3) (by omega)
      obtain ⟨⟨y1, d1⟩, f1⟩ := ho.there (m * 3 + 1) (by omega)
      obtain ⟨⟨y2, d2⟩, f2⟩ := ho.there (m * 3 + 2) (by omega)
      clear ho hg h hr hzl
      go_wp2
      go_roundw
      case rel => exact ⟨m + 1, by omega, by go_num, by go_num, HR.out, HG.out⟩
      case measure => simp [intOf]; omega
    · obtain rfl : m = n := by omega
      rw [List.drop_of_length_le (by omega), List.append_nil] at ho
      clear h hzl
      go_wp2
      go_ret
      exact ⟨rfl, ho, hg⟩
/-- A slice without elements is marked: nothing turns. -/
theorem markI_none (a : Option Addr) (c : Nat) (k : Int) (w : World) :
    Calls Try.prog 53 #[.slice a 0 c, .int .i64 k] w fun e w' => e = .returned (.int .i64 k) ∧ w' = w := by
  go_enter Try.func53, Try.ntmps53
  go_wp2
  refine wp_loop_rounds 1 ?_
  rw [rounds_succ]
  go_wp2
  go_ret
  exact ⟨rfl, rfl⟩
theorem markR_none (a : Option Addr) (c : Nat) (k : Int) (w : World) :
    Calls Try.prog 137 #[.slice a 0 c, .int .i64 k] w fun e w' => e = .returned (.int .i64 k) ∧ w' = w := by
  go_enter Try.func137, Try.ntmps137
  go_wp2
  refine wp_loop_rounds 1 ?_
  rw [rounds_succ]
  go_wp2
  go_ret
  exact ⟨rfl, rfl⟩
theorem heldI_none (a : Option Addr) (c : Nat) (k : Int) (w : World) :
    Calls Try.prog 54 #[.slice a 0 c, .int .i64 k] w fun e w' => e = .returned (.int .i64 k) ∧ w' = w := by
  go_enter Try.func54, Try.ntmps54
  go_wp2
  refine wp_loop_rounds 1 ?_
  rw [rounds_succ]
  go_wp2
  go_ret
  exact ⟨rfl, rfl⟩
/-- A node's marks, and the number behind them. -/
def mkF (B j : Nat) : Int := if j = 6 ∨ j = 7 then (if Int.tmod ((B : Int) + (j : Int)) 3 == 0 then 1 else 0) else if j < 60 then (B : Int) + (j : Int) else 0
def mkN (K : Nat) (n : PN) : PN := ⟨K, mksI (K + 1) n.kids.length, mkF (K + 1 + n.kids.length), Int.tmod (((K + 1 + n.kids.length : Nat) : Int) + (60 : Nat)) 3 == 0, n.rl, mksI (K + 1 + n.kids.length + 61) (n.rl * 3)⟩
def nxN (K : Nat) (n : PN) : Nat := K + 1 + n.kids.length + 61 + n.rl * 3
def mkM (K : Nat) (m : ND) : ND := ⟨mkN K m.n, m.kv, m.tv⟩
def mkL : Nat → List ND → List ND
  | _, [] => []
  | K, m :: ms => mkM K m :: mkL (nxN K m.n) ms
def nxL : Nat → List ND → Nat
  | K, [] => K
  | K, m :: ms => nxL (nxN K m.n) ms
theorem mkV_sty (B j : Nat) (h : j < 60) : sCell j (mkF B j) = mkV B j := by
  unfold sCell mkF mkV
  by_cases e : j = 6 ∨ j = 7
  · rcases e with rfl | rfl
    · show Value.bool (bz (if Int.tmod ((B : Int) + ((6 : Nat) : Int)) 3 == 0 then 1 else 0)) = Value.bool (Int.tmod ((B : Int) + ((6 : Nat) : Int)) 3 == 0)
      cases Int.tmod ((B : Int) + ((6 : Nat) : Int)) 3 == 0 <;> rfl
    · show Value.bool (bz (if Int.tmod ((B : Int) + ((7 : Nat) : Int)) 3 == 0 then 1 else 0)) = Value.bool (Int.tmod ((B : Int) + ((7 : Nat) : Int)) 3 == 0)
      cases Int.tmod ((B : Int) + ((7 : Nat) : Int)) 3 == 0 <;> rfl
  · rw [if_neg e, if_neg e, if_pos h, if_neg (by omega)]
theorem mkM_cells (K : Nat) (m : ND) : (mkM K m).cells = .int .i64 K :: m.kv :: ((List.range 61).map (mkV (K + 1 + m.n.kids.length)) ++ [m.tv]) := by
  symm
  refine nL_ext (by simp) rfl rfl (fun j hj => ?_) ?_ ?_
  · rw [show 2 + j = j + 1 + 1 by omega, List.getElem?_cons_succ, List.getElem?_cons_succ, List.getElem?_append_left (by simp; omega), List.getElem?_map, List.getElem?_range (by omega)]
    exact congrArg some (mkV_sty _ j hj).symm
  · rfl
  · rfl
theorem mkL_len : ∀ (K : Nat) (ms : List ND), (mkL K ms).length = ms.length
  | _, [] => rfl
  | K, m :: ms => by rw [mkL, List.length_cons, mkL_len, List.length_cons]
theorem mkL_snoc : ∀ (K : Nat) (ms : List ND) (m : ND), mkL K (ms ++ [m]) = mkL K ms ++ [mkM (nxL K ms) m] ∧ nxL K (ms ++ [m]) = nxN (nxL K ms) m.n
  | K, [], m => ⟨rfl, rfl⟩
  | K, q :: ms, m => by
    have h := mkL_snoc (nxN K q.n) ms m
    exact ⟨by rw [List.cons_append, mkL, h.1]; rfl, by rw [List.cons_append, nxL, h.2]; rfl⟩
theorem nxL_le : ∀ (K : Nat) (ms : List ND), nxL K ms ≤ K + 65 * szS (ms.map ND.n)
  | K, [] => by simp [nxL]
  | K, m :: ms => by
    have h := nxL_le (nxN K m.n) ms
    rw [nxL]
    generalize nxL (nxN K m.n) ms = q at *
    unfold szS szL at *
    simp only [List.map_cons, List.length_cons, List.sum_cons, List.length_map] at h ⊢
    unfold nxN at h
    have e : szK m.n = m.n.kids.length + m.n.rl := rfl
    omega
/-- A node marked where it stands. -/
theorem OwnN.remark {lo g cap i : Nat} {ms : List ND} {m m' : ND} {w w' : World} (h : OwnN lo (.slice (some ⟨g, 0, none⟩) ms.length cap) ms w) (hi : ms[i]? = some m)
    (hkv : m'.kv = m.kv) (htv : m'.tv = m.tv) (hkl : m'.n.kids.length = m.n.kids.length) (hrl : m'.n.rl = m.n.rl)
    (hrow : w'.ownsRow lo 61 64 (.slice (some ⟨g, 0, none⟩) ms.length cap) ms.length (cellsN (ms.set i m'))) (hm : m'.own lo w')
    (hfr : ∀ k, k < w.heap.size → k ≠ g → m.comp true ≠ some k → m.comp false ≠ some k → w'.heap[k]? = w.heap[k]?) (hs : w.heap.size ≤ w'.heap.size) :
    OwnN lo (.slice (some ⟨g, 0, none⟩) ms.length cap) (ms.set i m') w' := by
  have hil := (List.getElem?_eq_some_iff.1 hi).1
  have hcomp : ∀ s, m'.comp s = m.comp s := fun s => by unfold ND.comp; rw [hkv, htv, hkl, hrl]
  have rowK : ∀ {e : TypeId} {size n : Nat} {x : Value} {xs : List Value}, w.ownsRow lo e size x n xs → (∀ b, x.ownBlock = some b → b ≠ g ∧ m.comp true ≠ some b ∧ m.comp false ≠ some b) → w'.ownsRow lo e size x n xs := by
    intro e size n x xs hr hne
    refine ⟨hr.1, ?_⟩
    rcases hr.2 with hn | ⟨g', cap', cur, rfl, hb, hg', rest⟩
    · exact .inl hn
    · obtain ⟨a1, a2, a3⟩ := hne g' rfl
      exact .inr ⟨g', cap', cur, rfl, hb, (hfr g' (Array.getElem?_eq_some_iff.1 hg').1 a1 a2 a3).trans hg', rest⟩
  have ownK : ∀ q : ND, q.own lo w → (∀ s b, q.comp s = some b → b ≠ g ∧ m.comp true ≠ some b ∧ m.comp false ≠ some b) → q.own lo w' := by
    intro q ⟨h1, ⟨a, c, e, hk⟩, ⟨a', c', e', ht⟩⟩ hne
    refine ⟨h1, ⟨a, c, e, ?_⟩, ⟨a', c', e', ?_⟩⟩
    · by_cases h0 : q.n.kids = []
      · exact Or.inl h0
      · exact Or.inr (rowK (hk.resolve_left h0) fun b hb => hne true b (by
          unfold ND.comp blk
          rw [if_pos rfl, if_neg (by simpa using h0)]; exact hb))
    · by_cases h0 : q.n.rl = 0
      · exact Or.inl h0
      · exact Or.inr (rowK (ht.resolve_left h0) fun b hb => hne false b (by
          unfold ND.comp blk
          rw [if_neg (by decide), if_neg h0]; exact hb))
  refine ⟨by rw [List.length_set]; exact hrow, fun q hq => ?_, fun a b ma mb s t x ha hb hs ht => ?_⟩
  · obtain ⟨j, hj⟩ := List.mem_iff_getElem?.1 hq
    by_cases e : j = i
    · subst e
      rw [List.getElem?_set_self hil] at hj
      cases hj
      exact ⟨hm, fun s b hb => by rw [hcomp] at hb; exact (h.2.1 m (List.mem_of_getElem? hi)).2 s b hb⟩
    · rw [List.getElem?_set_ne (fun h => e h.symm)] at hj
      have hq' := h.2.1 q (List.mem_of_getElem? hj)
      refine ⟨ownK q hq'.1 fun s b hb => ⟨fun e' => hq'.2 s b hb (by rw [e']; rfl), fun e' => ?_, fun e' => ?_⟩, hq'.2⟩
      · exact e (h.2.2 j i q m s true b hj hi hb e').1
      · exact e (h.2.2 j i q m s false b hj hi hb e').1
  · have get : ∀ (a : Nat) (ma : ND), (ms.set i m')[a]? = some ma → ∃ ma' : ND, ms[a]? = some ma' ∧ ∀ s, ma.comp s = ma'.comp s := fun a ma ha => by
      by_cases e : a = i
      · subst e
        rw [List.getElem?_set_self hil] at ha
        cases ha
        exact ⟨m, hi, hcomp⟩
      · rw [List.getElem?_set_ne (fun h => e h.symm)] at ha
        exact ⟨ma, ha, fun _ => rfl⟩
    obtain ⟨ma', h1, h2⟩ := get a ma ha
    obtain ⟨mb', h3, h4⟩ := get b mb hb
    exact h.2.2 a b ma' mb' s t x h1 h3 (by rw [← h2]; exact hs) (by rw [← h4]; exact ht)
/-- Nothing but blocks from lo to hi has turned. -/
structure MkFr (lo hi : Nat) (w w' : World) : Prop where
  os : w'.os = w.os
  tape : w'.tape = w.tape
  output : w'.output = w.output
  size : w.heap.size ≤ w'.heap.size
  block : ∀ k, k < w.heap.size → (k < lo ∨ hi ≤ k) → w'.heap[k]? = w.heap[k]?
theorem MkFr.refl (lo hi : Nat) (w : World) : MkFr lo hi w w := ⟨rfl, rfl, rfl, Nat.le_refl _, fun _ _ _ => rfl⟩
theorem MkFr.grown {lo hi : Nat} {w u u' : World} {row : Option Nat} (h : MkFr lo hi w u) (hg : u.grownBy u' row) (hr : ∀ b, row = some b → lo ≤ b ∧ b < hi) : MkFr lo hi w u' :=
  ⟨hg.os.trans h.os, hg.tape.trans h.tape, hg.output.trans h.output, Nat.le_trans h.size hg.size, fun k hk h1 => (hg.block k (Nat.lt_of_lt_of_le hk h.size) (fun e => by have := hr k e.symm; omega)).trans (h.block k hk h1)⟩
/-- A node's children marked. -/
theorem markK (lo k : Nat) (K : Int) (v : Value) (zs : List Int) (w : World) (hn : zs.length ≤ 2097152) (hk2 : k ≤ 4294967296) (hK : K = k) (h : KRow lo v zs w) :
    Calls Try.prog 53 #[v, .int .i64 K] w fun e w' => e = .returned (.int .i64 (K + zs.length)) ∧ KRow lo v (mksI k zs.length) w' ∧ w.grownBy w' (blk v zs.length) := by
  obtain ⟨a, c, e, h⟩ := h
  by_cases h0 : zs = []
  · subst h0
    subst e
    refine (markI_none a c K w).mono fun e w' ⟨he, hw⟩ => ?_
    subst hw
    exact ⟨by rw [he]; simp, ⟨a, c, rfl, Or.inl rfl⟩, World.grownBy.refl _ _⟩
  · refine (markI_int2 lo k K v zs w hn hk2 hK (h.resolve_left h0)).mono fun e' w' ⟨he, hr, hg⟩ => ?_
    exact ⟨he, ⟨a, c, by rw [mksI_len]; exact e, Or.inr hr⟩, by unfold blk; rw [if_neg (by simpa using h0)]; exact hg⟩
theorem markT (lo k : Nat) (K : Int) (v : Value) (n : Nat) (zs : List Int) (w : World) (hn : n ≤ 2097152) (hk2 : k ≤ 4294967296) (hK : K = k) (h : TRow lo v n zs w) :
    Calls Try.prog 137 #[v, .int .i64 K] w fun e w' => e = .returned (.int .i64 (K + n * 3)) ∧ TRow lo v n (mksI k (n * 3)) w' ∧ w.grownBy w' (blk v n) := by
  obtain ⟨a, c, e, h⟩ := h
  by_cases h0 : n = 0
  · subst h0
    subst e
    refine (markR_none a c K w).mono fun e w' ⟨he, hw⟩ => ?_
    subst hw
    exact ⟨by rw [he]; simp, ⟨a, c, rfl, Or.inl rfl⟩, World.grownBy.refl _ _⟩
  · have hr := h.resolve_left h0
    rcases hr.2 with ⟨_, h2⟩ | ⟨g, cap, cur, h1, _⟩
    · exact absurd h2 h0
    · subst h1
      refine (markRS_full g cap n lo k K zs w hn hk2 hK hr).mono fun e' w' ⟨he, hr', hg⟩ => ?_
      exact ⟨he, ⟨_, cap, rfl, Or.inr hr'⟩, by unfold blk; rw [if_neg h0]; exact hg⟩
/-- The row behind a node's marks. -/
theorem marked_row (ms : List ND) {i : Nat} {m : ND} (hi : ms[i]? = some m) (K : Nat) :
    setL ((cellsN ms).set (i * 64) (.int .i64 (K : Int))) (i * 64 + 2) ((List.range 61).map (mkV (K + 1 + m.n.kids.length))) = cellsN (ms.set i (mkM K m)) := by
  have hil := (List.getElem?_eq_some_iff.1 hi).1
  have hcl := cellsN_len ms
  rw [← cellsN_set ms hil]
  apply List.ext_getElem?
  intro q
  rw [setL_at _ _ _ _ (by simp [hcl]; omega), setL_at _ _ _ _ (by rw [ND.cells_len, hcl]; omega), ND.cells_len, mkM_cells]
  simp only [List.length_map, List.length_range]
  have hc := fun j (hj : j < 64) => cellsN_at ms i j hj
  rw [hi] at hc
  by_cases h1 : i * 64 + 2 ≤ q ∧ q < i * 64 + 2 + 61
  · rw [if_pos h1, if_pos (by omega), show q - i * 64 = (q - (i * 64 + 2)) + 1 + 1 by omega, List.getElem?_cons_succ, List.getElem?_cons_succ, List.getElem?_append_left (by simp; omega)]
  · rw [if_neg h1]
    by_cases h2 : q = i * 64
    · subst h2
      rw [List.getElem?_set_self (by omega), if_pos (by omega), Nat.sub_self]; rfl
    · rw [List.getElem?_set_ne (fun e => h2 e.symm)]
      by_cases h3 : q = i * 64 + 1
      · subst h3
        rw [if_pos (by omega), hc 1 (by omega), show i * 64 + 1 - i * 64 = 1 by omega]; rfl
      · by_cases h4 : q = i * 64 + 63
        · subst h4
          rw [if_pos (by omega), hc 63 (by omega), show i * 64 + 63 - i * 64 = 63 by omega]
          exact nL_tab
        · rw [if_neg (by omega)]
def MnRel (lo g cap hi K : Nat) (ms0 : List ND) (w : World) (q i : Value) (wr : World) : Prop :=
  ∃ k : Nat, k ≤ ms0.length ∧ i = .int .i64 k ∧ q = .int .i64 (nxL K (ms0.take k) : Nat) ∧ OwnN lo (.slice (some ⟨g, 0, none⟩) ms0.length cap) (mkL K (ms0.take k) ++ ms0.drop k) wr ∧ MkFr lo hi w wr
set_option linter.unusedVariables false
set_option linter.unusedSimpArgs false
set_option maxRecDepth 8000

/-- What is known of the frame. -/
structure Fr (n : Nat) (t0 t1 t5 : Value) (a : Act) : Prop where
  size : a.tmps.size = n
  e0 : a.eval (.tmp 0) = t0
  e1 : a.eval (.tmp 1) = t1
  e5 : a.eval (.tmp 5) = t5
  defers : a.defers = []
theorem evp (a : Act) (d t : Nat) (v : Value) : (a.put (some d) v).eval (.tmp t) = if d = t ∧ d < a.tmps.size then v else a.eval (.tmp t) := by
  unfold Act.put Act.eval
  simp only [Array.getD_eq_getD_getElem?, Array.getElem?_setIfInBounds]
  by_cases h : d = t
  · subst h
    by_cases h2 : d < a.tmps.size
    · simp [h2]
    · simp [h2]
  · simp [h]
theorem szp (a : Act) (d : Nat) (v : Value) : (a.put (some d) v).tmps.size = a.tmps.size := by simp [Act.put]
theorem dfp (a : Act) (d : Nat) (v : Value) : (a.put (some d) v).defers = a.defers := rfl
section
variable {ops : Array Oper} {rest : List Oper} {op : Oper} {a : Act} {w : World} {Q : Exit → Act → World → Prop}
theorem list_val {v : Value} {w' : World} (hgd : op.guard = none) (hr : (execOp a.eval op).run Try.prog w = .ok (.value v) w') (h : wpList Try.prog ops Q rest (a.put op.dst v) w') : wpList Try.prog ops Q (op :: rest) a w := by
  refine wpList_plain hgd fun K hK => ?_
  unfold Oper.wp
  rw [hr, Oper.upon_value]
  exact hK _ _ h
theorem s_move {D : Nat} {TT : TypeId} {pp : String} {ff} {x : Operand} {v : Value} (hx : a.eval x = v) (h : wpList Try.prog ops Q rest (a.put (some D) v) w) : wpList Try.prog ops Q (⟨some D, .move x, TT, pp, ff, none⟩ :: rest) a w :=
  list_val rfl (by subst hx; rfl) h
theorem s_index {D : Nat} {TT : TypeId} {pp : String} {ff} {x y : Operand} {g n c k : Nat} (hx : a.eval x = .slice (some ⟨g, 0, none⟩) n c) (hy : a.eval y = .int .i64 k) (hk : k < n) (hn : n ≤ 2097152)
    (h : wpList Try.prog ops Q rest (a.put (some D) (.pointer (some ⟨g, k * 64, none⟩))) w) : wpList Try.prog ops Q (⟨some D, .indexAddr 24 x y, TT, pp, ff, none⟩ :: rest) a w :=
  list_val rfl (by
    have hlo : (0 : Int) ≤ (k : Int) := Int.natCast_nonneg _
    have hhi : (k : Int) < (n : Int) := by omega
    unfold execOp
    simp only [hx, hy]
    go_simp) h
theorem s_field {D : Nat} {TT : TypeId} {pp : String} {ff} {x : Operand} {ty : TypeId} {f g o d : Nat} {fs : Array Field} (hx : a.eval x = .pointer (some ⟨g, o, none⟩)) (hu : Try.prog.underlying ty = some (.struct fs)) (k : Nat) (hf : (fs[f]?).map (fun fl => (fl.offset, (Try.prog.info? fl.type).map (·.size))) = some (d, some (k + 1)))
    (h : wpList Try.prog ops Q rest (a.put (some D) (.pointer (some ⟨g, o + d, none⟩))) w) : wpList Try.prog ops Q (⟨some D, .fieldAddr ty x f, TT, pp, ff, none⟩ :: rest) a w :=
  list_val rfl (by
    obtain ⟨fl, h1, h2⟩ := Option.map_eq_some_iff.1 hf
    simp only [Prod.mk.injEq] at h2
    obtain ⟨h2, h3⟩ := h2
    obtain ⟨i0, h4, h5⟩ := Option.map_eq_some_iff.1 h3
    unfold execOp
    simp only [hx]
    go_simp
    simp [run_underlying hu, h1, h2, h4, h5, sizeOf, typeInfo, Addr.add_mid, Sem.run_bind, Sem.run_pure, Result.andThen]) h
theorem s_add1 {D : Nat} {TT : TypeId} {pp : String} {ff} {x : Operand} {z : Int} (hx : a.eval x = .int .i64 z) (h0 : 0 ≤ z) (h1 : z ≤ 4611686018427387904)
    (h : wpList Try.prog ops Q rest (a.put (some D) (.int .i64 (z + 1))) w) : wpList Try.prog ops Q (⟨some D, .binOp .add 3 x (.const (.int .i64 1)) 3, TT, pp, ff, none⟩ :: rest) a w :=
  list_val rfl (by
    have hw : IntKind.i64.wrap (z + 1) = z + 1 := IntWalk.i64_in _ (by omega)
    have hc : a.eval (.const (.int .i64 1)) = .int .i64 1 := rfl
    unfold execOp
    simp only [hx, hc]
    go_simp) h
theorem s_assign {D : Nat} {TT : TypeId} {pp : String} {ff} {x : Operand} {v : Value} (hx : a.eval x = v) (h : wpList Try.prog ops Q rest (a.put (some D) v) w) : wpList Try.prog ops Q (⟨some D, .assign x, TT, pp, ff, none⟩ :: rest) a w :=
  list_val rfl (by subst hx; rfl) h
theorem s_rem3 {D : Nat} {TT : TypeId} {pp : String} {ff} {x : Operand} {z : Int} (hx : a.eval x = .int .i64 z) (h0 : 0 ≤ z) (h1 : z ≤ 4611686018427387904)
    (h : wpList Try.prog ops Q rest (a.put (some D) (.int .i64 (Int.tmod z 3))) w) : wpList Try.prog ops Q (⟨some D, .binOp .rem 3 x (.const (.int .i64 3)) 3, TT, pp, ff, none⟩ :: rest) a w :=
  list_val rfl (by
    have h2 : (0 : Int) ≤ Int.tmod z 3 := Int.tmod_nonneg _ h0
    have h3 : Int.tmod z 3 < 3 := Int.tmod_lt_of_pos _ (by decide)
    have hc : a.eval (.const (.int .i64 3)) = .int .i64 3 := rfl
    unfold execOp
    simp only [hx, hc]
    go_simp) h
theorem s_eq0 {D : Nat} {TT : TypeId} {pp : String} {ff} {x : Operand} {z : Int} (hx : a.eval x = .int .i64 z)
    (h : wpList Try.prog ops Q rest (a.put (some D) (.bool (z == 0))) w) : wpList Try.prog ops Q (⟨some D, .binOp .eql 3 x (.const (.int .i64 0)) 3, TT, pp, ff, none⟩ :: rest) a w :=
  list_val rfl (by
    have hc : a.eval (.const (.int .i64 0)) = .int .i64 0 := rfl
    unfold execOp
    simp only [hx, hc]
    go_simp) h
theorem s_call {D : Nat} {TT : TypeId} {pp : String} {ff} {A : Array TypeId} {F : FuncId} {x y : Operand} {v1 v2 : Value} {R : Value → World → Prop} (hF : ∀ (vs : Array Value) (w : World), (callFunc F vs).run Try.prog w = .ok (.enter F vs) w) (hx : a.eval x = v1) (hy : a.eval y = v2) (hc : Calls Try.prog F #[v1, v2] w fun e w' => ∃ r, e = .returned r ∧ R r w')
    (h : ∀ r w', R r w' → wpList Try.prog ops Q rest (a.put (some D) r) w') : wpList Try.prog ops Q (⟨some D, .call { callee := .value (.func F), args := #[x, y], argTypes := A }, TT, pp, ff, none⟩ :: rest) a w := by
  refine wpList_plain rfl fun K hK => ?_
  unfold Oper.wp
  have e : (execOp a.eval ⟨some D, .call { callee := .value (.func F), args := #[x, y], argTypes := A }, TT, pp, ff, none⟩).run Try.prog w = .ok (.enter F #[v1, v2]) w := by
    have hf : a.eval (.func F) = .func (.func F) #[] #[] := rfl
    unfold execOp
    simp only [resolve, hf, List.map_toArray, List.map_cons, List.map_nil, hx, hy, Sem.run_bind, Sem.run_pure, Result.andThen_ok]
    go_simp
  rw [e, Oper.upon_enter]
  refine hc.mono ?_
  rintro e w' ⟨r, rfl, hR⟩
  exact hK _ _ (h r w' hR)
theorem s_loadI {D : Nat} {TT : TypeId} {pp : String} {ff} {x : Operand} {p : Addr} {v : Value} (hx : a.eval x = .pointer (some p)) (hc : w.cell? p = some v)
    (h : wpList Try.prog ops Q rest (a.put (some D) v) w) : wpList Try.prog ops Q (⟨some D, .load 59 x, TT, pp, ff, none⟩ :: rest) a w :=
  list_val rfl (by
    unfold execOp
    simp only [hx]
    go_simp) h
theorem s_loadR {D : Nat} {TT : TypeId} {pp : String} {ff} {x : Operand} {p : Addr} {v : Value} (hx : a.eval x = .pointer (some p)) (hc : w.cell? p = some v)
    (h : wpList Try.prog ops Q rest (a.put (some D) v) w) : wpList Try.prog ops Q (⟨some D, .load 49 x, TT, pp, ff, none⟩ :: rest) a w :=
  list_val rfl (by
    unfold execOp
    simp only [hx]
    go_simp) h
theorem s_len {D : Nat} {TT : TypeId} {pp : String} {ff} {x : Operand} {ao : Option Addr} {n c : Nat} (hx : a.eval x = .slice ao n c)
    (h : wpList Try.prog ops Q rest (a.put (some D) (.int .i64 n)) w) : wpList Try.prog ops Q (⟨some D, .call { callee := .builtin .len, args := #[x], argTypes := #[24] }, TT, pp, ff, none⟩ :: rest) a w :=
  list_val rfl (by
    unfold execOp
    simp only [resolve, invoke, builtin, List.map_toArray, List.map_cons, List.map_nil, hx, Sem.run_bind, Sem.run_pure, Result.andThen_ok]
    go_simp) h
theorem s_lss {D : Nat} {TT : TypeId} {pp : String} {ff} {x y : Operand} {z1 z2 : Int} (hx : a.eval x = .int .i64 z1) (hy : a.eval y = .int .i64 z2)
    (h : wpList Try.prog ops Q rest (a.put (some D) (.bool (decide (z1 < z2)))) w) : wpList Try.prog ops Q (⟨some D, .binOp .lss 3 x y 3, TT, pp, ff, none⟩ :: rest) a w :=
  list_val rfl (by
    unfold execOp
    simp only [hx, hy]
    go_simp) h
theorem s_store1 {T0 TT : TypeId} {pp : String} {ff} {x y : Operand} {g o : Nat} {v : Value} (hx : a.eval x = .pointer (some ⟨g, o, none⟩)) (hy : a.eval y = v) (hv : v.cells = #[v]) (h1 : v.oneCell' = true) (ht : w.there g o 1) (hi : (Try.prog.info? T0).map (·.size) = some 1)
    (h : wpList Try.prog ops Q rest a (w.setCell ⟨g, o, none⟩ v)) : wpList Try.prog ops Q (⟨none, .store T0 x y, TT, pp, ff, none⟩ :: rest) a w := by
  refine wpList_plain rfl fun K hK => ?_
  unfold Oper.wp execOp
  simp only [hx, hy, Sem.run_bind, run_store1 w g o T0 v hv ht hi h1, Result.andThen_ok, Sem.run_pure]
  exact hK _ _ h
end
/-! The region that stores a mark, one lemma a shape (the path's length), and the count's step. -/
section
variable {Q : Exit → Act → World → Prop} {a : Act} {u : World} {lo g cap n N o B j k s id : Nat} {xs : List Value} {w0 : World} {z : Int}
/-- 'k++' -/
theorem rg_inc {T1 T2 T3 : TypeId} {p1 p2 p3 : String} {f1 f2 f3} (F : Fr N (.slice (some ⟨g, 0, none⟩) n cap) (.int .i64 z) (.int .i64 k) a) (h0 : 0 ≤ z) (h1 : z ≤ 4611686018427387904) (hs : s + 2 ≤ N) (hs0 : 6 ≤ s)
    (h : ∀ a', Fr N (.slice (some ⟨g, 0, none⟩) n cap) (.int .i64 (z + 1)) (.int .i64 k) a' → Q .normal a' u) :
    (Code.region id #[⟨some s, .move (.tmp 1), T1, p1, f1, none⟩, ⟨some (s + 1), .binOp .add 3 (.tmp s) (.const (.int .i64 1)) 3, T2, p2, f2, none⟩, ⟨some 1, .assign (.tmp (s + 1)), T3, p3, f3, none⟩] false).wp Try.prog Q a u := by
  refine wp_region_list ?_
  have hN := F.size
  refine s_move F.e1 ?_
  refine s_add1 (z := z) (by rw [evp, if_pos ⟨rfl, by omega⟩]) h0 h1 ?_
  refine s_assign (v := .int .i64 (z + 1)) (by rw [evp, if_pos ⟨rfl, by rw [szp]; omega⟩]) ?_
  refine wpList_nil (h _ ⟨by rw [szp, szp, szp]; exact hN, ?_, ?_, ?_, F.defers⟩)
  · rw [evp, if_neg (by omega), evp, if_neg (by omega), evp, if_neg (by omega)]; exact F.e0
  · rw [evp, if_pos ⟨rfl, by rw [szp, szp]; omega⟩]
  · rw [evp, if_neg (by omega), evp, if_neg (by omega), evp, if_neg (by omega)]; exact F.e5
theorem evs (a : Act) (d : Nat) (v : Value) (h : d < a.tmps.size) : (a.put (some d) v).eval (.tmp d) = v := by rw [evp, if_pos ⟨rfl, h⟩]
theorem evn (a : Act) (d t : Nat) (v : Value) (h : d ≠ t) : (a.put (some d) v).eval (.tmp t) = a.eval (.tmp t) := by rw [evp, if_neg (fun e => h e.1)]
/-- The parent's number is marked. -/
theorem rg_up {T0 T1 T2 T3 T4 T5 : TypeId} {p0 p1 p2 p3 p4 p5 : String} {f0 f1 f2 f3 f4 f5} {fs0 : Array Field} (hu0 : Try.prog.underlying 61 = some (.struct fs0)) (m0 : Nat) (hf0 : (fs0[0]?).map (fun fl => (fl.offset, (Try.prog.info? fl.type).map (·.size))) = some (0, some (m0 + 1)))
    (F : Fr N (.slice (some ⟨g, 0, none⟩) n cap) (.int .i64 z) (.int .i64 k) a) (hs : s + 5 ≤ N) (hs0 : 6 ≤ s) (hk : k < n) (hn : n ≤ 2097152) (ht : u.there g (k * 64) 1)
    (h : ∀ a', Fr N (.slice (some ⟨g, 0, none⟩) n cap) (.int .i64 z) (.int .i64 k) a' → Q .normal a' (u.setCell ⟨g, k * 64, none⟩ (.int .i64 z))) :
    (Code.region id #[⟨some s, .move (.tmp 0), T0, p0, f0, none⟩, ⟨some (s + 1), .move (.tmp 5), T1, p1, f1, none⟩, ⟨some (s + 2), .move (.tmp 1), T2, p2, f2, none⟩, ⟨some (s + 3), .indexAddr 24 (.tmp s) (.tmp (s + 1)), T3, p3, f3, none⟩, ⟨some (s + 4), .fieldAddr 61 (.tmp (s + 3)) 0, T4, p4, f4, none⟩, ⟨none, .store 3 (.tmp (s + 4)) (.tmp (s + 2)), T5, p5, f5, none⟩] false).wp Try.prog Q a u := by
  refine wp_region_list ?_
  have hN := F.size
  refine s_move (v := .slice (some ⟨g, 0, none⟩) n cap) F.e0 ?_
  refine s_move (v := .int .i64 k) (by rw [evn _ _ _ _ (by omega)]; exact F.e5) ?_
  refine s_move (v := .int .i64 z) (by rw [evn _ _ _ _ (by omega), evn _ _ _ _ (by omega)]; exact F.e1) ?_
  refine s_index (g := g) (n := n) (c := cap) (k := k) (by rw [evn _ _ _ _ (by omega), evn _ _ _ _ (by omega), evs _ _ _ (by omega)]) (by rw [evn _ _ _ _ (by omega), evs _ _ _ (by rw [szp]; omega)]) hk hn ?_
  refine s_field (g := g) (o := k * 64) (d := 0) (by rw [evs _ _ _ (by simp only [szp]; omega)]) hu0 m0 hf0 ?_
  refine s_store1 (g := g) (o := k * 64) (v := .int .i64 z) (by rw [evs _ _ _ (by simp only [szp]; omega)]; rfl) (by rw [evn _ _ _ _ (by omega), evn _ _ _ _ (by omega), evs _ _ _ (by simp only [szp]; omega)]) rfl rfl ht info_i1 ?_
  refine wpList_nil ?_
  refine h _ ?_
  refine ⟨?_, ?_, ?_, ?_, ?_⟩
  · simp only [szp]; exact hN
  · rw [evn _ _ _ _ (by omega), evn _ _ _ _ (by omega), evn _ _ _ _ (by omega), evn _ _ _ _ (by omega), evn _ _ _ _ (by omega)]; exact F.e0
  · rw [evn _ _ _ _ (by omega), evn _ _ _ _ (by omega), evn _ _ _ _ (by omega), evn _ _ _ _ (by omega), evn _ _ _ _ (by omega)]; exact F.e1
  · rw [evn _ _ _ _ (by omega), evn _ _ _ _ (by omega), evn _ _ _ _ (by omega), evn _ _ _ _ (by omega), evn _ _ _ _ (by omega)]; exact F.e5
  · simp only [dfp]; exact F.defers
/-- The children are marked by a call. -/
theorem rg_kids {T0 T1 T2 T3 T4 T5 T6 T7 : TypeId} {p0 p1 p2 p3 p4 p5 p6 p7 : String} {f0 f1 f2 f3 f4 f5 f6 f7} {C : FuncId} {A : Array TypeId} {v : Value} {R : Value → World → Prop} {fs0 : Array Field} (hF : ∀ (vs : Array Value) (w : World), (callFunc C vs).run Try.prog w = .ok (.enter C vs) w) (hu0 : Try.prog.underlying 61 = some (.struct fs0)) (m0 : Nat) (hf0 : (fs0[1]?).map (fun fl => (fl.offset, (Try.prog.info? fl.type).map (·.size))) = some (1, some (m0 + 1)))
    (F : Fr N (.slice (some ⟨g, 0, none⟩) n cap) (.int .i64 z) (.int .i64 k) a) (hs : s + 7 ≤ N) (hs0 : 6 ≤ s) (hk : k < n) (hn : n ≤ 2097152) (hc : u.cell? ⟨g, k * 64 + 1, none⟩ = some v) (hcall : Calls Try.prog C #[v, .int .i64 z] u fun e w' => ∃ r, e = .returned r ∧ R r w')
    (h : ∀ a' r u', R r u' → Fr N (.slice (some ⟨g, 0, none⟩) n cap) r (.int .i64 k) a' → Q .normal a' u') :
    (Code.region id #[⟨some s, .move (.tmp 0), T0, p0, f0, none⟩, ⟨some (s + 1), .move (.tmp 5), T1, p1, f1, none⟩, ⟨some (s + 2), .indexAddr 24 (.tmp s) (.tmp (s + 1)), T2, p2, f2, none⟩, ⟨some (s + 3), .fieldAddr 61 (.tmp (s + 2)) 1, T3, p3, f3, none⟩, ⟨some (s + 4), .load 59 (.tmp (s + 3)), T4, p4, f4, none⟩, ⟨some (s + 5), .move (.tmp 1), T5, p5, f5, none⟩, ⟨some (s + 6), .call { callee := .value (.func C), args := #[.tmp (s + 4), .tmp (s + 5)], argTypes := A }, T6, p6, f6, none⟩, ⟨some 1, .assign (.tmp (s + 6)), T7, p7, f7, none⟩] false).wp Try.prog Q a u := by
  refine wp_region_list ?_
  have hN := F.size
  refine s_move (v := .slice (some ⟨g, 0, none⟩) n cap) F.e0 ?_
  refine s_move (v := .int .i64 k) (by rw [evn _ _ _ _ (by omega)]; exact F.e5) ?_
  refine s_index (g := g) (n := n) (c := cap) (k := k) (by rw [evn _ _ _ _ (by omega), evs _ _ _ (by omega)]) (by rw [evs _ _ _ (by rw [szp]; omega)]) hk hn ?_
  refine s_field (g := g) (o := k * 64) (d := 1) (by rw [evs _ _ _ (by simp only [szp]; omega)]) hu0 m0 hf0 ?_
  refine s_loadI (p := ⟨g, k * 64 + 1, none⟩) (v := v) (by rw [evs _ _ _ (by simp only [szp]; omega)]) hc ?_
  refine s_move (v := .int .i64 z) (by rw [evn _ _ _ _ (by omega), evn _ _ _ _ (by omega), evn _ _ _ _ (by omega), evn _ _ _ _ (by omega), evn _ _ _ _ (by omega)]; exact F.e1) ?_
  refine s_call (R := R) hF (v1 := v) (v2 := .int .i64 z) (by rw [evn _ _ _ _ (by omega), evs _ _ _ (by simp only [szp]; omega)]) (by rw [evs _ _ _ (by simp only [szp]; omega)]) hcall ?_
  intro r u' hR
  refine s_assign (v := r) (by rw [evs _ _ _ (by simp only [szp]; omega)]) ?_
  refine wpList_nil ?_
  refine h _ r u' hR ?_
  refine ⟨?_, ?_, ?_, ?_, ?_⟩
  · simp only [szp]; exact hN
  · rw [evn _ _ _ _ (by omega), evn _ _ _ _ (by omega), evn _ _ _ _ (by omega), evn _ _ _ _ (by omega), evn _ _ _ _ (by omega), evn _ _ _ _ (by omega), evn _ _ _ _ (by omega), evn _ _ _ _ (by omega)]; exact F.e0
  · rw [evs _ _ _ (by simp only [szp]; omega)]
  · rw [evn _ _ _ _ (by omega), evn _ _ _ _ (by omega), evn _ _ _ _ (by omega), evn _ _ _ _ (by omega), evn _ _ _ _ (by omega), evn _ _ _ _ (by omega), evn _ _ _ _ (by omega), evn _ _ _ _ (by omega)]; exact F.e5
  · simp only [dfp]; exact F.defers
/-- The rules are marked by a call. -/
theorem rg_rules {T0 T1 T2 T3 T4 T5 T6 T7 T8 : TypeId} {p0 p1 p2 p3 p4 p5 p6 p7 p8 : String} {f0 f1 f2 f3 f4 f5 f6 f7 f8} {C : FuncId} {A : Array TypeId} {v : Value} {R : Value → World → Prop} {fs0 fs1 : Array Field} (hF : ∀ (vs : Array Value) (w : World), (callFunc C vs).run Try.prog w = .ok (.enter C vs) w) (hu0 : Try.prog.underlying 61 = some (.struct fs0)) (m0 : Nat) (hf0 : (fs0[4]?).map (fun fl => (fl.offset, (Try.prog.info? fl.type).map (·.size))) = some (63, some (m0 + 1))) (hu1 : Try.prog.underlying 51 = some (.struct fs1)) (m1 : Nat) (hf1 : (fs1[0]?).map (fun fl => (fl.offset, (Try.prog.info? fl.type).map (·.size))) = some (0, some (m1 + 1)))
    (F : Fr N (.slice (some ⟨g, 0, none⟩) n cap) (.int .i64 z) (.int .i64 k) a) (hs : s + 8 ≤ N) (hs0 : 6 ≤ s) (hk : k < n) (hn : n ≤ 2097152) (hc : u.cell? ⟨g, k * 64 + 63, none⟩ = some v) (hcall : Calls Try.prog C #[v, .int .i64 z] u fun e w' => ∃ r, e = .returned r ∧ R r w')
    (h : ∀ a' r u', R r u' → Fr N (.slice (some ⟨g, 0, none⟩) n cap) r (.int .i64 k) a' → Q .normal a' u') :
    (Code.region id #[⟨some s, .move (.tmp 0), T0, p0, f0, none⟩, ⟨some (s + 1), .move (.tmp 5), T1, p1, f1, none⟩, ⟨some (s + 2), .indexAddr 24 (.tmp s) (.tmp (s + 1)), T2, p2, f2, none⟩, ⟨some (s + 3), .fieldAddr 61 (.tmp (s + 2)) 4, T3, p3, f3, none⟩, ⟨some (s + 4), .fieldAddr 51 (.tmp (s + 3)) 0, T8, p8, f8, none⟩, ⟨some (s + 5), .load 49 (.tmp (s + 4)), T4, p4, f4, none⟩, ⟨some (s + 6), .move (.tmp 1), T5, p5, f5, none⟩, ⟨some (s + 7), .call { callee := .value (.func C), args := #[.tmp (s + 5), .tmp (s + 6)], argTypes := A }, T6, p6, f6, none⟩, ⟨some 1, .assign (.tmp (s + 7)), T7, p7, f7, none⟩] false).wp Try.prog Q a u := by
  refine wp_region_list ?_
  have hN := F.size
  refine s_move (v := .slice (some ⟨g, 0, none⟩) n cap) F.e0 ?_
  refine s_move (v := .int .i64 k) (by rw [evn _ _ _ _ (by omega)]; exact F.e5) ?_
  refine s_index (g := g) (n := n) (c := cap) (k := k) (by rw [evn _ _ _ _ (by omega), evs _ _ _ (by omega)]) (by rw [evs _ _ _ (by rw [szp]; omega)]) hk hn ?_
  refine s_field (g := g) (o := k * 64) (d := 63) (by rw [evs _ _ _ (by simp only [szp]; omega)]) hu0 m0 hf0 ?_
  refine s_field (g := g) (o := k * 64 + 63) (d := 0) (by rw [evs _ _ _ (by simp only [szp]; omega)]) hu1 m1 hf1 ?_
  refine s_loadR (p := ⟨g, k * 64 + 63, none⟩) (v := v) (by rw [evs _ _ _ (by simp only [szp]; omega)]) hc ?_
  refine s_move (v := .int .i64 z) (by rw [evn _ _ _ _ (by omega), evn _ _ _ _ (by omega), evn _ _ _ _ (by omega), evn _ _ _ _ (by omega), evn _ _ _ _ (by omega), evn _ _ _ _ (by omega)]; exact F.e1) ?_
  refine s_call (R := R) hF (v1 := v) (v2 := .int .i64 z) (by rw [evn _ _ _ _ (by omega), evs _ _ _ (by simp only [szp]; omega)]) (by rw [evs _ _ _ (by simp only [szp]; omega)]) hcall ?_
  intro r u' hR
  refine s_assign (v := r) (by rw [evs _ _ _ (by simp only [szp]; omega)]) ?_
  refine wpList_nil ?_
  refine h _ r u' hR ?_
  refine ⟨?_, ?_, ?_, ?_, ?_⟩
  · simp only [szp]; exact hN
  · rw [evn _ _ _ _ (by omega), evn _ _ _ _ (by omega), evn _ _ _ _ (by omega), evn _ _ _ _ (by omega), evn _ _ _ _ (by omega), evn _ _ _ _ (by omega), evn _ _ _ _ (by omega), evn _ _ _ _ (by omega), evn _ _ _ _ (by omega)]; exact F.e0
  · rw [evs _ _ _ (by simp only [szp]; omega)]
  · rw [evn _ _ _ _ (by omega), evn _ _ _ _ (by omega), evn _ _ _ _ (by omega), evn _ _ _ _ (by omega), evn _ _ _ _ (by omega), evn _ _ _ _ (by omega), evn _ _ _ _ (by omega), evn _ _ _ _ (by omega), evn _ _ _ _ (by omega)]; exact F.e5
  · simp only [dfp]; exact F.defers
-- generated by gen/gensym.py

set_option maxHeartbeats 2000000 in
theorem rg_i2 {T0 T1 T2 T3 T4 T5 T6 : TypeId} {p0 p1 p2 p3 p4 p5 p6 : String} {f0 f1 f2 f3 f4 f5 f6} {y0 : TypeId} {x0 d0 : Nat} {fs0 : Array Field} (hu0 : Try.prog.underlying y0 = some (.struct fs0)) (m0 : Nat) (hf0 : (fs0[x0]?).map (fun fl => (fl.offset, (Try.prog.info? fl.type).map (·.size))) = some (d0, some (m0 + 1))) {y1 : TypeId} {x1 d1 : Nat} {fs1 : Array Field} (hu1 : Try.prog.underlying y1 = some (.struct fs1)) (m1 : Nat) (hf1 : (fs1[x1]?).map (fun fl => (fl.offset, (Try.prog.info? fl.type).map (·.size))) = some (d1, some (m1 + 1))) (F : Fr N (.slice (some ⟨g, 0, none⟩) n cap) (.int .i64 z) (.int .i64 k) a) (hs : s + 6 ≤ N) (hs0 : 6 ≤ s) (hk : k < n) (hn : n ≤ 2097152) (hP : MkP lo g cap n o B xs w0 j u) (hq : k * 64 + d0 + d1 = o + j) (hj : o + j < n * 64) (hv : Value.int .i64 z = mkV B j)
    (h : ∀ a' u', Fr N (.slice (some ⟨g, 0, none⟩) n cap) (.int .i64 z) (.int .i64 k) a' → MkP lo g cap n o B xs w0 (j + 1) u' → Q .normal a' u') :
    (Code.region id #[⟨some (s), .move (.tmp 0), T0, p0, f0, none⟩, ⟨some (s + 1), .move (.tmp 5), T1, p1, f1, none⟩, ⟨some (s + 2), .move (.tmp 1), T2, p2, f2, none⟩, ⟨some (s + 3), .indexAddr 24 (.tmp s) (.tmp (s + 1)), T3, p3, f3, none⟩, ⟨some (s + 4), .fieldAddr y0 (.tmp (s + 3)) x0, T4, p4, f4, none⟩, ⟨some (s + 5), .fieldAddr y1 (.tmp (s + 4)) x1, T5, p5, f5, none⟩, ⟨none, .store 3 (.tmp (s + 5)) (.tmp (s + 2)), T6, p6, f6, none⟩] false).wp Try.prog Q a u := by
  refine wp_region_list ?_
  have hN := F.size
  refine s_move (v := .slice (some ⟨g, 0, none⟩) n cap) F.e0 ?_
  refine s_move (v := .int .i64 k) (by rw [evp, if_neg (by omega)]; exact F.e5) ?_
  refine s_move (v := .int .i64 z) (by rw [evp, if_neg (by omega), evp, if_neg (by omega)]; exact F.e1) ?_
  refine s_index (g := g) (n := n) (c := cap) (k := k) (by rw [evp, if_neg (by omega), evp, if_neg (by omega), evp, if_pos ⟨rfl, by (try simp only [szp]); omega⟩]) (by rw [evp, if_neg (by omega), evp, if_pos ⟨rfl, by (try simp only [szp]); omega⟩]) hk hn ?_
  refine s_field (g := g) (o := k * 64) (d := d0) (by rw [evp, if_pos ⟨rfl, by (try simp only [szp]); omega⟩]) hu0 m0 hf0 ?_
  refine s_field (g := g) (o := k * 64 + d0) (d := d1) (by rw [evp, if_pos ⟨rfl, by (try simp only [szp]); omega⟩]) hu1 m1 hf1 ?_
  refine list_mark (q := k * 64 + d0 + d1) (v := .int .i64 z) rfl rfl (by rw [evp, if_pos ⟨rfl, by (try simp only [szp]); omega⟩]) (by rw [evp, if_neg (by omega), evp, if_neg (by omega), evp, if_neg (by omega), evp, if_pos ⟨rfl, by (try simp only [szp]); omega⟩]) hP hq hj hv info_i1 rfl ?_
  intro u' hP'
  refine wpList_nil ?_
  refine h _ _ ?_ hP'
  refine ⟨?_, ?_, ?_, ?_, ?_⟩
  · simp only [szp]; exact hN
  · exact (by rw [evp, if_neg (by omega), evp, if_neg (by omega), evp, if_neg (by omega), evp, if_neg (by omega), evp, if_neg (by omega), evp, if_neg (by omega)]; exact F.e0)
  · exact (by rw [evp, if_neg (by omega), evp, if_neg (by omega), evp, if_neg (by omega), evp, if_neg (by omega), evp, if_neg (by omega), evp, if_neg (by omega)]; exact F.e1)
  · exact (by rw [evp, if_neg (by omega), evp, if_neg (by omega), evp, if_neg (by omega), evp, if_neg (by omega), evp, if_neg (by omega), evp, if_neg (by omega)]; exact F.e5)
  · simp only [dfp]; exact F.defers
set_option maxHeartbeats 2000000 in
theorem rg_i3 {T0 T1 T2 T3 T4 T5 T6 T7 : TypeId} {p0 p1 p2 p3 p4 p5 p6 p7 : String} {f0 f1 f2 f3 f4 f5 f6 f7} {y0 : TypeId} {x0 d0 : Nat} {fs0 : Array Field} (hu0 : Try.prog.underlying y0 = some (.struct fs0)) (m0 : Nat) (hf0 : (fs0[x0]?).map (fun fl => (fl.offset, (Try.prog.info? fl.type).map (·.size))) = some (d0, some (m0 + 1))) {y1 : TypeId} {x1 d1 : Nat} {fs1 : Array Field} (hu1 : Try.prog.underlying y1 = some (.struct fs1)) (m1 : Nat) (hf1 : (fs1[x1]?).map (fun fl => (fl.offset, (Try.prog.info? fl.type).map (·.size))) = some (d1, some (m1 + 1))) {y2 : TypeId} {x2 d2 : Nat} {fs2 : Array Field} (hu2 : Try.prog.underlying y2 = some (.struct fs2)) (m2 : Nat) (hf2 : (fs2[x2]?).map (fun fl => (fl.offset, (Try.prog.info? fl.type).map (·.size))) = some (d2, some (m2 + 1))) (F : Fr N (.slice (some ⟨g, 0, none⟩) n cap) (.int .i64 z) (.int .i64 k) a) (hs : s + 7 ≤ N) (hs0 : 6 ≤ s) (hk : k < n) (hn : n ≤ 2097152) (hP : MkP lo g cap n o B xs w0 j u) (hq : k * 64 + d0 + d1 + d2 = o + j) (hj : o + j < n * 64) (hv : Value.int .i64 z = mkV B j)
    (h : ∀ a' u', Fr N (.slice (some ⟨g, 0, none⟩) n cap) (.int .i64 z) (.int .i64 k) a' → MkP lo g cap n o B xs w0 (j + 1) u' → Q .normal a' u') :
    (Code.region id #[⟨some (s), .move (.tmp 0), T0, p0, f0, none⟩, ⟨some (s + 1), .move (.tmp 5), T1, p1, f1, none⟩, ⟨some (s + 2), .move (.tmp 1), T2, p2, f2, none⟩, ⟨some (s + 3), .indexAddr 24 (.tmp s) (.tmp (s + 1)), T3, p3, f3, none⟩, ⟨some (s + 4), .fieldAddr y0 (.tmp (s + 3)) x0, T4, p4, f4, none⟩, ⟨some (s + 5), .fieldAddr y1 (.tmp (s + 4)) x1, T5, p5, f5, none⟩, ⟨some (s + 6), .fieldAddr y2 (.tmp (s + 5)) x2, T6, p6, f6, none⟩, ⟨none, .store 3 (.tmp (s + 6)) (.tmp (s + 2)), T7, p7, f7, none⟩] false).wp Try.prog Q a u := by
  refine wp_region_list ?_
  have hN := F.size
  refine s_move (v := .slice (some ⟨g, 0, none⟩) n cap) F.e0 ?_
  refine s_move (v := .int .i64 k) (by rw [evp, if_neg (by omega)]; exact F.e5) ?_
  refine s_move (v := .int .i64 z) (by rw [evp, if_neg (by omega), evp, if_neg (by omega)]; exact F.e1) ?_
  refine s_index (g := g) (n := n) (c := cap) (k := k) (by rw [evp, if_neg (by omega), evp, if_neg (by omega), evp, if_pos ⟨rfl, by (try simp only [szp]); omega⟩]) (by rw [evp, if_neg (by omega), evp, if_pos ⟨rfl, by (try simp only [szp]); omega⟩]) hk hn ?_
  refine s_field (g := g) (o := k * 64) (d := d0) (by rw [evp, if_pos ⟨rfl, by (try simp only [szp]); omega⟩]) hu0 m0 hf0 ?_
  refine s_field (g := g) (o := k * 64 + d0) (d := d1) (by rw [evp, if_pos ⟨rfl, by (try simp only [szp]); omega⟩]) hu1 m1 hf1 ?_
  refine s_field (g := g) (o := k * 64 + d0 + d1) (d := d2) (by rw [evp, if_pos ⟨rfl, by (try simp only [szp]); omega⟩]) hu2 m2 hf2 ?_
  refine list_mark (q := k * 64 + d0 + d1 + d2) (v := .int .i64 z) rfl rfl (by rw [evp, if_pos ⟨rfl, by (try simp only [szp]); omega⟩]) (by rw [evp, if_neg (by omega), evp, if_neg (by omega), evp, if_neg (by omega), evp, if_neg (by omega), evp, if_pos ⟨rfl, by (try simp only [szp]); omega⟩]) hP hq hj hv info_i1 rfl ?_
  intro u' hP'
  refine wpList_nil ?_
  refine h _ _ ?_ hP'
  refine ⟨?_, ?_, ?_, ?_, ?_⟩
  · simp only [szp]; exact hN
  · exact (by rw [evp, if_neg (by omega), evp, if_neg (by omega), evp, if_neg (by omega), evp, if_neg (by omega), evp, if_neg (by omega), evp, if_neg (by omega), evp, if_neg (by omega)]; exact F.e0)
  · exact (by rw [evp, if_neg (by omega), evp, if_neg (by omega), evp, if_neg (by omega), evp, if_neg (by omega), evp, if_neg (by omega), evp, if_neg (by omega), evp, if_neg (by omega)]; exact F.e1)
  · exact (by rw [evp, if_neg (by omega), evp, if_neg (by omega), evp, if_neg (by omega), evp, if_neg (by omega), evp, if_neg (by omega), evp, if_neg (by omega), evp, if_neg (by omega)]; exact F.e5)
  · simp only [dfp]; exact F.defers
set_option maxHeartbeats 2000000 in
theorem rg_i4 {T0 T1 T2 T3 T4 T5 T6 T7 T8 : TypeId} {p0 p1 p2 p3 p4 p5 p6 p7 p8 : String} {f0 f1 f2 f3 f4 f5 f6 f7 f8} {y0 : TypeId} {x0 d0 : Nat} {fs0 : Array Field} (hu0 : Try.prog.underlying y0 = some (.struct fs0)) (m0 : Nat) (hf0 : (fs0[x0]?).map (fun fl => (fl.offset, (Try.prog.info? fl.type).map (·.size))) = some (d0, some (m0 + 1))) {y1 : TypeId} {x1 d1 : Nat} {fs1 : Array Field} (hu1 : Try.prog.underlying y1 = some (.struct fs1)) (m1 : Nat) (hf1 : (fs1[x1]?).map (fun fl => (fl.offset, (Try.prog.info? fl.type).map (·.size))) = some (d1, some (m1 + 1))) {y2 : TypeId} {x2 d2 : Nat} {fs2 : Array Field} (hu2 : Try.prog.underlying y2 = some (.struct fs2)) (m2 : Nat) (hf2 : (fs2[x2]?).map (fun fl => (fl.offset, (Try.prog.info? fl.type).map (·.size))) = some (d2, some (m2 + 1))) {y3 : TypeId} {x3 d3 : Nat} {fs3 : Array Field} (hu3 : Try.prog.underlying y3 = some (.struct fs3)) (m3 : Nat) (hf3 : (fs3[x3]?).map (fun fl => (fl.offset, (Try.prog.info? fl.type).map (·.size))) = some (d3, some (m3 + 1))) (F : Fr N (.slice (some ⟨g, 0, none⟩) n cap) (.int .i64 z) (.int .i64 k) a) (hs : s + 8 ≤ N) (hs0 : 6 ≤ s) (hk : k < n) (hn : n ≤ 2097152) (hP : MkP lo g cap n o B xs w0 j u) (hq : k * 64 + d0 + d1 + d2 + d3 = o + j) (hj : o + j < n * 64) (hv : Value.int .i64 z = mkV B j)
    (h : ∀ a' u', Fr N (.slice (some ⟨g, 0, none⟩) n cap) (.int .i64 z) (.int .i64 k) a' → MkP lo g cap n o B xs w0 (j + 1) u' → Q .normal a' u') :
    (Code.region id #[⟨some (s), .move (.tmp 0), T0, p0, f0, none⟩, ⟨some (s + 1), .move (.tmp 5), T1, p1, f1, none⟩, ⟨some (s + 2), .move (.tmp 1), T2, p2, f2, none⟩, ⟨some (s + 3), .indexAddr 24 (.tmp s) (.tmp (s + 1)), T3, p3, f3, none⟩, ⟨some (s + 4), .fieldAddr y0 (.tmp (s + 3)) x0, T4, p4, f4, none⟩, ⟨some (s + 5), .fieldAddr y1 (.tmp (s + 4)) x1, T5, p5, f5, none⟩, ⟨some (s + 6), .fieldAddr y2 (.tmp (s + 5)) x2, T6, p6, f6, none⟩, ⟨some (s + 7), .fieldAddr y3 (.tmp (s + 6)) x3, T7, p7, f7, none⟩, ⟨none, .store 3 (.tmp (s + 7)) (.tmp (s + 2)), T8, p8, f8, none⟩] false).wp Try.prog Q a u := by
  refine wp_region_list ?_
  have hN := F.size
  refine s_move (v := .slice (some ⟨g, 0, none⟩) n cap) F.e0 ?_
  refine s_move (v := .int .i64 k) (by rw [evp, if_neg (by omega)]; exact F.e5) ?_
  refine s_move (v := .int .i64 z) (by rw [evp, if_neg (by omega), evp, if_neg (by omega)]; exact F.e1) ?_
  refine s_index (g := g) (n := n) (c := cap) (k := k) (by rw [evp, if_neg (by omega), evp, if_neg (by omega), evp, if_pos ⟨rfl, by (try simp only [szp]); omega⟩]) (by rw [evp, if_neg (by omega), evp, if_pos ⟨rfl, by (try simp only [szp]); omega⟩]) hk hn ?_
  refine s_field (g := g) (o := k * 64) (d := d0) (by rw [evp, if_pos ⟨rfl, by (try simp only [szp]); omega⟩]) hu0 m0 hf0 ?_
  refine s_field (g := g) (o := k * 64 + d0) (d := d1) (by rw [evp, if_pos ⟨rfl, by (try simp only [szp]); omega⟩]) hu1 m1 hf1 ?_
  refine s_field (g := g) (o := k * 64 + d0 + d1) (d := d2) (by rw [evp, if_pos ⟨rfl, by (try simp only [szp]); omega⟩]) hu2 m2 hf2 ?_
  refine s_field (g := g) (o := k * 64 + d0 + d1 + d2) (d := d3) (by rw [evp, if_pos ⟨rfl, by (try simp only [szp]); omega⟩]) hu3 m3 hf3 ?_
  refine list_mark (q := k * 64 + d0 + d1 + d2 + d3) (v := .int .i64 z) rfl rfl (by rw [evp, if_pos ⟨rfl, by (try simp only [szp]); omega⟩]) (by rw [evp, if_neg (by omega), evp, if_neg (by omega), evp, if_neg (by omega), evp, if_neg (by omega), evp, if_neg (by omega), evp, if_pos ⟨rfl, by (try simp only [szp]); omega⟩]) hP hq hj hv info_i1 rfl ?_
  intro u' hP'
  refine wpList_nil ?_
  refine h _ _ ?_ hP'
  refine ⟨?_, ?_, ?_, ?_, ?_⟩
  · simp only [szp]; exact hN
  · exact (by rw [evp, if_neg (by omega), evp, if_neg (by omega), evp, if_neg (by omega), evp, if_neg (by omega), evp, if_neg (by omega), evp, if_neg (by omega), evp, if_neg (by omega), evp, if_neg (by omega)]; exact F.e0)
  · exact (by rw [evp, if_neg (by omega), evp, if_neg (by omega), evp, if_neg (by omega), evp, if_neg (by omega), evp, if_neg (by omega), evp, if_neg (by omega), evp, if_neg (by omega), evp, if_neg (by omega)]; exact F.e1)
  · exact (by rw [evp, if_neg (by omega), evp, if_neg (by omega), evp, if_neg (by omega), evp, if_neg (by omega), evp, if_neg (by omega), evp, if_neg (by omega), evp, if_neg (by omega), evp, if_neg (by omega)]; exact F.e5)
  · simp only [dfp]; exact F.defers
set_option maxHeartbeats 2000000 in
theorem rg_b1 {T0 T1 T2 T3 T4 T5 T6 T7 : TypeId} {p0 p1 p2 p3 p4 p5 p6 p7 : String} {f0 f1 f2 f3 f4 f5 f6 f7} {y0 : TypeId} {x0 d0 : Nat} {fs0 : Array Field} (hu0 : Try.prog.underlying y0 = some (.struct fs0)) (m0 : Nat) (hf0 : (fs0[x0]?).map (fun fl => (fl.offset, (Try.prog.info? fl.type).map (·.size))) = some (d0, some (m0 + 1))) (F : Fr N (.slice (some ⟨g, 0, none⟩) n cap) (.int .i64 z) (.int .i64 k) a) (h0 : 0 ≤ z) (h1 : z ≤ 4611686018427387904) (hs : s + 7 ≤ N) (hs0 : 6 ≤ s) (hk : k < n) (hn : n ≤ 2097152) (hP : MkP lo g cap n o B xs w0 j u) (hq : k * 64 + d0 = o + j) (hj : o + j < n * 64) (hv : Value.bool (Int.tmod z 3 == 0) = mkV B j)
    (h : ∀ a' u', Fr N (.slice (some ⟨g, 0, none⟩) n cap) (.int .i64 z) (.int .i64 k) a' → MkP lo g cap n o B xs w0 (j + 1) u' → Q .normal a' u') :
    (Code.region id #[⟨some (s), .move (.tmp 0), T0, p0, f0, none⟩, ⟨some (s + 1), .move (.tmp 5), T1, p1, f1, none⟩, ⟨some (s + 2), .move (.tmp 1), T2, p2, f2, none⟩, ⟨some (s + 3), .binOp .rem 3 (.tmp (s + 2)) (.const (.int .i64 3)) 3, T3, p3, f3, none⟩, ⟨some (s + 4), .binOp .eql 3 (.tmp (s + 3)) (.const (.int .i64 0)) 3, T4, p4, f4, none⟩, ⟨some (s + 5), .indexAddr 24 (.tmp s) (.tmp (s + 1)), T5, p5, f5, none⟩, ⟨some (s + 6), .fieldAddr y0 (.tmp (s + 5)) x0, T6, p6, f6, none⟩, ⟨none, .store 4 (.tmp (s + 6)) (.tmp (s + 4)), T7, p7, f7, none⟩] false).wp Try.prog Q a u := by
  refine wp_region_list ?_
  have hN := F.size
  refine s_move (v := .slice (some ⟨g, 0, none⟩) n cap) F.e0 ?_
  refine s_move (v := .int .i64 k) (by rw [evp, if_neg (by omega)]; exact F.e5) ?_
  refine s_move (v := .int .i64 z) (by rw [evp, if_neg (by omega), evp, if_neg (by omega)]; exact F.e1) ?_
  refine s_rem3 (z := z) (by rw [evp, if_pos ⟨rfl, by (try simp only [szp]); omega⟩]) h0 h1 ?_
  refine s_eq0 (z := Int.tmod z 3) (by rw [evp, if_pos ⟨rfl, by (try simp only [szp]); omega⟩]) ?_
  refine s_index (g := g) (n := n) (c := cap) (k := k) (by rw [evp, if_neg (by omega), evp, if_neg (by omega), evp, if_neg (by omega), evp, if_neg (by omega), evp, if_pos ⟨rfl, by (try simp only [szp]); omega⟩]) (by rw [evp, if_neg (by omega), evp, if_neg (by omega), evp, if_neg (by omega), evp, if_pos ⟨rfl, by (try simp only [szp]); omega⟩]) hk hn ?_
  refine s_field (g := g) (o := k * 64) (d := d0) (by rw [evp, if_pos ⟨rfl, by (try simp only [szp]); omega⟩]) hu0 m0 hf0 ?_
  refine list_mark (q := k * 64 + d0) (v := .bool (Int.tmod z 3 == 0)) rfl rfl (by rw [evp, if_pos ⟨rfl, by (try simp only [szp]); omega⟩]) (by rw [evp, if_neg (by omega), evp, if_neg (by omega), evp, if_pos ⟨rfl, by (try simp only [szp]); omega⟩]) hP hq hj hv info_b1 rfl ?_
  intro u' hP'
  refine wpList_nil ?_
  refine h _ _ ?_ hP'
  refine ⟨?_, ?_, ?_, ?_, ?_⟩
  · simp only [szp]; exact hN
  · exact (by rw [evp, if_neg (by omega), evp, if_neg (by omega), evp, if_neg (by omega), evp, if_neg (by omega), evp, if_neg (by omega), evp, if_neg (by omega), evp, if_neg (by omega)]; exact F.e0)
  · exact (by rw [evp, if_neg (by omega), evp, if_neg (by omega), evp, if_neg (by omega), evp, if_neg (by omega), evp, if_neg (by omega), evp, if_neg (by omega), evp, if_neg (by omega)]; exact F.e1)
  · exact (by rw [evp, if_neg (by omega), evp, if_neg (by omega), evp, if_neg (by omega), evp, if_neg (by omega), evp, if_neg (by omega), evp, if_neg (by omega), evp, if_neg (by omega)]; exact F.e5)
  · simp only [dfp]; exact F.defers
set_option maxHeartbeats 2000000 in
theorem rg_b2 {T0 T1 T2 T3 T4 T5 T6 T7 T8 : TypeId} {p0 p1 p2 p3 p4 p5 p6 p7 p8 : String} {f0 f1 f2 f3 f4 f5 f6 f7 f8} {y0 : TypeId} {x0 d0 : Nat} {fs0 : Array Field} (hu0 : Try.prog.underlying y0 = some (.struct fs0)) (m0 : Nat) (hf0 : (fs0[x0]?).map (fun fl => (fl.offset, (Try.prog.info? fl.type).map (·.size))) = some (d0, some (m0 + 1))) {y1 : TypeId} {x1 d1 : Nat} {fs1 : Array Field} (hu1 : Try.prog.underlying y1 = some (.struct fs1)) (m1 : Nat) (hf1 : (fs1[x1]?).map (fun fl => (fl.offset, (Try.prog.info? fl.type).map (·.size))) = some (d1, some (m1 + 1))) (F : Fr N (.slice (some ⟨g, 0, none⟩) n cap) (.int .i64 z) (.int .i64 k) a) (h0 : 0 ≤ z) (h1 : z ≤ 4611686018427387904) (hs : s + 8 ≤ N) (hs0 : 6 ≤ s) (hk : k < n) (hn : n ≤ 2097152) (hP : MkP lo g cap n o B xs w0 j u) (hq : k * 64 + d0 + d1 = o + j) (hj : o + j < n * 64) (hv : Value.bool (Int.tmod z 3 == 0) = mkV B j)
    (h : ∀ a' u', Fr N (.slice (some ⟨g, 0, none⟩) n cap) (.int .i64 z) (.int .i64 k) a' → MkP lo g cap n o B xs w0 (j + 1) u' → Q .normal a' u') :
    (Code.region id #[⟨some (s), .move (.tmp 0), T0, p0, f0, none⟩, ⟨some (s + 1), .move (.tmp 5), T1, p1, f1, none⟩, ⟨some (s + 2), .move (.tmp 1), T2, p2, f2, none⟩, ⟨some (s + 3), .binOp .rem 3 (.tmp (s + 2)) (.const (.int .i64 3)) 3, T3, p3, f3, none⟩, ⟨some (s + 4), .binOp .eql 3 (.tmp (s + 3)) (.const (.int .i64 0)) 3, T4, p4, f4, none⟩, ⟨some (s + 5), .indexAddr 24 (.tmp s) (.tmp (s + 1)), T5, p5, f5, none⟩, ⟨some (s + 6), .fieldAddr y0 (.tmp (s + 5)) x0, T6, p6, f6, none⟩, ⟨some (s + 7), .fieldAddr y1 (.tmp (s + 6)) x1, T7, p7, f7, none⟩, ⟨none, .store 4 (.tmp (s + 7)) (.tmp (s + 4)), T8, p8, f8, none⟩] false).wp Try.prog Q a u := by
  refine wp_region_list ?_
  have hN := F.size
  refine s_move (v := .slice (some ⟨g, 0, none⟩) n cap) F.e0 ?_
  refine s_move (v := .int .i64 k) (by rw [evp, if_neg (by omega)]; exact F.e5) ?_
  refine s_move (v := .int .i64 z) (by rw [evp, if_neg (by omega), evp, if_neg (by omega)]; exact F.e1) ?_
  refine s_rem3 (z := z) (by rw [evp, if_pos ⟨rfl, by (try simp only [szp]); omega⟩]) h0 h1 ?_
  refine s_eq0 (z := Int.tmod z 3) (by rw [evp, if_pos ⟨rfl, by (try simp only [szp]); omega⟩]) ?_
  refine s_index (g := g) (n := n) (c := cap) (k := k) (by rw [evp, if_neg (by omega), evp, if_neg (by omega), evp, if_neg (by omega), evp, if_neg (by omega), evp, if_pos ⟨rfl, by (try simp only [szp]); omega⟩]) (by rw [evp, if_neg (by omega), evp, if_neg (by omega), evp, if_neg (by omega), evp, if_pos ⟨rfl, by (try simp only [szp]); omega⟩]) hk hn ?_
  refine s_field (g := g) (o := k * 64) (d := d0) (by rw [evp, if_pos ⟨rfl, by (try simp only [szp]); omega⟩]) hu0 m0 hf0 ?_
  refine s_field (g := g) (o := k * 64 + d0) (d := d1) (by rw [evp, if_pos ⟨rfl, by (try simp only [szp]); omega⟩]) hu1 m1 hf1 ?_
  refine list_mark (q := k * 64 + d0 + d1) (v := .bool (Int.tmod z 3 == 0)) rfl rfl (by rw [evp, if_pos ⟨rfl, by (try simp only [szp]); omega⟩]) (by rw [evp, if_neg (by omega), evp, if_neg (by omega), evp, if_neg (by omega), evp, if_pos ⟨rfl, by (try simp only [szp]); omega⟩]) hP hq hj hv info_b1 rfl ?_
  intro u' hP'
  refine wpList_nil ?_
  refine h _ _ ?_ hP'
  refine ⟨?_, ?_, ?_, ?_, ?_⟩
  · simp only [szp]; exact hN
  · exact (by rw [evp, if_neg (by omega), evp, if_neg (by omega), evp, if_neg (by omega), evp, if_neg (by omega), evp, if_neg (by omega), evp, if_neg (by omega), evp, if_neg (by omega), evp, if_neg (by omega)]; exact F.e0)
  · exact (by rw [evp, if_neg (by omega), evp, if_neg (by omega), evp, if_neg (by omega), evp, if_neg (by omega), evp, if_neg (by omega), evp, if_neg (by omega), evp, if_neg (by omega), evp, if_neg (by omega)]; exact F.e1)
  · exact (by rw [evp, if_neg (by omega), evp, if_neg (by omega), evp, if_neg (by omega), evp, if_neg (by omega), evp, if_neg (by omega), evp, if_neg (by omega), evp, if_neg (by omega), evp, if_neg (by omega)]; exact F.e5)
  · simp only [dfp]; exact F.defers
end
set_option linter.unusedVariables false
set_option linter.unusedSimpArgs false
set_option maxRecDepth 8000

theorem then_n {next : Act → World → Prop} {Q : Exit → Act → World → Prop} {a : Act} {w : World} (h : next a w) : Exit.then next Q .normal a w := h
theorem then_x {next : Act → World → Prop} {Q : Exit → Act → World → Prop} {a : Act} {w : World} {i : Nat} (h : Q (.exit i) a w) : Exit.then next Q (.exit i) a w := h
theorem inb_x {id : Nat} {Q : Exit → Act → World → Prop} {a : Act} {w : World} (h : Q .normal a w) : Exit.inBlock id Q (.exit id) a w := by show (if id = id then Q .normal a w else Q (.exit id) a w); rw [if_pos rfl]; exact h
theorem inb_n {id : Nat} {Q : Exit → Act → World → Prop} {a : Act} {w : World} (h : Q .normal a w) : Exit.inBlock id Q .normal a w := h
theorem mkV_i (B j : Nat) (h : ¬ (j = 6 ∨ j = 7 ∨ j = 60)) : Value.int .i64 ((B + j : Nat) : Int) = mkV B j := by unfold mkV; rw [if_neg h, Int.natCast_add]
theorem mkV_b (B j : Nat) (h : j = 6 ∨ j = 7 ∨ j = 60) : Value.bool (Int.tmod ((B + j : Nat) : Int) 3 == 0) = mkV B j := by unfold mkV; rw [if_pos h, Int.natCast_add]
theorem mksI_all {k n : Nat} (h : k + n ≤ 4611686018427387904) : AllI (mksI k n) := fun z hz => by
  obtain ⟨j, hj, rfl⟩ := List.mem_map.1 hz
  have := List.mem_range.1 hj
  omega
theorem mkF_all {B : Nat} (h : B ≤ 4600000000) : InR (mkF B) := fun j => by
  unfold mkF
  split
  · split <;> omega
  · split <;> omega
theorem HU35 : Try.prog.underlying 35 = some (.struct (Try.prog.fieldsOf 35)) := by kernel_rfl
theorem HU37 : Try.prog.underlying 37 = some (.struct (Try.prog.fieldsOf 37)) := by kernel_rfl
theorem HU39 : Try.prog.underlying 39 = some (.struct (Try.prog.fieldsOf 39)) := by kernel_rfl
section
variable {Q : Exit → Act → World → Prop} {a : Act} {u : World} {g cap n N k s id : Nat} {v : Value}
/-- 'i++' -/
theorem rg_inc5 {T1 T2 T3 : TypeId} {p1 p2 p3 : String} {f1 f2 f3} {v : Value} (F : Fr N (.slice (some ⟨g, 0, none⟩) n cap) v (.int .i64 k) a) (h0 : (0 : Int) ≤ k) (h1 : (k : Int) ≤ 4611686018427387904) (hs : s + 2 ≤ N) (hs0 : 6 ≤ s)
    (h : ∀ a', Fr N (.slice (some ⟨g, 0, none⟩) n cap) v (.int .i64 ((k : Int) + 1)) a' → Q .normal a' u) :
    (Code.region id #[⟨some s, .move (.tmp 5), T1, p1, f1, none⟩, ⟨some (s + 1), .binOp .add 3 (.tmp s) (.const (.int .i64 1)) 3, T2, p2, f2, none⟩, ⟨some 5, .assign (.tmp (s + 1)), T3, p3, f3, none⟩] false).wp Try.prog Q a u := by
  refine wp_region_list ?_
  have hN := F.size
  refine s_move F.e5 ?_
  refine s_add1 (z := k) (by rw [evs _ _ _ (by omega)]) h0 h1 ?_
  refine s_assign (v := .int .i64 ((k : Int) + 1)) (by rw [evs _ _ _ (by rw [szp]; omega)]) ?_
  refine wpList_nil ?_
  refine h _ ?_
  refine ⟨?_, ?_, ?_, ?_, ?_⟩
  · simp only [szp]; exact hN
  · rw [evn _ _ _ _ (by omega), evn _ _ _ _ (by omega), evn _ _ _ _ (by omega)]; exact F.e0
  · rw [evn _ _ _ _ (by omega), evn _ _ _ _ (by omega), evn _ _ _ _ (by omega)]; exact F.e1
  · rw [evs _ _ _ (by simp only [szp]; omega)]
  · simp only [dfp]; exact F.defers
/-- 'return k' -/
theorem rg_ret {ao : Option Addr} {T1 T2 : TypeId} {p1 p2 : String} {f1 f2} {z : Int} (F : Fr N (.slice ao n cap) (.int .i64 z) v a) (hs : s + 1 ≤ N) (hs0 : 6 ≤ s)
    (h : ∀ a', a'.defers = [] → a'.eval (.tmp 4) = .int .i64 z → Q .normal a' u) :
    (Code.region id #[⟨some s, .move (.tmp 1), T1, p1, f1, none⟩, ⟨some 4, .assign (.tmp s), T2, p2, f2, none⟩] false).wp Try.prog Q a u := by
  refine wp_region_list ?_
  have hN := F.size
  refine s_move F.e1 ?_
  refine s_assign (v := .int .i64 z) (by rw [evs _ _ _ (by omega)]) ?_
  refine wpList_nil ?_
  refine h _ ?_ ?_
  · simp only [dfp]; exact F.defers
  · rw [evs _ _ _ (by simp only [szp]; omega)]
/-- 'i < len(a)' -/
theorem rg_cond {ao : Option Addr} {T1 T2 T3 T4 : TypeId} {p1 p2 p3 p4 : String} {f1 f2 f3 f4} {v : Value} (F : Fr N (.slice ao n cap) v (.int .i64 k) a) (hs : s + 4 ≤ N) (hs0 : 6 ≤ s)
    (h : ∀ a', Fr N (.slice ao n cap) v (.int .i64 k) a' → a'.eval (.tmp (s + 3)) = .bool (decide ((k : Int) < (n : Int))) → Q .normal a' u) :
    (Code.region id #[⟨some s, .move (.tmp 5), T1, p1, f1, none⟩, ⟨some (s + 1), .move (.tmp 0), T2, p2, f2, none⟩, ⟨some (s + 2), .call { callee := .builtin .len, args := #[.tmp (s + 1)], argTypes := #[24] }, T3, p3, f3, none⟩, ⟨some (s + 3), .binOp .lss 3 (.tmp s) (.tmp (s + 2)) 3, T4, p4, f4, none⟩] false).wp Try.prog Q a u := by
  refine wp_region_list ?_
  have hN := F.size
  refine s_move F.e5 ?_
  refine s_move (v := .slice ao n cap) (by rw [evn _ _ _ _ (by omega)]; exact F.e0) ?_
  refine s_len (ao := ao) (n := n) (c := cap) (by rw [evs _ _ _ (by rw [szp]; omega)]) ?_
  refine s_lss (z1 := k) (z2 := n) (by rw [evn _ _ _ _ (by omega), evn _ _ _ _ (by omega), evs _ _ _ (by omega)]) (by rw [evs _ _ _ (by simp only [szp]; omega)]) ?_
  refine wpList_nil ?_
  refine h _ ?_ ?_
  · refine ⟨?_, ?_, ?_, ?_, ?_⟩
    · simp only [szp]; exact hN
    · rw [evn _ _ _ _ (by omega), evn _ _ _ _ (by omega), evn _ _ _ _ (by omega), evn _ _ _ _ (by omega)]; exact F.e0
    · rw [evn _ _ _ _ (by omega), evn _ _ _ _ (by omega), evn _ _ _ _ (by omega), evn _ _ _ _ (by omega)]; exact F.e1
    · rw [evn _ _ _ _ (by omega), evn _ _ _ _ (by omega), evn _ _ _ _ (by omega), evn _ _ _ _ (by omega)]; exact F.e5
    · simp only [dfp]; exact F.defers
  · rw [evs _ _ _ (by simp only [szp]; omega)]
end
def MnI (lo g cap hi K : Nat) (ms0 : List ND) (w : World) (a : Act) (wr : World) : Prop :=
  ∃ k : Nat, k ≤ ms0.length ∧ Fr 598 (.slice (some ⟨g, 0, none⟩) ms0.length cap) (.int .i64 (nxL K (ms0.take k) : Nat)) (.int .i64 k) a ∧ OwnN lo (.slice (some ⟨g, 0, none⟩) ms0.length cap) (mkL K (ms0.take k) ++ ms0.drop k) wr ∧ MkFr lo hi w wr
set_option maxHeartbeats 16000000 in
theorem markns_any (lo g cap hi K : Nat) (ms0 : List ND) (w : World) (h : OwnN lo (.slice (some ⟨g, 0, none⟩) ms0.length cap) ms0 w) (hg : lo ≤ g ∧ g < hi) (hb : ∀ m ∈ ms0, ∀ s b, m.comp s = some b → lo ≤ b ∧ b < hi) (hsz : szS (ms0.map ND.n) ≤ 2097152) (hK : K ≤ 1) :
    Calls Try.prog 100 #[.slice (some ⟨g, 0, none⟩) ms0.length cap, .int .i64 K] w fun e w' => e = .returned (.int .i64 (nxL K ms0 : Nat)) ∧ OwnN lo (.slice (some ⟨g, 0, none⟩) ms0.length cap) (mkL K ms0) w' ∧ MkFr lo hi w w' := by
  have HB := Lib.hid hb
  have HG := Lib.hid hg
  have HSZ := Lib.hid hsz
  have HH := Lib.hid h
  have hnl : ms0.length ≤ 2097152 := by unfold szS at hsz; simp at hsz; omega
  clear h hb hg hsz
  go_enter Try.func100, Try.ntmps100
  go_wp2_with (fail)
  refine wp_loop (MnI lo g cap hi K ms0 w) (fun a _ => ms0.length - (intOf (a.eval (.tmp 5))).toNat) ?h0 ?round
  case h0 => exact ⟨0, Nat.zero_le _, ⟨rfl, rfl, rfl, rfl, rfl⟩, HH.out, MkFr.refl _ _ _⟩
  case round =>
    intro a0 wr hI
    obtain ⟨k, hk, F0, ho, hf⟩ := hI
    have F := F0
    repeat refine wp_seq ?_
    refine rg_cond (s := 6) (N := 598) F (by decide) (by decide) ?_
    intro a F hcond
    refine then_n ?_
    by_cases hlt : k < ms0.length
    · refine wp_cond (t := true) (by rw [hcond, decide_eq_true (by omega)]) ?_
      refine wp_skip ?_
      refine then_n ?_
      repeat refine wp_seq ?_
      refine wp_block ?_
      · skip
        have hlo : (0 : Int) ≤ (k : Int) := Int.natCast_nonneg _
        have hhi : (k : Int) < (ms0.length : Int) := by omega
        obtain ⟨ms, ems⟩ : ∃ ms, ms = mkL K (ms0.take k) ++ ms0.drop k := ⟨_, rfl⟩
        have hml : ms.length = ms0.length := by rw [ems, List.length_append, mkL_len, List.length_take, List.length_drop]; omega
        have hmi : ms[k]? = some ms0[k] := by
          rw [ems, List.getElem?_append_right (by rw [mkL_len, List.length_take]; omega), mkL_len, List.length_take, Nat.min_eq_left (by omega), Nat.sub_self, List.getElem?_drop, Nat.add_zero, List.getElem?_eq_getElem hlt]
        have hnext : ms.set k (mkM (nxL K (ms0.take k)) ms0[k]) = mkL K (ms0.take (k + 1)) ++ ms0.drop (k + 1) := by
          rw [List.take_succ_eq_append_getElem hlt, (mkL_snoc K (ms0.take k) ms0[k]).1, ems, List.append_assoc, List.singleton_append, List.set_append_right _ _ (by rw [mkL_len, List.length_take]; omega), mkL_len, List.length_take, Nat.min_eq_left (by omega), Nat.sub_self, List.drop_eq_getElem_cons hlt, List.set_cons_zero]
        have hnx : nxL K (ms0.take (k + 1)) = nxN (nxL K (ms0.take k)) ms0[k].n := by rw [List.take_succ_eq_append_getElem hlt, (mkL_snoc K (ms0.take k) ms0[k]).2]
        have hq1 := nxL_le K (ms0.take k)
        have hq2 : szS ((ms0.take k).map ND.n) ≤ 2097152 := by
          have h1 := HSZ.out
          unfold szS at h1 ⊢
          simp only [List.length_map, List.length_take] at h1 ⊢
          have h2 := szL_take_le (ms0.map ND.n) k
          rw [List.map_take]
          omega
        have hmem := HH.out.2.1 ms0[k] (List.getElem_mem hlt)
        have hmb := HB.out ms0[k] (List.getElem_mem hlt)
        have hszk : szK ms0[k].n ≤ 2097152 := by
          have h1 := szK_le (ns := ms0.map ND.n) (i := k) (by simpa using hlt)
          have h2 := HSZ.out
          unfold szS at h2
          simp at h1
          omega
        rw [← ems, ← hml] at ho
        have hown := (ho.2.1 ms0[k] (List.mem_of_getElem? hmi)).1
        have hgne := (ho.2.1 ms0[k] (List.mem_of_getElem? hmi)).2
        have HNEXT := Lib.hid hnext
        have HNX := Lib.hid hnx
        generalize ms0[k] = m at *
        generalize nxL K (ms0.take k) = KK at *
        have hKK : KK ≤ 4000000000 := by omega
        have hkl : m.n.kids.length ≤ 2097152 := by unfold szK at hszk; omega
        have htl : m.n.rl ≤ 2097152 := by unfold szK at hszk; omega
        -- the parent's number
        have hrow := ho.1
        have hcl := cellsN_len ms
        have hc := fun j (hj : j < 64) => cellsN_at ms k j hj
        rw [hmi] at hc
        have hthere : wr.there g (k * 64) 1 := fun q hq => by
          obtain rfl : q = 0 := by omega
          refine ⟨?_, World.ownsRow.frozenAt hrow _⟩
          rw [Nat.add_zero, World.ownsRow.cellAt hrow (k * 64) (by omega), List.getElem?_eq_getElem (by omega)]
          rfl
        have c0 : ∃ x, wr.cell? ⟨g, k * 64, none⟩ = some x := by
          rw [World.ownsRow.cellAt hrow (k * 64) (by omega)]
          exact ⟨_, List.getElem?_eq_getElem (by omega)⟩
        obtain ⟨x0, c0⟩ := c0
        have f0 := World.ownsRow.frozenAt hrow (k * 64)
        obtain ⟨w1, ew1⟩ : ∃ w1, w1 = wr.setCell ⟨g, k * 64, none⟩ (.int .i64 (KK : Int)) := ⟨_, rfl⟩
        have hrow1 := (World.ownsRow.stored hrow (k * 64) (.int .i64 (KK : Int))).1
        have g1 : wr.grownBy w1 (some g) := by rw [ew1]; exact gr_set (World.grownBy.refl _ _)
        rw [← ew1] at hrow1
        have ck : w1.cell? ⟨g, k * 64 + 1, none⟩ = some m.kv := by
          rw [World.ownsRow.cellAt hrow1 (k * 64 + 1) (by omega), List.getElem?_set_ne (by omega), hc 1 (by omega)]; rfl
        have hF1 := hf.grown g1 (fun b hb => by cases hb; exact HG.out)
        have rowK : ∀ {e : TypeId} {size n : Nat} {x : Value} {xs : List Value}, wr.ownsRow lo e size x n xs → (∀ b, x.ownBlock = some b → b ≠ g) → w1.ownsRow lo e size x n xs := fun hr hne => World.ownsRow.kept hr g1 (by
          rename_i x xs
          cases hx : x.ownBlock with
          | none => exact Or.inl rfl
          | some b => exact Or.inr fun e => hne b hx (by simpa using e))
        have hkr : KRow lo m.kv m.n.kids w1 := by
          obtain ⟨a, c, e, hr⟩ := hown.2.1
          by_cases h0 : m.n.kids = []
          · exact ⟨a, c, e, Or.inl h0⟩
          · exact ⟨a, c, e, Or.inr (rowK (hr.resolve_left h0) fun b hb e => hgne true b (by unfold ND.comp blk; rw [if_pos rfl, if_neg (by simpa using h0)]; exact hb) (by rw [e]; rfl))⟩
        have htr : TRow lo m.tv m.n.rl m.n.rules w1 := by
          obtain ⟨a, c, e, hr⟩ := hown.2.2
          by_cases h0 : m.n.rl = 0
          · exact ⟨a, c, e, Or.inl h0⟩
          · exact ⟨a, c, e, Or.inr (rowK (hr.resolve_left h0) fun b hb e => hgne false b (by unfold ND.comp blk; rw [if_neg (by decide), if_neg h0]; exact hb) (by rw [e]; rfl))⟩
        have EW1 := Lib.hid ew1
        have HKR := Lib.hid hkr
        have HTR := Lib.hid htr
        have HR1 := Lib.hid hrow1
        have G1 := Lib.hid g1
        have HO := Lib.hid ho
        have HGN := Lib.hid hgne
        have HF1 := Lib.hid hF1
        have HC := Lib.hid hc
        have HMB := Lib.hid hmb
        have HIN := Lib.hid (p := ∀ b, m.comp true = some b → m.comp false = some b → False) (fun b h1 h2 => absurd (ho.2.2 k k m m true false b hmi hmi h1 h2).2 (by decide))
        have HOWN := Lib.hid hown
        clear ew1 hkr htr hrow1 hrow g1 ho hgne hF1 hc rowK hmb hown hf hmem ems hnext hnx hszk hq1 hq2
        repeat refine wp_seq ?_
        refine rg_up (s := 12) (N := 598) nd_under 0 (by kernel_rfl) F (by decide) (by decide) hlt hnl hthere ?_
        intro a F
        rw [← EW1.out]
        refine then_n ?_
        repeat refine wp_seq ?_
        refine rg_inc (s := 17) (N := 598) F (by omega) (by omega) (by decide) (by decide) ?_
        intro a F
        refine then_n ?_
        repeat refine wp_seq ?_
        refine rg_kids (s := 19) (N := 598) (R := fun r w' => r = .int .i64 ((KK : Int) + 1 + (m.n.kids.length : Int)) ∧ KRow lo m.kv (mksI (KK + 1) m.n.kids.length) w' ∧ w1.grownBy w' (m.comp true)) (fun _ _ => by kernel_rfl) nd_under 0 (by kernel_rfl) F (by decide) (by decide) hlt hnl ck ?_ ?_
        · exact (markK lo (KK + 1) ((KK : Int) + 1) m.kv m.n.kids w1 hkl (by omega) (by omega) HKR.out).mono fun e w' ⟨he, h1, h2⟩ => ⟨_, he, rfl, h1, h2⟩
        intro a r w2 ⟨hr, hkr2, g2⟩ F
        subst hr
        -- the rest of the cells
        have hrow2 : w2.ownsRow lo 61 64 (.slice (some ⟨g, 0, none⟩) ms.length cap) ms.length ((cellsN ms).set (k * 64) (.int .i64 (KK : Int))) := World.ownsRow.kept HR1.out g2 (Or.inr fun e => HGN.out true g e.symm rfl)
        have htr2 : TRow lo m.tv m.n.rl m.n.rules w2 := by
          obtain ⟨a, c, e, hr⟩ := HTR.out
          by_cases h0 : m.n.rl = 0
          · exact ⟨a, c, e, Or.inl h0⟩
          · refine ⟨a, c, e, Or.inr (World.ownsRow.kept (hr.resolve_left h0) g2 ?_)⟩
            cases hx : m.tv.ownBlock with
            | none => exact Or.inl rfl
            | some b => exact Or.inr fun e => HIN.out b e.symm (by unfold ND.comp blk; rw [if_neg (by decide), if_neg h0]; exact hx)
        obtain ⟨B, eB⟩ : ∃ B : Nat, B = KK + 1 + m.n.kids.length := ⟨_, rfl⟩
        have hBi : ((KK : Int) + 1 + (m.n.kids.length : Int)) = ((B + 0 : Nat) : Int) := by omega
        have hBb : B ≤ 4100000000 := by omega
        have hP : MkP lo g cap ms0.length (k * 64 + 2) B ((cellsN ms).set (k * 64) (.int .i64 (KK : Int))) w2 0 w2 := ⟨by rw [← hml]; exact hrow2, World.grownBy.refl _ _⟩
        rw [hBi] at F
        refine then_n ?_
        repeat refine wp_seq ?_
        refine rg_i2 (s := 26) (N := 598) (j := 0) (d0 := 2) (d1 := 0) nd_under 59 (by kernel_rfl) sty_under 0 (by kernel_rfl) F (by decide) (by decide) hlt hnl hP (by omega) (by omega) (mkV_i B 0 (by decide)) ?_
        intro a u F hP
        refine then_n ?_
        repeat refine wp_seq ?_
        refine rg_inc (s := 32) (N := 598) F (by omega) (by omega) (by decide) (by decide) ?_
        intro a F
        rw [show ((B + 0 : Nat) : Int) + 1 = ((B + 1 : Nat) : Int) by omega] at F
        refine then_n ?_
        repeat refine wp_seq ?_
        refine rg_i2 (s := 34) (N := 598) (j := 1) (d0 := 2) (d1 := 1) nd_under 59 (by kernel_rfl) sty_under 0 (by kernel_rfl) F (by decide) (by decide) hlt hnl hP (by omega) (by omega) (mkV_i B 1 (by decide)) ?_
        intro a u F hP
        refine then_n ?_
        repeat refine wp_seq ?_
        refine rg_inc (s := 40) (N := 598) F (by omega) (by omega) (by decide) (by decide) ?_
        intro a F
        rw [show ((B + 1 : Nat) : Int) + 1 = ((B + 2 : Nat) : Int) by omega] at F
        refine then_n ?_
        repeat refine wp_seq ?_
        refine rg_i2 (s := 42) (N := 598) (j := 2) (d0 := 2) (d1 := 2) nd_under 59 (by kernel_rfl) sty_under 0 (by kernel_rfl) F (by decide) (by decide) hlt hnl hP (by omega) (by omega) (mkV_i B 2 (by decide)) ?_
        intro a u F hP
        refine then_n ?_
        repeat refine wp_seq ?_
        refine rg_inc (s := 48) (N := 598) F (by omega) (by omega) (by decide) (by decide) ?_
        intro a F
        rw [show ((B + 2 : Nat) : Int) + 1 = ((B + 3 : Nat) : Int) by omega] at F
        refine then_n ?_
        repeat refine wp_seq ?_
        refine rg_i2 (s := 50) (N := 598) (j := 3) (d0 := 2) (d1 := 3) nd_under 59 (by kernel_rfl) sty_under 0 (by kernel_rfl) F (by decide) (by decide) hlt hnl hP (by omega) (by omega) (mkV_i B 3 (by decide)) ?_
        intro a u F hP
        refine then_n ?_
        repeat refine wp_seq ?_
        refine rg_inc (s := 56) (N := 598) F (by omega) (by omega) (by decide) (by decide) ?_
        intro a F
        rw [show ((B + 3 : Nat) : Int) + 1 = ((B + 4 : Nat) : Int) by omega] at F
        refine then_n ?_
        repeat refine wp_seq ?_
        refine rg_i2 (s := 58) (N := 598) (j := 4) (d0 := 2) (d1 := 4) nd_under 59 (by kernel_rfl) sty_under 0 (by kernel_rfl) F (by decide) (by decide) hlt hnl hP (by omega) (by omega) (mkV_i B 4 (by decide)) ?_
        intro a u F hP
        refine then_n ?_
        repeat refine wp_seq ?_
        refine rg_inc (s := 64) (N := 598) F (by omega) (by omega) (by decide) (by decide) ?_
        intro a F
        rw [show ((B + 4 : Nat) : Int) + 1 = ((B + 5 : Nat) : Int) by omega] at F
        refine then_n ?_
        repeat refine wp_seq ?_
        refine rg_i2 (s := 66) (N := 598) (j := 5) (d0 := 2) (d1 := 5) nd_under 59 (by kernel_rfl) sty_under 0 (by kernel_rfl) F (by decide) (by decide) hlt hnl hP (by omega) (by omega) (mkV_i B 5 (by decide)) ?_
        intro a u F hP
        refine then_n ?_
        repeat refine wp_seq ?_
        refine rg_inc (s := 72) (N := 598) F (by omega) (by omega) (by decide) (by decide) ?_
        intro a F
        rw [show ((B + 5 : Nat) : Int) + 1 = ((B + 6 : Nat) : Int) by omega] at F
        refine then_n ?_
        repeat refine wp_seq ?_
        refine rg_b2 (s := 74) (N := 598) (j := 6) (d0 := 2) (d1 := 6) nd_under 59 (by kernel_rfl) sty_under 0 (by kernel_rfl) F (by omega) (by omega) (by decide) (by decide) hlt hnl hP (by omega) (by omega) (mkV_b B 6 (by decide)) ?_
        intro a u F hP
        refine then_n ?_
        repeat refine wp_seq ?_
        refine rg_inc (s := 82) (N := 598) F (by omega) (by omega) (by decide) (by decide) ?_
        intro a F
        rw [show ((B + 6 : Nat) : Int) + 1 = ((B + 7 : Nat) : Int) by omega] at F
        refine then_n ?_
        repeat refine wp_seq ?_
        refine rg_b2 (s := 84) (N := 598) (j := 7) (d0 := 2) (d1 := 7) nd_under 59 (by kernel_rfl) sty_under 0 (by kernel_rfl) F (by omega) (by omega) (by decide) (by decide) hlt hnl hP (by omega) (by omega) (mkV_b B 7 (by decide)) ?_
        intro a u F hP
        refine then_n ?_
        repeat refine wp_seq ?_
        refine rg_inc (s := 92) (N := 598) F (by omega) (by omega) (by decide) (by decide) ?_
        intro a F
        rw [show ((B + 7 : Nat) : Int) + 1 = ((B + 8 : Nat) : Int) by omega] at F
        refine then_n ?_
        repeat refine wp_seq ?_
        refine rg_i2 (s := 94) (N := 598) (j := 8) (d0 := 2) (d1 := 8) nd_under 59 (by kernel_rfl) sty_under 0 (by kernel_rfl) F (by decide) (by decide) hlt hnl hP (by omega) (by omega) (mkV_i B 8 (by decide)) ?_
        intro a u F hP
        refine then_n ?_
        repeat refine wp_seq ?_
        refine rg_inc (s := 100) (N := 598) F (by omega) (by omega) (by decide) (by decide) ?_
        intro a F
        rw [show ((B + 8 : Nat) : Int) + 1 = ((B + 9 : Nat) : Int) by omega] at F
        refine then_n ?_
        repeat refine wp_seq ?_
        refine rg_i2 (s := 102) (N := 598) (j := 9) (d0 := 2) (d1 := 9) nd_under 59 (by kernel_rfl) sty_under 0 (by kernel_rfl) F (by decide) (by decide) hlt hnl hP (by omega) (by omega) (mkV_i B 9 (by decide)) ?_
        intro a u F hP
        refine then_n ?_
        repeat refine wp_seq ?_
        refine rg_inc (s := 108) (N := 598) F (by omega) (by omega) (by decide) (by decide) ?_
        intro a F
        rw [show ((B + 9 : Nat) : Int) + 1 = ((B + 10 : Nat) : Int) by omega] at F
        refine then_n ?_
        repeat refine wp_seq ?_
        refine rg_i2 (s := 110) (N := 598) (j := 10) (d0 := 2) (d1 := 10) nd_under 59 (by kernel_rfl) sty_under 0 (by kernel_rfl) F (by decide) (by decide) hlt hnl hP (by omega) (by omega) (mkV_i B 10 (by decide)) ?_
        intro a u F hP
        refine then_n ?_
        repeat refine wp_seq ?_
        refine rg_inc (s := 116) (N := 598) F (by omega) (by omega) (by decide) (by decide) ?_
        intro a F
        rw [show ((B + 10 : Nat) : Int) + 1 = ((B + 11 : Nat) : Int) by omega] at F
        refine then_n ?_
        repeat refine wp_seq ?_
        refine rg_i3 (s := 118) (N := 598) (j := 11) (d0 := 2) (d1 := 11) (d2 := 0) nd_under 59 (by kernel_rfl) sty_under 1 (by kernel_rfl) HU35 0 (by kernel_rfl) F (by decide) (by decide) hlt hnl hP (by omega) (by omega) (mkV_i B 11 (by decide)) ?_
        intro a u F hP
        refine then_n ?_
        repeat refine wp_seq ?_
        refine rg_inc (s := 125) (N := 598) F (by omega) (by omega) (by decide) (by decide) ?_
        intro a F
        rw [show ((B + 11 : Nat) : Int) + 1 = ((B + 12 : Nat) : Int) by omega] at F
        refine then_n ?_
        repeat refine wp_seq ?_
        refine rg_i3 (s := 127) (N := 598) (j := 12) (d0 := 2) (d1 := 11) (d2 := 1) nd_under 59 (by kernel_rfl) sty_under 1 (by kernel_rfl) HU35 0 (by kernel_rfl) F (by decide) (by decide) hlt hnl hP (by omega) (by omega) (mkV_i B 12 (by decide)) ?_
        intro a u F hP
        refine then_n ?_
        repeat refine wp_seq ?_
        refine rg_inc (s := 134) (N := 598) F (by omega) (by omega) (by decide) (by decide) ?_
        intro a F
        rw [show ((B + 12 : Nat) : Int) + 1 = ((B + 13 : Nat) : Int) by omega] at F
        refine then_n ?_
        repeat refine wp_seq ?_
        refine rg_i3 (s := 136) (N := 598) (j := 13) (d0 := 2) (d1 := 13) (d2 := 0) nd_under 59 (by kernel_rfl) sty_under 1 (by kernel_rfl) HU35 0 (by kernel_rfl) F (by decide) (by decide) hlt hnl hP (by omega) (by omega) (mkV_i B 13 (by decide)) ?_
        intro a u F hP
        refine then_n ?_
        repeat refine wp_seq ?_
        refine rg_inc (s := 143) (N := 598) F (by omega) (by omega) (by decide) (by decide) ?_
        intro a F
        rw [show ((B + 13 : Nat) : Int) + 1 = ((B + 14 : Nat) : Int) by omega] at F
        refine then_n ?_
        repeat refine wp_seq ?_
        refine rg_i3 (s := 145) (N := 598) (j := 14) (d0 := 2) (d1 := 13) (d2 := 1) nd_under 59 (by kernel_rfl) sty_under 1 (by kernel_rfl) HU35 0 (by kernel_rfl) F (by decide) (by decide) hlt hnl hP (by omega) (by omega) (mkV_i B 14 (by decide)) ?_
        intro a u F hP
        refine then_n ?_
        repeat refine wp_seq ?_
        refine rg_inc (s := 152) (N := 598) F (by omega) (by omega) (by decide) (by decide) ?_
        intro a F
        rw [show ((B + 14 : Nat) : Int) + 1 = ((B + 15 : Nat) : Int) by omega] at F
        refine then_n ?_
        repeat refine wp_seq ?_
        refine rg_i3 (s := 154) (N := 598) (j := 15) (d0 := 2) (d1 := 15) (d2 := 0) nd_under 59 (by kernel_rfl) sty_under 1 (by kernel_rfl) HU35 0 (by kernel_rfl) F (by decide) (by decide) hlt hnl hP (by omega) (by omega) (mkV_i B 15 (by decide)) ?_
        intro a u F hP
        refine then_n ?_
        repeat refine wp_seq ?_
        refine rg_inc (s := 161) (N := 598) F (by omega) (by omega) (by decide) (by decide) ?_
        intro a F
        rw [show ((B + 15 : Nat) : Int) + 1 = ((B + 16 : Nat) : Int) by omega] at F
        refine then_n ?_
        repeat refine wp_seq ?_
        refine rg_i3 (s := 163) (N := 598) (j := 16) (d0 := 2) (d1 := 15) (d2 := 1) nd_under 59 (by kernel_rfl) sty_under 1 (by kernel_rfl) HU35 0 (by kernel_rfl) F (by decide) (by decide) hlt hnl hP (by omega) (by omega) (mkV_i B 16 (by decide)) ?_
        intro a u F hP
        refine then_n ?_
        repeat refine wp_seq ?_
        refine rg_inc (s := 170) (N := 598) F (by omega) (by omega) (by decide) (by decide) ?_
        intro a F
        rw [show ((B + 16 : Nat) : Int) + 1 = ((B + 17 : Nat) : Int) by omega] at F
        refine then_n ?_
        repeat refine wp_seq ?_
        refine rg_i3 (s := 172) (N := 598) (j := 17) (d0 := 2) (d1 := 17) (d2 := 0) nd_under 59 (by kernel_rfl) sty_under 1 (by kernel_rfl) HU35 0 (by kernel_rfl) F (by decide) (by decide) hlt hnl hP (by omega) (by omega) (mkV_i B 17 (by decide)) ?_
        intro a u F hP
        refine then_n ?_
        repeat refine wp_seq ?_
        refine rg_inc (s := 179) (N := 598) F (by omega) (by omega) (by decide) (by decide) ?_
        intro a F
        rw [show ((B + 17 : Nat) : Int) + 1 = ((B + 18 : Nat) : Int) by omega] at F
        refine then_n ?_
        repeat refine wp_seq ?_
        refine rg_i3 (s := 181) (N := 598) (j := 18) (d0 := 2) (d1 := 17) (d2 := 1) nd_under 59 (by kernel_rfl) sty_under 1 (by kernel_rfl) HU35 0 (by kernel_rfl) F (by decide) (by decide) hlt hnl hP (by omega) (by omega) (mkV_i B 18 (by decide)) ?_
        intro a u F hP
        refine then_n ?_
        repeat refine wp_seq ?_
        refine rg_inc (s := 188) (N := 598) F (by omega) (by omega) (by decide) (by decide) ?_
        intro a F
        rw [show ((B + 18 : Nat) : Int) + 1 = ((B + 19 : Nat) : Int) by omega] at F
        refine then_n ?_
        repeat refine wp_seq ?_
        refine rg_i3 (s := 190) (N := 598) (j := 19) (d0 := 2) (d1 := 19) (d2 := 0) nd_under 59 (by kernel_rfl) sty_under 1 (by kernel_rfl) HU35 0 (by kernel_rfl) F (by decide) (by decide) hlt hnl hP (by omega) (by omega) (mkV_i B 19 (by decide)) ?_
        intro a u F hP
        refine then_n ?_
        repeat refine wp_seq ?_
        refine rg_inc (s := 197) (N := 598) F (by omega) (by omega) (by decide) (by decide) ?_
        intro a F
        rw [show ((B + 19 : Nat) : Int) + 1 = ((B + 20 : Nat) : Int) by omega] at F
        refine then_n ?_
        repeat refine wp_seq ?_
        refine rg_i3 (s := 199) (N := 598) (j := 20) (d0 := 2) (d1 := 19) (d2 := 1) nd_under 59 (by kernel_rfl) sty_under 1 (by kernel_rfl) HU35 0 (by kernel_rfl) F (by decide) (by decide) hlt hnl hP (by omega) (by omega) (mkV_i B 20 (by decide)) ?_
        intro a u F hP
        refine then_n ?_
        repeat refine wp_seq ?_
        refine rg_inc (s := 206) (N := 598) F (by omega) (by omega) (by decide) (by decide) ?_
        intro a F
        rw [show ((B + 20 : Nat) : Int) + 1 = ((B + 21 : Nat) : Int) by omega] at F
        refine then_n ?_
        repeat refine wp_seq ?_
        refine rg_i3 (s := 208) (N := 598) (j := 21) (d0 := 2) (d1 := 21) (d2 := 0) nd_under 59 (by kernel_rfl) sty_under 1 (by kernel_rfl) HU35 0 (by kernel_rfl) F (by decide) (by decide) hlt hnl hP (by omega) (by omega) (mkV_i B 21 (by decide)) ?_
        intro a u F hP
        refine then_n ?_
        repeat refine wp_seq ?_
        refine rg_inc (s := 215) (N := 598) F (by omega) (by omega) (by decide) (by decide) ?_
        intro a F
        rw [show ((B + 21 : Nat) : Int) + 1 = ((B + 22 : Nat) : Int) by omega] at F
        refine then_n ?_
        repeat refine wp_seq ?_
        refine rg_i3 (s := 217) (N := 598) (j := 22) (d0 := 2) (d1 := 21) (d2 := 1) nd_under 59 (by kernel_rfl) sty_under 1 (by kernel_rfl) HU35 0 (by kernel_rfl) F (by decide) (by decide) hlt hnl hP (by omega) (by omega) (mkV_i B 22 (by decide)) ?_
        intro a u F hP
        refine then_n ?_
        repeat refine wp_seq ?_
        refine rg_inc (s := 224) (N := 598) F (by omega) (by omega) (by decide) (by decide) ?_
        intro a F
        rw [show ((B + 22 : Nat) : Int) + 1 = ((B + 23 : Nat) : Int) by omega] at F
        refine then_n ?_
        repeat refine wp_seq ?_
        refine rg_i3 (s := 226) (N := 598) (j := 23) (d0 := 2) (d1 := 23) (d2 := 0) nd_under 59 (by kernel_rfl) sty_under 1 (by kernel_rfl) HU35 0 (by kernel_rfl) F (by decide) (by decide) hlt hnl hP (by omega) (by omega) (mkV_i B 23 (by decide)) ?_
        intro a u F hP
        refine then_n ?_
        repeat refine wp_seq ?_
        refine rg_inc (s := 233) (N := 598) F (by omega) (by omega) (by decide) (by decide) ?_
        intro a F
        rw [show ((B + 23 : Nat) : Int) + 1 = ((B + 24 : Nat) : Int) by omega] at F
        refine then_n ?_
        repeat refine wp_seq ?_
        refine rg_i3 (s := 235) (N := 598) (j := 24) (d0 := 2) (d1 := 23) (d2 := 1) nd_under 59 (by kernel_rfl) sty_under 1 (by kernel_rfl) HU35 0 (by kernel_rfl) F (by decide) (by decide) hlt hnl hP (by omega) (by omega) (mkV_i B 24 (by decide)) ?_
        intro a u F hP
        refine then_n ?_
        repeat refine wp_seq ?_
        refine rg_inc (s := 242) (N := 598) F (by omega) (by omega) (by decide) (by decide) ?_
        intro a F
        rw [show ((B + 24 : Nat) : Int) + 1 = ((B + 25 : Nat) : Int) by omega] at F
        refine then_n ?_
        repeat refine wp_seq ?_
        refine rg_i2 (s := 244) (N := 598) (j := 25) (d0 := 2) (d1 := 25) nd_under 59 (by kernel_rfl) sty_under 0 (by kernel_rfl) F (by decide) (by decide) hlt hnl hP (by omega) (by omega) (mkV_i B 25 (by decide)) ?_
        intro a u F hP
        refine then_n ?_
        repeat refine wp_seq ?_
        refine rg_inc (s := 250) (N := 598) F (by omega) (by omega) (by decide) (by decide) ?_
        intro a F
        rw [show ((B + 25 : Nat) : Int) + 1 = ((B + 26 : Nat) : Int) by omega] at F
        refine then_n ?_
        repeat refine wp_seq ?_
        refine rg_i4 (s := 252) (N := 598) (j := 26) (d0 := 2) (d1 := 26) (d2 := 0) (d3 := 0) nd_under 59 (by kernel_rfl) sty_under 11 (by kernel_rfl) HU37 1 (by kernel_rfl) HU35 0 (by kernel_rfl) F (by decide) (by decide) hlt hnl hP (by omega) (by omega) (mkV_i B 26 (by decide)) ?_
        intro a u F hP
        refine then_n ?_
        repeat refine wp_seq ?_
        refine rg_inc (s := 260) (N := 598) F (by omega) (by omega) (by decide) (by decide) ?_
        intro a F
        rw [show ((B + 26 : Nat) : Int) + 1 = ((B + 27 : Nat) : Int) by omega] at F
        refine then_n ?_
        repeat refine wp_seq ?_
        refine rg_i4 (s := 262) (N := 598) (j := 27) (d0 := 2) (d1 := 26) (d2 := 0) (d3 := 1) nd_under 59 (by kernel_rfl) sty_under 11 (by kernel_rfl) HU37 1 (by kernel_rfl) HU35 0 (by kernel_rfl) F (by decide) (by decide) hlt hnl hP (by omega) (by omega) (mkV_i B 27 (by decide)) ?_
        intro a u F hP
        refine then_n ?_
        repeat refine wp_seq ?_
        refine rg_inc (s := 270) (N := 598) F (by omega) (by omega) (by decide) (by decide) ?_
        intro a F
        rw [show ((B + 27 : Nat) : Int) + 1 = ((B + 28 : Nat) : Int) by omega] at F
        refine then_n ?_
        repeat refine wp_seq ?_
        refine rg_i4 (s := 272) (N := 598) (j := 28) (d0 := 2) (d1 := 26) (d2 := 2) (d3 := 0) nd_under 59 (by kernel_rfl) sty_under 11 (by kernel_rfl) HU37 1 (by kernel_rfl) HU35 0 (by kernel_rfl) F (by decide) (by decide) hlt hnl hP (by omega) (by omega) (mkV_i B 28 (by decide)) ?_
        intro a u F hP
        refine then_n ?_
        repeat refine wp_seq ?_
        refine rg_inc (s := 280) (N := 598) F (by omega) (by omega) (by decide) (by decide) ?_
        intro a F
        rw [show ((B + 28 : Nat) : Int) + 1 = ((B + 29 : Nat) : Int) by omega] at F
        refine then_n ?_
        repeat refine wp_seq ?_
        refine rg_i4 (s := 282) (N := 598) (j := 29) (d0 := 2) (d1 := 26) (d2 := 2) (d3 := 1) nd_under 59 (by kernel_rfl) sty_under 11 (by kernel_rfl) HU37 1 (by kernel_rfl) HU35 0 (by kernel_rfl) F (by decide) (by decide) hlt hnl hP (by omega) (by omega) (mkV_i B 29 (by decide)) ?_
        intro a u F hP
        refine then_n ?_
        repeat refine wp_seq ?_
        refine rg_inc (s := 290) (N := 598) F (by omega) (by omega) (by decide) (by decide) ?_
        intro a F
        rw [show ((B + 29 : Nat) : Int) + 1 = ((B + 30 : Nat) : Int) by omega] at F
        refine then_n ?_
        repeat refine wp_seq ?_
        refine rg_i4 (s := 292) (N := 598) (j := 30) (d0 := 2) (d1 := 26) (d2 := 4) (d3 := 0) nd_under 59 (by kernel_rfl) sty_under 11 (by kernel_rfl) HU37 1 (by kernel_rfl) HU35 0 (by kernel_rfl) F (by decide) (by decide) hlt hnl hP (by omega) (by omega) (mkV_i B 30 (by decide)) ?_
        intro a u F hP
        refine then_n ?_
        repeat refine wp_seq ?_
        refine rg_inc (s := 300) (N := 598) F (by omega) (by omega) (by decide) (by decide) ?_
        intro a F
        rw [show ((B + 30 : Nat) : Int) + 1 = ((B + 31 : Nat) : Int) by omega] at F
        refine then_n ?_
        repeat refine wp_seq ?_
        refine rg_i4 (s := 302) (N := 598) (j := 31) (d0 := 2) (d1 := 26) (d2 := 4) (d3 := 1) nd_under 59 (by kernel_rfl) sty_under 11 (by kernel_rfl) HU37 1 (by kernel_rfl) HU35 0 (by kernel_rfl) F (by decide) (by decide) hlt hnl hP (by omega) (by omega) (mkV_i B 31 (by decide)) ?_
        intro a u F hP
        refine then_n ?_
        repeat refine wp_seq ?_
        refine rg_inc (s := 310) (N := 598) F (by omega) (by omega) (by decide) (by decide) ?_
        intro a F
        rw [show ((B + 31 : Nat) : Int) + 1 = ((B + 32 : Nat) : Int) by omega] at F
        refine then_n ?_
        repeat refine wp_seq ?_
        refine rg_i4 (s := 312) (N := 598) (j := 32) (d0 := 2) (d1 := 26) (d2 := 6) (d3 := 0) nd_under 59 (by kernel_rfl) sty_under 11 (by kernel_rfl) HU37 1 (by kernel_rfl) HU35 0 (by kernel_rfl) F (by decide) (by decide) hlt hnl hP (by omega) (by omega) (mkV_i B 32 (by decide)) ?_
        intro a u F hP
        refine then_n ?_
        repeat refine wp_seq ?_
        refine rg_inc (s := 320) (N := 598) F (by omega) (by omega) (by decide) (by decide) ?_
        intro a F
        rw [show ((B + 32 : Nat) : Int) + 1 = ((B + 33 : Nat) : Int) by omega] at F
        refine then_n ?_
        repeat refine wp_seq ?_
        refine rg_i4 (s := 322) (N := 598) (j := 33) (d0 := 2) (d1 := 26) (d2 := 6) (d3 := 1) nd_under 59 (by kernel_rfl) sty_under 11 (by kernel_rfl) HU37 1 (by kernel_rfl) HU35 0 (by kernel_rfl) F (by decide) (by decide) hlt hnl hP (by omega) (by omega) (mkV_i B 33 (by decide)) ?_
        intro a u F hP
        refine then_n ?_
        repeat refine wp_seq ?_
        refine rg_inc (s := 330) (N := 598) F (by omega) (by omega) (by decide) (by decide) ?_
        intro a F
        rw [show ((B + 33 : Nat) : Int) + 1 = ((B + 34 : Nat) : Int) by omega] at F
        refine then_n ?_
        repeat refine wp_seq ?_
        refine rg_i4 (s := 332) (N := 598) (j := 34) (d0 := 2) (d1 := 26) (d2 := 8) (d3 := 0) nd_under 59 (by kernel_rfl) sty_under 11 (by kernel_rfl) HU37 1 (by kernel_rfl) HU35 0 (by kernel_rfl) F (by decide) (by decide) hlt hnl hP (by omega) (by omega) (mkV_i B 34 (by decide)) ?_
        intro a u F hP
        refine then_n ?_
        repeat refine wp_seq ?_
        refine rg_inc (s := 340) (N := 598) F (by omega) (by omega) (by decide) (by decide) ?_
        intro a F
        rw [show ((B + 34 : Nat) : Int) + 1 = ((B + 35 : Nat) : Int) by omega] at F
        refine then_n ?_
        repeat refine wp_seq ?_
        refine rg_i4 (s := 342) (N := 598) (j := 35) (d0 := 2) (d1 := 26) (d2 := 8) (d3 := 1) nd_under 59 (by kernel_rfl) sty_under 11 (by kernel_rfl) HU37 1 (by kernel_rfl) HU35 0 (by kernel_rfl) F (by decide) (by decide) hlt hnl hP (by omega) (by omega) (mkV_i B 35 (by decide)) ?_
        intro a u F hP
        refine then_n ?_
        repeat refine wp_seq ?_
        refine rg_inc (s := 350) (N := 598) F (by omega) (by omega) (by decide) (by decide) ?_
        intro a F
        rw [show ((B + 35 : Nat) : Int) + 1 = ((B + 36 : Nat) : Int) by omega] at F
        refine then_n ?_
        repeat refine wp_seq ?_
        refine rg_i4 (s := 352) (N := 598) (j := 36) (d0 := 2) (d1 := 26) (d2 := 10) (d3 := 0) nd_under 59 (by kernel_rfl) sty_under 11 (by kernel_rfl) HU37 1 (by kernel_rfl) HU35 0 (by kernel_rfl) F (by decide) (by decide) hlt hnl hP (by omega) (by omega) (mkV_i B 36 (by decide)) ?_
        intro a u F hP
        refine then_n ?_
        repeat refine wp_seq ?_
        refine rg_inc (s := 360) (N := 598) F (by omega) (by omega) (by decide) (by decide) ?_
        intro a F
        rw [show ((B + 36 : Nat) : Int) + 1 = ((B + 37 : Nat) : Int) by omega] at F
        refine then_n ?_
        repeat refine wp_seq ?_
        refine rg_i4 (s := 362) (N := 598) (j := 37) (d0 := 2) (d1 := 26) (d2 := 10) (d3 := 1) nd_under 59 (by kernel_rfl) sty_under 11 (by kernel_rfl) HU37 1 (by kernel_rfl) HU35 0 (by kernel_rfl) F (by decide) (by decide) hlt hnl hP (by omega) (by omega) (mkV_i B 37 (by decide)) ?_
        intro a u F hP
        refine then_n ?_
        repeat refine wp_seq ?_
        refine rg_inc (s := 370) (N := 598) F (by omega) (by omega) (by decide) (by decide) ?_
        intro a F
        rw [show ((B + 37 : Nat) : Int) + 1 = ((B + 38 : Nat) : Int) by omega] at F
        refine then_n ?_
        repeat refine wp_seq ?_
        refine rg_i4 (s := 372) (N := 598) (j := 38) (d0 := 2) (d1 := 38) (d2 := 0) (d3 := 0) nd_under 59 (by kernel_rfl) sty_under 11 (by kernel_rfl) HU37 1 (by kernel_rfl) HU35 0 (by kernel_rfl) F (by decide) (by decide) hlt hnl hP (by omega) (by omega) (mkV_i B 38 (by decide)) ?_
        intro a u F hP
        refine then_n ?_
        repeat refine wp_seq ?_
        refine rg_inc (s := 380) (N := 598) F (by omega) (by omega) (by decide) (by decide) ?_
        intro a F
        rw [show ((B + 38 : Nat) : Int) + 1 = ((B + 39 : Nat) : Int) by omega] at F
        refine then_n ?_
        repeat refine wp_seq ?_
        refine rg_i4 (s := 382) (N := 598) (j := 39) (d0 := 2) (d1 := 38) (d2 := 0) (d3 := 1) nd_under 59 (by kernel_rfl) sty_under 11 (by kernel_rfl) HU37 1 (by kernel_rfl) HU35 0 (by kernel_rfl) F (by decide) (by decide) hlt hnl hP (by omega) (by omega) (mkV_i B 39 (by decide)) ?_
        intro a u F hP
        refine then_n ?_
        repeat refine wp_seq ?_
        refine rg_inc (s := 390) (N := 598) F (by omega) (by omega) (by decide) (by decide) ?_
        intro a F
        rw [show ((B + 39 : Nat) : Int) + 1 = ((B + 40 : Nat) : Int) by omega] at F
        refine then_n ?_
        repeat refine wp_seq ?_
        refine rg_i4 (s := 392) (N := 598) (j := 40) (d0 := 2) (d1 := 38) (d2 := 2) (d3 := 0) nd_under 59 (by kernel_rfl) sty_under 11 (by kernel_rfl) HU37 1 (by kernel_rfl) HU35 0 (by kernel_rfl) F (by decide) (by decide) hlt hnl hP (by omega) (by omega) (mkV_i B 40 (by decide)) ?_
        intro a u F hP
        refine then_n ?_
        repeat refine wp_seq ?_
        refine rg_inc (s := 400) (N := 598) F (by omega) (by omega) (by decide) (by decide) ?_
        intro a F
        rw [show ((B + 40 : Nat) : Int) + 1 = ((B + 41 : Nat) : Int) by omega] at F
        refine then_n ?_
        repeat refine wp_seq ?_
        refine rg_i4 (s := 402) (N := 598) (j := 41) (d0 := 2) (d1 := 38) (d2 := 2) (d3 := 1) nd_under 59 (by kernel_rfl) sty_under 11 (by kernel_rfl) HU37 1 (by kernel_rfl) HU35 0 (by kernel_rfl) F (by decide) (by decide) hlt hnl hP (by omega) (by omega) (mkV_i B 41 (by decide)) ?_
        intro a u F hP
        refine then_n ?_
        repeat refine wp_seq ?_
        refine rg_inc (s := 410) (N := 598) F (by omega) (by omega) (by decide) (by decide) ?_
        intro a F
        rw [show ((B + 41 : Nat) : Int) + 1 = ((B + 42 : Nat) : Int) by omega] at F
        refine then_n ?_
        repeat refine wp_seq ?_
        refine rg_i4 (s := 412) (N := 598) (j := 42) (d0 := 2) (d1 := 38) (d2 := 4) (d3 := 0) nd_under 59 (by kernel_rfl) sty_under 11 (by kernel_rfl) HU37 1 (by kernel_rfl) HU35 0 (by kernel_rfl) F (by decide) (by decide) hlt hnl hP (by omega) (by omega) (mkV_i B 42 (by decide)) ?_
        intro a u F hP
        refine then_n ?_
        repeat refine wp_seq ?_
        refine rg_inc (s := 420) (N := 598) F (by omega) (by omega) (by decide) (by decide) ?_
        intro a F
        rw [show ((B + 42 : Nat) : Int) + 1 = ((B + 43 : Nat) : Int) by omega] at F
        refine then_n ?_
        repeat refine wp_seq ?_
        refine rg_i4 (s := 422) (N := 598) (j := 43) (d0 := 2) (d1 := 38) (d2 := 4) (d3 := 1) nd_under 59 (by kernel_rfl) sty_under 11 (by kernel_rfl) HU37 1 (by kernel_rfl) HU35 0 (by kernel_rfl) F (by decide) (by decide) hlt hnl hP (by omega) (by omega) (mkV_i B 43 (by decide)) ?_
        intro a u F hP
        refine then_n ?_
        repeat refine wp_seq ?_
        refine rg_inc (s := 430) (N := 598) F (by omega) (by omega) (by decide) (by decide) ?_
        intro a F
        rw [show ((B + 43 : Nat) : Int) + 1 = ((B + 44 : Nat) : Int) by omega] at F
        refine then_n ?_
        repeat refine wp_seq ?_
        refine rg_i4 (s := 432) (N := 598) (j := 44) (d0 := 2) (d1 := 38) (d2 := 6) (d3 := 0) nd_under 59 (by kernel_rfl) sty_under 11 (by kernel_rfl) HU37 1 (by kernel_rfl) HU35 0 (by kernel_rfl) F (by decide) (by decide) hlt hnl hP (by omega) (by omega) (mkV_i B 44 (by decide)) ?_
        intro a u F hP
        refine then_n ?_
        repeat refine wp_seq ?_
        refine rg_inc (s := 440) (N := 598) F (by omega) (by omega) (by decide) (by decide) ?_
        intro a F
        rw [show ((B + 44 : Nat) : Int) + 1 = ((B + 45 : Nat) : Int) by omega] at F
        refine then_n ?_
        repeat refine wp_seq ?_
        refine rg_i4 (s := 442) (N := 598) (j := 45) (d0 := 2) (d1 := 38) (d2 := 6) (d3 := 1) nd_under 59 (by kernel_rfl) sty_under 11 (by kernel_rfl) HU37 1 (by kernel_rfl) HU35 0 (by kernel_rfl) F (by decide) (by decide) hlt hnl hP (by omega) (by omega) (mkV_i B 45 (by decide)) ?_
        intro a u F hP
        refine then_n ?_
        repeat refine wp_seq ?_
        refine rg_inc (s := 450) (N := 598) F (by omega) (by omega) (by decide) (by decide) ?_
        intro a F
        rw [show ((B + 45 : Nat) : Int) + 1 = ((B + 46 : Nat) : Int) by omega] at F
        refine then_n ?_
        repeat refine wp_seq ?_
        refine rg_i4 (s := 452) (N := 598) (j := 46) (d0 := 2) (d1 := 38) (d2 := 8) (d3 := 0) nd_under 59 (by kernel_rfl) sty_under 11 (by kernel_rfl) HU37 1 (by kernel_rfl) HU35 0 (by kernel_rfl) F (by decide) (by decide) hlt hnl hP (by omega) (by omega) (mkV_i B 46 (by decide)) ?_
        intro a u F hP
        refine then_n ?_
        repeat refine wp_seq ?_
        refine rg_inc (s := 460) (N := 598) F (by omega) (by omega) (by decide) (by decide) ?_
        intro a F
        rw [show ((B + 46 : Nat) : Int) + 1 = ((B + 47 : Nat) : Int) by omega] at F
        refine then_n ?_
        repeat refine wp_seq ?_
        refine rg_i4 (s := 462) (N := 598) (j := 47) (d0 := 2) (d1 := 38) (d2 := 8) (d3 := 1) nd_under 59 (by kernel_rfl) sty_under 11 (by kernel_rfl) HU37 1 (by kernel_rfl) HU35 0 (by kernel_rfl) F (by decide) (by decide) hlt hnl hP (by omega) (by omega) (mkV_i B 47 (by decide)) ?_
        intro a u F hP
        refine then_n ?_
        repeat refine wp_seq ?_
        refine rg_inc (s := 470) (N := 598) F (by omega) (by omega) (by decide) (by decide) ?_
        intro a F
        rw [show ((B + 47 : Nat) : Int) + 1 = ((B + 48 : Nat) : Int) by omega] at F
        refine then_n ?_
        repeat refine wp_seq ?_
        refine rg_i4 (s := 472) (N := 598) (j := 48) (d0 := 2) (d1 := 38) (d2 := 10) (d3 := 0) nd_under 59 (by kernel_rfl) sty_under 11 (by kernel_rfl) HU37 1 (by kernel_rfl) HU35 0 (by kernel_rfl) F (by decide) (by decide) hlt hnl hP (by omega) (by omega) (mkV_i B 48 (by decide)) ?_
        intro a u F hP
        refine then_n ?_
        repeat refine wp_seq ?_
        refine rg_inc (s := 480) (N := 598) F (by omega) (by omega) (by decide) (by decide) ?_
        intro a F
        rw [show ((B + 48 : Nat) : Int) + 1 = ((B + 49 : Nat) : Int) by omega] at F
        refine then_n ?_
        repeat refine wp_seq ?_
        refine rg_i4 (s := 482) (N := 598) (j := 49) (d0 := 2) (d1 := 38) (d2 := 10) (d3 := 1) nd_under 59 (by kernel_rfl) sty_under 11 (by kernel_rfl) HU37 1 (by kernel_rfl) HU35 0 (by kernel_rfl) F (by decide) (by decide) hlt hnl hP (by omega) (by omega) (mkV_i B 49 (by decide)) ?_
        intro a u F hP
        refine then_n ?_
        repeat refine wp_seq ?_
        refine rg_inc (s := 490) (N := 598) F (by omega) (by omega) (by decide) (by decide) ?_
        intro a F
        rw [show ((B + 49 : Nat) : Int) + 1 = ((B + 50 : Nat) : Int) by omega] at F
        refine then_n ?_
        repeat refine wp_seq ?_
        refine rg_i3 (s := 492) (N := 598) (j := 50) (d0 := 2) (d1 := 50) (d2 := 0) nd_under 59 (by kernel_rfl) sty_under 3 (by kernel_rfl) HU39 0 (by kernel_rfl) F (by decide) (by decide) hlt hnl hP (by omega) (by omega) (mkV_i B 50 (by decide)) ?_
        intro a u F hP
        refine then_n ?_
        repeat refine wp_seq ?_
        refine rg_inc (s := 499) (N := 598) F (by omega) (by omega) (by decide) (by decide) ?_
        intro a F
        rw [show ((B + 50 : Nat) : Int) + 1 = ((B + 51 : Nat) : Int) by omega] at F
        refine then_n ?_
        repeat refine wp_seq ?_
        refine rg_i3 (s := 501) (N := 598) (j := 51) (d0 := 2) (d1 := 50) (d2 := 1) nd_under 59 (by kernel_rfl) sty_under 3 (by kernel_rfl) HU39 0 (by kernel_rfl) F (by decide) (by decide) hlt hnl hP (by omega) (by omega) (mkV_i B 51 (by decide)) ?_
        intro a u F hP
        refine then_n ?_
        repeat refine wp_seq ?_
        refine rg_inc (s := 508) (N := 598) F (by omega) (by omega) (by decide) (by decide) ?_
        intro a F
        rw [show ((B + 51 : Nat) : Int) + 1 = ((B + 52 : Nat) : Int) by omega] at F
        refine then_n ?_
        repeat refine wp_seq ?_
        refine rg_i3 (s := 510) (N := 598) (j := 52) (d0 := 2) (d1 := 50) (d2 := 2) nd_under 59 (by kernel_rfl) sty_under 3 (by kernel_rfl) HU39 0 (by kernel_rfl) F (by decide) (by decide) hlt hnl hP (by omega) (by omega) (mkV_i B 52 (by decide)) ?_
        intro a u F hP
        refine then_n ?_
        repeat refine wp_seq ?_
        refine rg_inc (s := 517) (N := 598) F (by omega) (by omega) (by decide) (by decide) ?_
        intro a F
        rw [show ((B + 52 : Nat) : Int) + 1 = ((B + 53 : Nat) : Int) by omega] at F
        refine then_n ?_
        repeat refine wp_seq ?_
        refine rg_i3 (s := 519) (N := 598) (j := 53) (d0 := 2) (d1 := 50) (d2 := 3) nd_under 59 (by kernel_rfl) sty_under 3 (by kernel_rfl) HU39 0 (by kernel_rfl) F (by decide) (by decide) hlt hnl hP (by omega) (by omega) (mkV_i B 53 (by decide)) ?_
        intro a u F hP
        refine then_n ?_
        repeat refine wp_seq ?_
        refine rg_inc (s := 526) (N := 598) F (by omega) (by omega) (by decide) (by decide) ?_
        intro a F
        rw [show ((B + 53 : Nat) : Int) + 1 = ((B + 54 : Nat) : Int) by omega] at F
        refine then_n ?_
        repeat refine wp_seq ?_
        refine rg_i3 (s := 528) (N := 598) (j := 54) (d0 := 2) (d1 := 54) (d2 := 0) nd_under 59 (by kernel_rfl) sty_under 3 (by kernel_rfl) HU39 0 (by kernel_rfl) F (by decide) (by decide) hlt hnl hP (by omega) (by omega) (mkV_i B 54 (by decide)) ?_
        intro a u F hP
        refine then_n ?_
        repeat refine wp_seq ?_
        refine rg_inc (s := 535) (N := 598) F (by omega) (by omega) (by decide) (by decide) ?_
        intro a F
        rw [show ((B + 54 : Nat) : Int) + 1 = ((B + 55 : Nat) : Int) by omega] at F
        refine then_n ?_
        repeat refine wp_seq ?_
        refine rg_i3 (s := 537) (N := 598) (j := 55) (d0 := 2) (d1 := 54) (d2 := 1) nd_under 59 (by kernel_rfl) sty_under 3 (by kernel_rfl) HU39 0 (by kernel_rfl) F (by decide) (by decide) hlt hnl hP (by omega) (by omega) (mkV_i B 55 (by decide)) ?_
        intro a u F hP
        refine then_n ?_
        repeat refine wp_seq ?_
        refine rg_inc (s := 544) (N := 598) F (by omega) (by omega) (by decide) (by decide) ?_
        intro a F
        rw [show ((B + 55 : Nat) : Int) + 1 = ((B + 56 : Nat) : Int) by omega] at F
        refine then_n ?_
        repeat refine wp_seq ?_
        refine rg_i3 (s := 546) (N := 598) (j := 56) (d0 := 2) (d1 := 54) (d2 := 2) nd_under 59 (by kernel_rfl) sty_under 3 (by kernel_rfl) HU39 0 (by kernel_rfl) F (by decide) (by decide) hlt hnl hP (by omega) (by omega) (mkV_i B 56 (by decide)) ?_
        intro a u F hP
        refine then_n ?_
        repeat refine wp_seq ?_
        refine rg_inc (s := 553) (N := 598) F (by omega) (by omega) (by decide) (by decide) ?_
        intro a F
        rw [show ((B + 56 : Nat) : Int) + 1 = ((B + 57 : Nat) : Int) by omega] at F
        refine then_n ?_
        repeat refine wp_seq ?_
        refine rg_i3 (s := 555) (N := 598) (j := 57) (d0 := 2) (d1 := 54) (d2 := 3) nd_under 59 (by kernel_rfl) sty_under 3 (by kernel_rfl) HU39 0 (by kernel_rfl) F (by decide) (by decide) hlt hnl hP (by omega) (by omega) (mkV_i B 57 (by decide)) ?_
        intro a u F hP
        refine then_n ?_
        repeat refine wp_seq ?_
        refine rg_inc (s := 562) (N := 598) F (by omega) (by omega) (by decide) (by decide) ?_
        intro a F
        rw [show ((B + 57 : Nat) : Int) + 1 = ((B + 58 : Nat) : Int) by omega] at F
        refine then_n ?_
        repeat refine wp_seq ?_
        refine rg_i2 (s := 564) (N := 598) (j := 58) (d0 := 2) (d1 := 58) nd_under 59 (by kernel_rfl) sty_under 0 (by kernel_rfl) F (by decide) (by decide) hlt hnl hP (by omega) (by omega) (mkV_i B 58 (by decide)) ?_
        intro a u F hP
        refine then_n ?_
        repeat refine wp_seq ?_
        refine rg_inc (s := 570) (N := 598) F (by omega) (by omega) (by decide) (by decide) ?_
        intro a F
        rw [show ((B + 58 : Nat) : Int) + 1 = ((B + 59 : Nat) : Int) by omega] at F
        refine then_n ?_
        repeat refine wp_seq ?_
        refine rg_i2 (s := 572) (N := 598) (j := 59) (d0 := 2) (d1 := 59) nd_under 59 (by kernel_rfl) sty_under 0 (by kernel_rfl) F (by decide) (by decide) hlt hnl hP (by omega) (by omega) (mkV_i B 59 (by decide)) ?_
        intro a u F hP
        refine then_n ?_
        repeat refine wp_seq ?_
        refine rg_inc (s := 578) (N := 598) F (by omega) (by omega) (by decide) (by decide) ?_
        intro a F
        rw [show ((B + 59 : Nat) : Int) + 1 = ((B + 60 : Nat) : Int) by omega] at F
        refine then_n ?_
        repeat refine wp_seq ?_
        refine rg_b1 (s := 580) (N := 598) (j := 60) (d0 := 62) nd_under 0 (by kernel_rfl) F (by omega) (by omega) (by decide) (by decide) hlt hnl hP (by omega) (by omega) (mkV_b B 60 (by decide)) ?_
        intro a u F hP
        refine then_n ?_
        repeat refine wp_seq ?_
        refine rg_inc (s := 587) (N := 598) F (by omega) (by omega) (by decide) (by decide) ?_
        intro a F
        rw [show ((B + 60 : Nat) : Int) + 1 = ((B + 61 : Nat) : Int) by omega] at F
        refine then_n ?_
        repeat refine wp_seq ?_
        have hrow3 := hP.1
        have g3 := hP.2
        rw [← hml] at hrow3
        (try rw [show (61 : Nat) = 60 + 1 from rfl] at hrow3)
        have hmr := marked_row ms hmi KK
        rw [← eB] at hmr
        rw [show (60 + 1 : Nat) = 61 from rfl, hmr] at hrow3
        have hc63 : u.cell? ⟨g, k * 64 + 63, none⟩ = some m.tv := by
          rw [World.ownsRow.cellAt hrow3 (k * 64 + 63) (by omega), cellsN_at _ k 63 (by omega), List.getElem?_set_self (by omega)]
          exact nL_tab
        have htr3 : TRow lo m.tv m.n.rl m.n.rules u := by
          obtain ⟨a, c, e, hr⟩ := htr2
          by_cases h0 : m.n.rl = 0
          · exact ⟨a, c, e, Or.inl h0⟩
          · refine ⟨a, c, e, Or.inr (World.ownsRow.kept (hr.resolve_left h0) g3 ?_)⟩
            cases hx : m.tv.ownBlock with
            | none => exact Or.inl rfl
            | some b => exact Or.inr fun e => HGN.out false b (by unfold ND.comp blk; rw [if_neg (by decide), if_neg h0]; exact hx) (by rw [e]; rfl)
        refine rg_rules (s := 589) (N := 598) (R := fun r w' => r = .int .i64 (((B + 61 : Nat) : Int) + (m.n.rl : Int) * 3) ∧ TRow lo m.tv m.n.rl (mksI (B + 61) (m.n.rl * 3)) w' ∧ u.grownBy w' (m.comp false)) (fun _ _ => by kernel_rfl) nd_under 0 (by kernel_rfl) (fs1 := Try.prog.fieldsOf 51) (by kernel_rfl) 0 (by kernel_rfl) F (by decide) (by decide) hlt hnl hc63 ?_ ?_
        · exact (markT lo (B + 61) (((B + 61 : Nat)) : Int) m.tv m.n.rl m.n.rules u htl (by omega) rfl htr3).mono fun e w' ⟨he, h1, h2⟩ => ⟨_, he, rfl, h1, h2⟩
        intro a r w9 ⟨hr, htr9, g9⟩ F
        subst hr
        refine inb_n ?_
        refine then_n ?_
        refine rg_inc5 (s := 10) (N := 598) F (by omega) (by omega) (by decide) (by decide) ?_
        intro a F
        -- the relation
        have hrow9 : w9.ownsRow lo 61 64 (.slice (some ⟨g, 0, none⟩) ms.length cap) ms.length (cellsN (ms.set k (mkM KK m))) := World.ownsRow.kept hrow3 g9 (Or.inr fun e => HGN.out false g e.symm rfl)
        have hkr9 : KRow lo m.kv (mksI (KK + 1) m.n.kids.length) w9 := by
          obtain ⟨a, c, e, hr⟩ := hkr2
          by_cases h0 : mksI (KK + 1) m.n.kids.length = []
          · exact ⟨a, c, e, Or.inl h0⟩
          · have hne : m.n.kids.length ≠ 0 := fun h => h0 (by rw [h]; rfl)
            have hb : ∀ b, m.kv.ownBlock = some b → m.comp true = some b := fun b hx => by unfold ND.comp blk; rw [if_pos rfl, if_neg hne]; exact hx
            refine ⟨a, c, e, Or.inr (World.ownsRow.kept (World.ownsRow.kept (hr.resolve_left h0) g3 ?_) g9 ?_)⟩
            · cases hx : m.kv.ownBlock with
              | none => exact Or.inl rfl
              | some b => exact Or.inr fun e => HGN.out true b (hb b hx) (by rw [e]; rfl)
            · cases hx : m.kv.ownBlock with
              | none => exact Or.inl rfl
              | some b => exact Or.inr fun e => HIN.out b (hb b hx) e.symm
        have hF9 := (((HF1.out.grown g2 (fun b h => HMB.out true b h)).grown g3 (fun b h => by cases h; exact HG.out)).grown g9 (fun b h => HMB.out false b h))
        have ho9 : OwnN lo (.slice (some ⟨g, 0, none⟩) ms.length cap) (ms.set k (mkM KK m)) w9 := HO.out.remark hmi rfl rfl (by simp [mkM, mkN, mksI_len]) rfl hrow9
          ⟨⟨⟨by show _ ≤ (KK : Int); omega, by show (KK : Int) ≤ _; omega⟩, mksI_all (by omega), mkF_all (by rw [← eB]; omega), mksI_all (by omega), by simp [mkM, mkN, mksI_len]⟩, by
            show KRow lo m.kv (mksI (KK + 1) m.n.kids.length) w9
            exact hkr9, by
            show TRow lo m.tv m.n.rl (mksI (KK + 1 + m.n.kids.length + 61) (m.n.rl * 3)) w9
            rw [← eB]; exact htr9⟩
          (fun q hq h1 h2 h3 => by
            rw [g9.block q (Nat.lt_of_lt_of_le (Nat.lt_of_lt_of_le (Nat.lt_of_lt_of_le hq G1.out.size) g2.size) g3.size) (fun e => h3 e.symm), g3.block q (Nat.lt_of_lt_of_le (Nat.lt_of_lt_of_le hq G1.out.size) g2.size) (fun e => h1 (by simpa using e)), g2.block q (Nat.lt_of_lt_of_le hq G1.out.size) (fun e => h2 e.symm), G1.out.block q hq (fun e => h1 (by simpa using e))])
          (Nat.le_trans G1.out.size (Nat.le_trans g2.size (Nat.le_trans g3.size g9.size)))
        refine ⟨⟨k + 1, by omega, ?_, ?_, hF9⟩, ?_⟩
        · have e1 : (((B + 61 : Nat) : Int) + (m.n.rl : Int) * 3) = ((nxL K (ms0.take (k + 1)) : Nat) : Int) := by rw [HNX.out]; unfold nxN; omega
          rw [e1, show ((k : Int) + 1) = ((k + 1 : Nat) : Int) by omega] at F
          exact F
        · rw [← HNEXT.out, ← hml]; exact ho9
        · show ms0.length - (intOf (a.eval (.tmp 5))).toNat < ms0.length - (intOf (a0.eval (.tmp 5))).toNat
          rw [F.e5, F0.e5]
          simp only [intOf]
          omega
    · obtain rfl : k = ms0.length := by omega
      refine wp_cond (t := false) (by rw [hcond, decide_eq_false (by omega)]) ?_
      refine wp_exit ?_
      rw [List.take_length, List.drop_length, List.append_nil] at ho
      rw [List.take_length] at F
      refine then_x ?_
      repeat (first | refine then_x ?_ | refine inb_x ?_ | refine then_n ?_ | refine inb_n ?_)
      rename_i Q' KQ hKQ Fx
      refine hKQ _ _ ?_
      refine wp_seq ?_
      refine rg_ret (N := 598) F (by decide) (by decide) ?_
      intro a' hd he
      refine then_n ?_
      refine wp_ret ?_
      refine ⟨hd, _, (results_tmp rfl _ _ _).trans ?_, rfl, ho, hf⟩
      rw [← he]
      rfl
set_option linter.unusedVariables false
set_option linter.unusedSimpArgs false
set_option maxRecDepth 8000

theorem mkL_at : ∀ (K : Nat) (ms : List ND) (k : Nat) (m : ND), ms[k]? = some m → (mkL K ms)[k]? = some (mkM (nxL K (ms.take k)) m)
  | _, [], _, _, h => by simp at h
  | K, q :: ms, 0, m, h => by
    simp at h
    subst h
    rfl
  | K, q :: ms, k + 1, m, h => by
    rw [mkL, List.getElem?_cons_succ, mkL_at (nxN K q.n) ms k m (by simpa using h), List.take_succ_cons, nxL]
theorem heldK (lo k : Nat) (K : Int) (v : Value) (n : Nat) (w : World) (hn : n ≤ 2097152) (hk2 : k ≤ 4294967296) (hK : K = k) (h : KRow lo v (mksI k n) w) :
    Calls Try.prog 54 #[v, .int .i64 K] w fun e w' => e = .returned (.int .i64 (K + n)) ∧ w' = w := by
  obtain ⟨a, c, e, h⟩ := h
  subst hK
  by_cases h0 : mksI k n = []
  · have hn0 : n = 0 := by have := congrArg List.length h0; rw [mksI_len] at this; exact this
    subst hn0
    rw [mksI_len] at e
    subst e
    exact (heldI_none a c k w).mono fun e w' ⟨he, hw⟩ => ⟨by rw [he]; simp, hw⟩
  · exact heldI_any2 lo k n v w hn hk2 (h.resolve_left h0)
section
variable {ops : Array Oper} {rest : List Oper} {op : Oper} {a : Act} {w : World} {Q : Exit → Act → World → Prop}
theorem s_loadN {D : Nat} {TT : TypeId} {pp : String} {ff} {x : Operand} {p : Addr} {v : Value} (hx : a.eval x = .pointer (some p)) (hc : w.cell? p = some v)
    (h : wpList Try.prog ops Q rest (a.put (some D) v) w) : wpList Try.prog ops Q (⟨some D, .load 3 x, TT, pp, ff, none⟩ :: rest) a w :=
  list_val rfl (by
    unfold execOp
    simp only [hx]
    go_simp) h
theorem s_loadB {D : Nat} {TT : TypeId} {pp : String} {ff} {x : Operand} {p : Addr} {v : Value} (hx : a.eval x = .pointer (some p)) (hc : w.cell? p = some v)
    (h : wpList Try.prog ops Q rest (a.put (some D) v) w) : wpList Try.prog ops Q (⟨some D, .load 4 x, TT, pp, ff, none⟩ :: rest) a w :=
  list_val rfl (by
    unfold execOp
    simp only [hx]
    go_simp) h
theorem s_neqN {D : Nat} {TT : TypeId} {pp : String} {ff} {x y : Operand} {z : Int} (hx : a.eval x = .int .i64 z) (hy : a.eval y = .int .i64 z)
    (h : wpList Try.prog ops Q rest (a.put (some D) (.bool false)) w) : wpList Try.prog ops Q (⟨some D, .binOp .neq 3 x y 3, TT, pp, ff, none⟩ :: rest) a w :=
  list_val rfl (by
    unfold execOp
    simp only [hx, hy]
    go_simp) h
theorem s_neqB {D : Nat} {TT : TypeId} {pp : String} {ff} {x y : Operand} {z : Bool} (hx : a.eval x = .bool z) (hy : a.eval y = .bool z)
    (h : wpList Try.prog ops Q rest (a.put (some D) (.bool false)) w) : wpList Try.prog ops Q (⟨some D, .binOp .neq 4 x y 4, TT, pp, ff, none⟩ :: rest) a w :=
  list_val rfl (by
    unfold execOp
    simp only [hx, hy]
    go_simp) h
theorem s_lss0 {D : Nat} {TT : TypeId} {pp : String} {ff} {x : Operand} {z : Int} (hx : a.eval x = .int .i64 z) (hz : 0 ≤ z)
    (h : wpList Try.prog ops Q rest (a.put (some D) (.bool false)) w) : wpList Try.prog ops Q (⟨some D, .binOp .lss 3 x (.const (.int .i64 0)) 3, TT, pp, ff, none⟩ :: rest) a w :=
  list_val rfl (by
    have hc : a.eval (.const (.int .i64 0)) = .int .i64 0 := rfl
    have hd : ¬ z < 0 := by omega
    unfold execOp
    simp only [hx, hc]
    go_simp
    try simp [hd]) h
end
section
variable {Q : Exit → Act → World → Prop} {a : Act} {u : World} {g cap n N o B j k s id : Nat} {z : Int}
/-- 'k < 0' -/
theorem rg_neg {T1 T2 : TypeId} {p1 p2 : String} {f1 f2} (F : Fr N (.slice (some ⟨g, 0, none⟩) n cap) (.int .i64 z) (.int .i64 k) a) (h0 : 0 ≤ z) (hs : s + 2 ≤ N) (hs0 : 6 ≤ s)
    (h : ∀ a', Fr N (.slice (some ⟨g, 0, none⟩) n cap) (.int .i64 z) (.int .i64 k) a' → a'.eval (.tmp (s + 1)) = .bool false → Q .normal a' u) :
    (Code.region id #[⟨some s, .move (.tmp 1), T1, p1, f1, none⟩, ⟨some (s + 1), .binOp .lss 3 (.tmp s) (.const (.int .i64 0)) 3, T2, p2, f2, none⟩] false).wp Try.prog Q a u := by
  refine wp_region_list ?_
  have hN := F.size
  refine s_move F.e1 ?_
  refine s_lss0 (z := z) (by rw [evs _ _ _ (by omega)]) h0 ?_
  refine wpList_nil ?_
  refine h _ ?_ ?_
  · refine ⟨?_, ?_, ?_, ?_, ?_⟩
    · simp only [szp]; exact hN
    · rw [evn _ _ _ _ (by omega), evn _ _ _ _ (by omega)]; exact F.e0
    · rw [evn _ _ _ _ (by omega), evn _ _ _ _ (by omega)]; exact F.e1
    · rw [evn _ _ _ _ (by omega), evn _ _ _ _ (by omega)]; exact F.e5
    · simp only [dfp]; exact F.defers
  · rw [evs _ _ _ (by simp only [szp]; omega)]
set_option maxHeartbeats 2000000 in
theorem rg_h1 {T0 T1 T2 T3 T4 T5 T6 : TypeId} {p0 p1 p2 p3 p4 p5 p6 : String} {f0 f1 f2 f3 f4 f5 f6} {y0 : TypeId} {x0 d0 : Nat} {fs0 : Array Field} (hu0 : Try.prog.underlying y0 = some (.struct fs0)) (m0 : Nat) (hf0 : (fs0[x0]?).map (fun fl => (fl.offset, (Try.prog.info? fl.type).map (·.size))) = some (d0, some (m0 + 1))) (F : Fr N (.slice (some ⟨g, 0, none⟩) n cap) (.int .i64 z) (.int .i64 k) a) (hs : s + 7 ≤ N) (hs0 : 6 ≤ s) (hk : k < n) (hn : n ≤ 2097152) (hC : ∀ j, j < 61 → u.cell? ⟨g, o + j, none⟩ = some (mkV B j)) (hq : k * 64 + d0 = o + j) (hj : j < 61) (hv : Value.int .i64 z = mkV B j)
    (h : ∀ a', Fr N (.slice (some ⟨g, 0, none⟩) n cap) (.int .i64 z) (.int .i64 k) a' → a'.eval (.tmp (s + 6)) = .bool false → Q .normal a' u) :
    (Code.region id #[⟨some (s), .move (.tmp 0), T0, p0, f0, none⟩, ⟨some (s + 1), .move (.tmp 5), T1, p1, f1, none⟩, ⟨some (s + 2), .indexAddr 24 (.tmp s) (.tmp (s + 1)), T2, p2, f2, none⟩, ⟨some (s + 3), .fieldAddr y0 (.tmp (s + 2)) x0, T3, p3, f3, none⟩, ⟨some (s + 4), .load 3 (.tmp (s + 3)), T4, p4, f4, none⟩, ⟨some (s + 5), .move (.tmp 1), T5, p5, f5, none⟩, ⟨some (s + 6), .binOp .neq 3 (.tmp (s + 4)) (.tmp (s + 5)) 3, T6, p6, f6, none⟩] false).wp Try.prog Q a u := by
  have hc : u.cell? ⟨g, k * 64 + d0, none⟩ = some (Value.int .i64 z) := by rw [hq, hC j hj, ← hv]
  refine wp_region_list ?_
  have hN := F.size
  refine s_move (v := .slice (some ⟨g, 0, none⟩) n cap) F.e0 ?_
  refine s_move (v := .int .i64 k) (by rw [evp, if_neg (by omega)]; exact F.e5) ?_
  refine s_index (g := g) (n := n) (c := cap) (k := k) (by rw [evp, if_neg (by omega), evp, if_pos ⟨rfl, by (try simp only [szp]); omega⟩]) (by rw [evp, if_pos ⟨rfl, by (try simp only [szp]); omega⟩]) hk hn ?_
  refine s_field (g := g) (o := k * 64) (d := d0) (by rw [evp, if_pos ⟨rfl, by (try simp only [szp]); omega⟩]) hu0 m0 hf0 ?_
  refine s_loadN (v := .int .i64 z) (by rw [evp, if_pos ⟨rfl, by (try simp only [szp]); omega⟩]) hc ?_
  refine s_move (v := .int .i64 z) (by rw [evp, if_neg (by omega), evp, if_neg (by omega), evp, if_neg (by omega), evp, if_neg (by omega), evp, if_neg (by omega)]; exact F.e1) ?_
  refine s_neqN (by rw [evp, if_neg (by omega), evp, if_pos ⟨rfl, by (try simp only [szp]); omega⟩]) (by rw [evp, if_pos ⟨rfl, by (try simp only [szp]); omega⟩]) ?_
  refine wpList_nil ?_
  refine h _ ?_ ?_
  · refine ⟨?_, ?_, ?_, ?_, ?_⟩
    · simp only [szp]; exact hN
    · exact (by rw [evp, if_neg (by omega), evp, if_neg (by omega), evp, if_neg (by omega), evp, if_neg (by omega), evp, if_neg (by omega), evp, if_neg (by omega), evp, if_neg (by omega)]; exact F.e0)
    · exact (by rw [evp, if_neg (by omega), evp, if_neg (by omega), evp, if_neg (by omega), evp, if_neg (by omega), evp, if_neg (by omega), evp, if_neg (by omega), evp, if_neg (by omega)]; exact F.e1)
    · exact (by rw [evp, if_neg (by omega), evp, if_neg (by omega), evp, if_neg (by omega), evp, if_neg (by omega), evp, if_neg (by omega), evp, if_neg (by omega), evp, if_neg (by omega)]; exact F.e5)
    · simp only [dfp]; exact F.defers
  · exact (by rw [evp, if_pos ⟨rfl, by (try simp only [szp]); omega⟩])
set_option maxHeartbeats 2000000 in
theorem rg_h2 {T0 T1 T2 T3 T4 T5 T6 T7 : TypeId} {p0 p1 p2 p3 p4 p5 p6 p7 : String} {f0 f1 f2 f3 f4 f5 f6 f7} {y0 : TypeId} {x0 d0 : Nat} {fs0 : Array Field} (hu0 : Try.prog.underlying y0 = some (.struct fs0)) (m0 : Nat) (hf0 : (fs0[x0]?).map (fun fl => (fl.offset, (Try.prog.info? fl.type).map (·.size))) = some (d0, some (m0 + 1))) {y1 : TypeId} {x1 d1 : Nat} {fs1 : Array Field} (hu1 : Try.prog.underlying y1 = some (.struct fs1)) (m1 : Nat) (hf1 : (fs1[x1]?).map (fun fl => (fl.offset, (Try.prog.info? fl.type).map (·.size))) = some (d1, some (m1 + 1))) (F : Fr N (.slice (some ⟨g, 0, none⟩) n cap) (.int .i64 z) (.int .i64 k) a) (hs : s + 8 ≤ N) (hs0 : 6 ≤ s) (hk : k < n) (hn : n ≤ 2097152) (hC : ∀ j, j < 61 → u.cell? ⟨g, o + j, none⟩ = some (mkV B j)) (hq : k * 64 + d0 + d1 = o + j) (hj : j < 61) (hv : Value.int .i64 z = mkV B j)
    (h : ∀ a', Fr N (.slice (some ⟨g, 0, none⟩) n cap) (.int .i64 z) (.int .i64 k) a' → a'.eval (.tmp (s + 7)) = .bool false → Q .normal a' u) :
    (Code.region id #[⟨some (s), .move (.tmp 0), T0, p0, f0, none⟩, ⟨some (s + 1), .move (.tmp 5), T1, p1, f1, none⟩, ⟨some (s + 2), .indexAddr 24 (.tmp s) (.tmp (s + 1)), T2, p2, f2, none⟩, ⟨some (s + 3), .fieldAddr y0 (.tmp (s + 2)) x0, T3, p3, f3, none⟩, ⟨some (s + 4), .fieldAddr y1 (.tmp (s + 3)) x1, T4, p4, f4, none⟩, ⟨some (s + 5), .load 3 (.tmp (s + 4)), T5, p5, f5, none⟩, ⟨some (s + 6), .move (.tmp 1), T6, p6, f6, none⟩, ⟨some (s + 7), .binOp .neq 3 (.tmp (s + 5)) (.tmp (s + 6)) 3, T7, p7, f7, none⟩] false).wp Try.prog Q a u := by
  have hc : u.cell? ⟨g, k * 64 + d0 + d1, none⟩ = some (Value.int .i64 z) := by rw [hq, hC j hj, ← hv]
  refine wp_region_list ?_
  have hN := F.size
  refine s_move (v := .slice (some ⟨g, 0, none⟩) n cap) F.e0 ?_
  refine s_move (v := .int .i64 k) (by rw [evp, if_neg (by omega)]; exact F.e5) ?_
  refine s_index (g := g) (n := n) (c := cap) (k := k) (by rw [evp, if_neg (by omega), evp, if_pos ⟨rfl, by (try simp only [szp]); omega⟩]) (by rw [evp, if_pos ⟨rfl, by (try simp only [szp]); omega⟩]) hk hn ?_
  refine s_field (g := g) (o := k * 64) (d := d0) (by rw [evp, if_pos ⟨rfl, by (try simp only [szp]); omega⟩]) hu0 m0 hf0 ?_
  refine s_field (g := g) (o := k * 64 + d0) (d := d1) (by rw [evp, if_pos ⟨rfl, by (try simp only [szp]); omega⟩]) hu1 m1 hf1 ?_
  refine s_loadN (v := .int .i64 z) (by rw [evp, if_pos ⟨rfl, by (try simp only [szp]); omega⟩]) hc ?_
  refine s_move (v := .int .i64 z) (by rw [evp, if_neg (by omega), evp, if_neg (by omega), evp, if_neg (by omega), evp, if_neg (by omega), evp, if_neg (by omega), evp, if_neg (by omega)]; exact F.e1) ?_
  refine s_neqN (by rw [evp, if_neg (by omega), evp, if_pos ⟨rfl, by (try simp only [szp]); omega⟩]) (by rw [evp, if_pos ⟨rfl, by (try simp only [szp]); omega⟩]) ?_
  refine wpList_nil ?_
  refine h _ ?_ ?_
  · refine ⟨?_, ?_, ?_, ?_, ?_⟩
    · simp only [szp]; exact hN
    · exact (by rw [evp, if_neg (by omega), evp, if_neg (by omega), evp, if_neg (by omega), evp, if_neg (by omega), evp, if_neg (by omega), evp, if_neg (by omega), evp, if_neg (by omega), evp, if_neg (by omega)]; exact F.e0)
    · exact (by rw [evp, if_neg (by omega), evp, if_neg (by omega), evp, if_neg (by omega), evp, if_neg (by omega), evp, if_neg (by omega), evp, if_neg (by omega), evp, if_neg (by omega), evp, if_neg (by omega)]; exact F.e1)
    · exact (by rw [evp, if_neg (by omega), evp, if_neg (by omega), evp, if_neg (by omega), evp, if_neg (by omega), evp, if_neg (by omega), evp, if_neg (by omega), evp, if_neg (by omega), evp, if_neg (by omega)]; exact F.e5)
    · simp only [dfp]; exact F.defers
  · exact (by rw [evp, if_pos ⟨rfl, by (try simp only [szp]); omega⟩])
set_option maxHeartbeats 2000000 in
theorem rg_h3 {T0 T1 T2 T3 T4 T5 T6 T7 T8 : TypeId} {p0 p1 p2 p3 p4 p5 p6 p7 p8 : String} {f0 f1 f2 f3 f4 f5 f6 f7 f8} {y0 : TypeId} {x0 d0 : Nat} {fs0 : Array Field} (hu0 : Try.prog.underlying y0 = some (.struct fs0)) (m0 : Nat) (hf0 : (fs0[x0]?).map (fun fl => (fl.offset, (Try.prog.info? fl.type).map (·.size))) = some (d0, some (m0 + 1))) {y1 : TypeId} {x1 d1 : Nat} {fs1 : Array Field} (hu1 : Try.prog.underlying y1 = some (.struct fs1)) (m1 : Nat) (hf1 : (fs1[x1]?).map (fun fl => (fl.offset, (Try.prog.info? fl.type).map (·.size))) = some (d1, some (m1 + 1))) {y2 : TypeId} {x2 d2 : Nat} {fs2 : Array Field} (hu2 : Try.prog.underlying y2 = some (.struct fs2)) (m2 : Nat) (hf2 : (fs2[x2]?).map (fun fl => (fl.offset, (Try.prog.info? fl.type).map (·.size))) = some (d2, some (m2 + 1))) (F : Fr N (.slice (some ⟨g, 0, none⟩) n cap) (.int .i64 z) (.int .i64 k) a) (hs : s + 9 ≤ N) (hs0 : 6 ≤ s) (hk : k < n) (hn : n ≤ 2097152) (hC : ∀ j, j < 61 → u.cell? ⟨g, o + j, none⟩ = some (mkV B j)) (hq : k * 64 + d0 + d1 + d2 = o + j) (hj : j < 61) (hv : Value.int .i64 z = mkV B j)
    (h : ∀ a', Fr N (.slice (some ⟨g, 0, none⟩) n cap) (.int .i64 z) (.int .i64 k) a' → a'.eval (.tmp (s + 8)) = .bool false → Q .normal a' u) :
    (Code.region id #[⟨some (s), .move (.tmp 0), T0, p0, f0, none⟩, ⟨some (s + 1), .move (.tmp 5), T1, p1, f1, none⟩, ⟨some (s + 2), .indexAddr 24 (.tmp s) (.tmp (s + 1)), T2, p2, f2, none⟩, ⟨some (s + 3), .fieldAddr y0 (.tmp (s + 2)) x0, T3, p3, f3, none⟩, ⟨some (s + 4), .fieldAddr y1 (.tmp (s + 3)) x1, T4, p4, f4, none⟩, ⟨some (s + 5), .fieldAddr y2 (.tmp (s + 4)) x2, T5, p5, f5, none⟩, ⟨some (s + 6), .load 3 (.tmp (s + 5)), T6, p6, f6, none⟩, ⟨some (s + 7), .move (.tmp 1), T7, p7, f7, none⟩, ⟨some (s + 8), .binOp .neq 3 (.tmp (s + 6)) (.tmp (s + 7)) 3, T8, p8, f8, none⟩] false).wp Try.prog Q a u := by
  have hc : u.cell? ⟨g, k * 64 + d0 + d1 + d2, none⟩ = some (Value.int .i64 z) := by rw [hq, hC j hj, ← hv]
  refine wp_region_list ?_
  have hN := F.size
  refine s_move (v := .slice (some ⟨g, 0, none⟩) n cap) F.e0 ?_
  refine s_move (v := .int .i64 k) (by rw [evp, if_neg (by omega)]; exact F.e5) ?_
  refine s_index (g := g) (n := n) (c := cap) (k := k) (by rw [evp, if_neg (by omega), evp, if_pos ⟨rfl, by (try simp only [szp]); omega⟩]) (by rw [evp, if_pos ⟨rfl, by (try simp only [szp]); omega⟩]) hk hn ?_
  refine s_field (g := g) (o := k * 64) (d := d0) (by rw [evp, if_pos ⟨rfl, by (try simp only [szp]); omega⟩]) hu0 m0 hf0 ?_
  refine s_field (g := g) (o := k * 64 + d0) (d := d1) (by rw [evp, if_pos ⟨rfl, by (try simp only [szp]); omega⟩]) hu1 m1 hf1 ?_
  refine s_field (g := g) (o := k * 64 + d0 + d1) (d := d2) (by rw [evp, if_pos ⟨rfl, by (try simp only [szp]); omega⟩]) hu2 m2 hf2 ?_
  refine s_loadN (v := .int .i64 z) (by rw [evp, if_pos ⟨rfl, by (try simp only [szp]); omega⟩]) hc ?_
  refine s_move (v := .int .i64 z) (by rw [evp, if_neg (by omega), evp, if_neg (by omega), evp, if_neg (by omega), evp, if_neg (by omega), evp, if_neg (by omega), evp, if_neg (by omega), evp, if_neg (by omega)]; exact F.e1) ?_
  refine s_neqN (by rw [evp, if_neg (by omega), evp, if_pos ⟨rfl, by (try simp only [szp]); omega⟩]) (by rw [evp, if_pos ⟨rfl, by (try simp only [szp]); omega⟩]) ?_
  refine wpList_nil ?_
  refine h _ ?_ ?_
  · refine ⟨?_, ?_, ?_, ?_, ?_⟩
    · simp only [szp]; exact hN
    · exact (by rw [evp, if_neg (by omega), evp, if_neg (by omega), evp, if_neg (by omega), evp, if_neg (by omega), evp, if_neg (by omega), evp, if_neg (by omega), evp, if_neg (by omega), evp, if_neg (by omega), evp, if_neg (by omega)]; exact F.e0)
    · exact (by rw [evp, if_neg (by omega), evp, if_neg (by omega), evp, if_neg (by omega), evp, if_neg (by omega), evp, if_neg (by omega), evp, if_neg (by omega), evp, if_neg (by omega), evp, if_neg (by omega), evp, if_neg (by omega)]; exact F.e1)
    · exact (by rw [evp, if_neg (by omega), evp, if_neg (by omega), evp, if_neg (by omega), evp, if_neg (by omega), evp, if_neg (by omega), evp, if_neg (by omega), evp, if_neg (by omega), evp, if_neg (by omega), evp, if_neg (by omega)]; exact F.e5)
    · simp only [dfp]; exact F.defers
  · exact (by rw [evp, if_pos ⟨rfl, by (try simp only [szp]); omega⟩])
set_option maxHeartbeats 2000000 in
theorem rg_h4 {T0 T1 T2 T3 T4 T5 T6 T7 T8 T9 : TypeId} {p0 p1 p2 p3 p4 p5 p6 p7 p8 p9 : String} {f0 f1 f2 f3 f4 f5 f6 f7 f8 f9} {y0 : TypeId} {x0 d0 : Nat} {fs0 : Array Field} (hu0 : Try.prog.underlying y0 = some (.struct fs0)) (m0 : Nat) (hf0 : (fs0[x0]?).map (fun fl => (fl.offset, (Try.prog.info? fl.type).map (·.size))) = some (d0, some (m0 + 1))) {y1 : TypeId} {x1 d1 : Nat} {fs1 : Array Field} (hu1 : Try.prog.underlying y1 = some (.struct fs1)) (m1 : Nat) (hf1 : (fs1[x1]?).map (fun fl => (fl.offset, (Try.prog.info? fl.type).map (·.size))) = some (d1, some (m1 + 1))) {y2 : TypeId} {x2 d2 : Nat} {fs2 : Array Field} (hu2 : Try.prog.underlying y2 = some (.struct fs2)) (m2 : Nat) (hf2 : (fs2[x2]?).map (fun fl => (fl.offset, (Try.prog.info? fl.type).map (·.size))) = some (d2, some (m2 + 1))) {y3 : TypeId} {x3 d3 : Nat} {fs3 : Array Field} (hu3 : Try.prog.underlying y3 = some (.struct fs3)) (m3 : Nat) (hf3 : (fs3[x3]?).map (fun fl => (fl.offset, (Try.prog.info? fl.type).map (·.size))) = some (d3, some (m3 + 1))) (F : Fr N (.slice (some ⟨g, 0, none⟩) n cap) (.int .i64 z) (.int .i64 k) a) (hs : s + 10 ≤ N) (hs0 : 6 ≤ s) (hk : k < n) (hn : n ≤ 2097152) (hC : ∀ j, j < 61 → u.cell? ⟨g, o + j, none⟩ = some (mkV B j)) (hq : k * 64 + d0 + d1 + d2 + d3 = o + j) (hj : j < 61) (hv : Value.int .i64 z = mkV B j)
    (h : ∀ a', Fr N (.slice (some ⟨g, 0, none⟩) n cap) (.int .i64 z) (.int .i64 k) a' → a'.eval (.tmp (s + 9)) = .bool false → Q .normal a' u) :
    (Code.region id #[⟨some (s), .move (.tmp 0), T0, p0, f0, none⟩, ⟨some (s + 1), .move (.tmp 5), T1, p1, f1, none⟩, ⟨some (s + 2), .indexAddr 24 (.tmp s) (.tmp (s + 1)), T2, p2, f2, none⟩, ⟨some (s + 3), .fieldAddr y0 (.tmp (s + 2)) x0, T3, p3, f3, none⟩, ⟨some (s + 4), .fieldAddr y1 (.tmp (s + 3)) x1, T4, p4, f4, none⟩, ⟨some (s + 5), .fieldAddr y2 (.tmp (s + 4)) x2, T5, p5, f5, none⟩, ⟨some (s + 6), .fieldAddr y3 (.tmp (s + 5)) x3, T6, p6, f6, none⟩, ⟨some (s + 7), .load 3 (.tmp (s + 6)), T7, p7, f7, none⟩, ⟨some (s + 8), .move (.tmp 1), T8, p8, f8, none⟩, ⟨some (s + 9), .binOp .neq 3 (.tmp (s + 7)) (.tmp (s + 8)) 3, T9, p9, f9, none⟩] false).wp Try.prog Q a u := by
  have hc : u.cell? ⟨g, k * 64 + d0 + d1 + d2 + d3, none⟩ = some (Value.int .i64 z) := by rw [hq, hC j hj, ← hv]
  refine wp_region_list ?_
  have hN := F.size
  refine s_move (v := .slice (some ⟨g, 0, none⟩) n cap) F.e0 ?_
  refine s_move (v := .int .i64 k) (by rw [evp, if_neg (by omega)]; exact F.e5) ?_
  refine s_index (g := g) (n := n) (c := cap) (k := k) (by rw [evp, if_neg (by omega), evp, if_pos ⟨rfl, by (try simp only [szp]); omega⟩]) (by rw [evp, if_pos ⟨rfl, by (try simp only [szp]); omega⟩]) hk hn ?_
  refine s_field (g := g) (o := k * 64) (d := d0) (by rw [evp, if_pos ⟨rfl, by (try simp only [szp]); omega⟩]) hu0 m0 hf0 ?_
  refine s_field (g := g) (o := k * 64 + d0) (d := d1) (by rw [evp, if_pos ⟨rfl, by (try simp only [szp]); omega⟩]) hu1 m1 hf1 ?_
  refine s_field (g := g) (o := k * 64 + d0 + d1) (d := d2) (by rw [evp, if_pos ⟨rfl, by (try simp only [szp]); omega⟩]) hu2 m2 hf2 ?_
  refine s_field (g := g) (o := k * 64 + d0 + d1 + d2) (d := d3) (by rw [evp, if_pos ⟨rfl, by (try simp only [szp]); omega⟩]) hu3 m3 hf3 ?_
  refine s_loadN (v := .int .i64 z) (by rw [evp, if_pos ⟨rfl, by (try simp only [szp]); omega⟩]) hc ?_
  refine s_move (v := .int .i64 z) (by rw [evp, if_neg (by omega), evp, if_neg (by omega), evp, if_neg (by omega), evp, if_neg (by omega), evp, if_neg (by omega), evp, if_neg (by omega), evp, if_neg (by omega), evp, if_neg (by omega)]; exact F.e1) ?_
  refine s_neqN (by rw [evp, if_neg (by omega), evp, if_pos ⟨rfl, by (try simp only [szp]); omega⟩]) (by rw [evp, if_pos ⟨rfl, by (try simp only [szp]); omega⟩]) ?_
  refine wpList_nil ?_
  refine h _ ?_ ?_
  · refine ⟨?_, ?_, ?_, ?_, ?_⟩
    · simp only [szp]; exact hN
    · exact (by rw [evp, if_neg (by omega), evp, if_neg (by omega), evp, if_neg (by omega), evp, if_neg (by omega), evp, if_neg (by omega), evp, if_neg (by omega), evp, if_neg (by omega), evp, if_neg (by omega), evp, if_neg (by omega), evp, if_neg (by omega)]; exact F.e0)
    · exact (by rw [evp, if_neg (by omega), evp, if_neg (by omega), evp, if_neg (by omega), evp, if_neg (by omega), evp, if_neg (by omega), evp, if_neg (by omega), evp, if_neg (by omega), evp, if_neg (by omega), evp, if_neg (by omega), evp, if_neg (by omega)]; exact F.e1)
    · exact (by rw [evp, if_neg (by omega), evp, if_neg (by omega), evp, if_neg (by omega), evp, if_neg (by omega), evp, if_neg (by omega), evp, if_neg (by omega), evp, if_neg (by omega), evp, if_neg (by omega), evp, if_neg (by omega), evp, if_neg (by omega)]; exact F.e5)
    · simp only [dfp]; exact F.defers
  · exact (by rw [evp, if_pos ⟨rfl, by (try simp only [szp]); omega⟩])
set_option maxHeartbeats 2000000 in
theorem rg_hb1 {T0 T1 T2 T3 T4 T5 T6 T7 T8 : TypeId} {p0 p1 p2 p3 p4 p5 p6 p7 p8 : String} {f0 f1 f2 f3 f4 f5 f6 f7 f8} {y0 : TypeId} {x0 d0 : Nat} {fs0 : Array Field} (hu0 : Try.prog.underlying y0 = some (.struct fs0)) (m0 : Nat) (hf0 : (fs0[x0]?).map (fun fl => (fl.offset, (Try.prog.info? fl.type).map (·.size))) = some (d0, some (m0 + 1))) (F : Fr N (.slice (some ⟨g, 0, none⟩) n cap) (.int .i64 z) (.int .i64 k) a) (h0 : 0 ≤ z) (h1 : z ≤ 4611686018427387904) (hs : s + 9 ≤ N) (hs0 : 6 ≤ s) (hk : k < n) (hn : n ≤ 2097152) (hC : ∀ j, j < 61 → u.cell? ⟨g, o + j, none⟩ = some (mkV B j)) (hq : k * 64 + d0 = o + j) (hj : j < 61) (hv : Value.bool (Int.tmod z 3 == 0) = mkV B j)
    (h : ∀ a', Fr N (.slice (some ⟨g, 0, none⟩) n cap) (.int .i64 z) (.int .i64 k) a' → a'.eval (.tmp (s + 8)) = .bool false → Q .normal a' u) :
    (Code.region id #[⟨some (s), .move (.tmp 0), T0, p0, f0, none⟩, ⟨some (s + 1), .move (.tmp 5), T1, p1, f1, none⟩, ⟨some (s + 2), .indexAddr 24 (.tmp s) (.tmp (s + 1)), T2, p2, f2, none⟩, ⟨some (s + 3), .fieldAddr y0 (.tmp (s + 2)) x0, T3, p3, f3, none⟩, ⟨some (s + 4), .load 4 (.tmp (s + 3)), T4, p4, f4, none⟩, ⟨some (s + 5), .move (.tmp 1), T5, p5, f5, none⟩, ⟨some (s + 6), .binOp .rem 3 (.tmp (s + 5)) (.const (.int .i64 3)) 3, T6, p6, f6, none⟩, ⟨some (s + 7), .binOp .eql 3 (.tmp (s + 6)) (.const (.int .i64 0)) 3, T7, p7, f7, none⟩, ⟨some (s + 8), .binOp .neq 4 (.tmp (s + 4)) (.tmp (s + 7)) 4, T8, p8, f8, none⟩] false).wp Try.prog Q a u := by
  have hc : u.cell? ⟨g, k * 64 + d0, none⟩ = some (Value.bool (Int.tmod z 3 == 0)) := by rw [hq, hC j hj, ← hv]
  refine wp_region_list ?_
  have hN := F.size
  refine s_move (v := .slice (some ⟨g, 0, none⟩) n cap) F.e0 ?_
  refine s_move (v := .int .i64 k) (by rw [evp, if_neg (by omega)]; exact F.e5) ?_
  refine s_index (g := g) (n := n) (c := cap) (k := k) (by rw [evp, if_neg (by omega), evp, if_pos ⟨rfl, by (try simp only [szp]); omega⟩]) (by rw [evp, if_pos ⟨rfl, by (try simp only [szp]); omega⟩]) hk hn ?_
  refine s_field (g := g) (o := k * 64) (d := d0) (by rw [evp, if_pos ⟨rfl, by (try simp only [szp]); omega⟩]) hu0 m0 hf0 ?_
  refine s_loadB (v := .bool (Int.tmod z 3 == 0)) (by rw [evp, if_pos ⟨rfl, by (try simp only [szp]); omega⟩]) hc ?_
  refine s_move (v := .int .i64 z) (by rw [evp, if_neg (by omega), evp, if_neg (by omega), evp, if_neg (by omega), evp, if_neg (by omega), evp, if_neg (by omega)]; exact F.e1) ?_
  refine s_rem3 (z := z) (by rw [evp, if_pos ⟨rfl, by (try simp only [szp]); omega⟩]) h0 h1 ?_
  refine s_eq0 (z := Int.tmod z 3) (by rw [evp, if_pos ⟨rfl, by (try simp only [szp]); omega⟩]) ?_
  refine s_neqB (by rw [evp, if_neg (by omega), evp, if_neg (by omega), evp, if_neg (by omega), evp, if_pos ⟨rfl, by (try simp only [szp]); omega⟩]) (by rw [evp, if_pos ⟨rfl, by (try simp only [szp]); omega⟩]) ?_
  refine wpList_nil ?_
  refine h _ ?_ ?_
  · refine ⟨?_, ?_, ?_, ?_, ?_⟩
    · simp only [szp]; exact hN
    · exact (by rw [evp, if_neg (by omega), evp, if_neg (by omega), evp, if_neg (by omega), evp, if_neg (by omega), evp, if_neg (by omega), evp, if_neg (by omega), evp, if_neg (by omega), evp, if_neg (by omega), evp, if_neg (by omega)]; exact F.e0)
    · exact (by rw [evp, if_neg (by omega), evp, if_neg (by omega), evp, if_neg (by omega), evp, if_neg (by omega), evp, if_neg (by omega), evp, if_neg (by omega), evp, if_neg (by omega), evp, if_neg (by omega), evp, if_neg (by omega)]; exact F.e1)
    · exact (by rw [evp, if_neg (by omega), evp, if_neg (by omega), evp, if_neg (by omega), evp, if_neg (by omega), evp, if_neg (by omega), evp, if_neg (by omega), evp, if_neg (by omega), evp, if_neg (by omega), evp, if_neg (by omega)]; exact F.e5)
    · simp only [dfp]; exact F.defers
  · exact (by rw [evp, if_pos ⟨rfl, by (try simp only [szp]); omega⟩])
set_option maxHeartbeats 2000000 in
theorem rg_hb2 {T0 T1 T2 T3 T4 T5 T6 T7 T8 T9 : TypeId} {p0 p1 p2 p3 p4 p5 p6 p7 p8 p9 : String} {f0 f1 f2 f3 f4 f5 f6 f7 f8 f9} {y0 : TypeId} {x0 d0 : Nat} {fs0 : Array Field} (hu0 : Try.prog.underlying y0 = some (.struct fs0)) (m0 : Nat) (hf0 : (fs0[x0]?).map (fun fl => (fl.offset, (Try.prog.info? fl.type).map (·.size))) = some (d0, some (m0 + 1))) {y1 : TypeId} {x1 d1 : Nat} {fs1 : Array Field} (hu1 : Try.prog.underlying y1 = some (.struct fs1)) (m1 : Nat) (hf1 : (fs1[x1]?).map (fun fl => (fl.offset, (Try.prog.info? fl.type).map (·.size))) = some (d1, some (m1 + 1))) (F : Fr N (.slice (some ⟨g, 0, none⟩) n cap) (.int .i64 z) (.int .i64 k) a) (h0 : 0 ≤ z) (h1 : z ≤ 4611686018427387904) (hs : s + 10 ≤ N) (hs0 : 6 ≤ s) (hk : k < n) (hn : n ≤ 2097152) (hC : ∀ j, j < 61 → u.cell? ⟨g, o + j, none⟩ = some (mkV B j)) (hq : k * 64 + d0 + d1 = o + j) (hj : j < 61) (hv : Value.bool (Int.tmod z 3 == 0) = mkV B j)
    (h : ∀ a', Fr N (.slice (some ⟨g, 0, none⟩) n cap) (.int .i64 z) (.int .i64 k) a' → a'.eval (.tmp (s + 9)) = .bool false → Q .normal a' u) :
    (Code.region id #[⟨some (s), .move (.tmp 0), T0, p0, f0, none⟩, ⟨some (s + 1), .move (.tmp 5), T1, p1, f1, none⟩, ⟨some (s + 2), .indexAddr 24 (.tmp s) (.tmp (s + 1)), T2, p2, f2, none⟩, ⟨some (s + 3), .fieldAddr y0 (.tmp (s + 2)) x0, T3, p3, f3, none⟩, ⟨some (s + 4), .fieldAddr y1 (.tmp (s + 3)) x1, T4, p4, f4, none⟩, ⟨some (s + 5), .load 4 (.tmp (s + 4)), T5, p5, f5, none⟩, ⟨some (s + 6), .move (.tmp 1), T6, p6, f6, none⟩, ⟨some (s + 7), .binOp .rem 3 (.tmp (s + 6)) (.const (.int .i64 3)) 3, T7, p7, f7, none⟩, ⟨some (s + 8), .binOp .eql 3 (.tmp (s + 7)) (.const (.int .i64 0)) 3, T8, p8, f8, none⟩, ⟨some (s + 9), .binOp .neq 4 (.tmp (s + 5)) (.tmp (s + 8)) 4, T9, p9, f9, none⟩] false).wp Try.prog Q a u := by
  have hc : u.cell? ⟨g, k * 64 + d0 + d1, none⟩ = some (Value.bool (Int.tmod z 3 == 0)) := by rw [hq, hC j hj, ← hv]
  refine wp_region_list ?_
  have hN := F.size
  refine s_move (v := .slice (some ⟨g, 0, none⟩) n cap) F.e0 ?_
  refine s_move (v := .int .i64 k) (by rw [evp, if_neg (by omega)]; exact F.e5) ?_
  refine s_index (g := g) (n := n) (c := cap) (k := k) (by rw [evp, if_neg (by omega), evp, if_pos ⟨rfl, by (try simp only [szp]); omega⟩]) (by rw [evp, if_pos ⟨rfl, by (try simp only [szp]); omega⟩]) hk hn ?_
  refine s_field (g := g) (o := k * 64) (d := d0) (by rw [evp, if_pos ⟨rfl, by (try simp only [szp]); omega⟩]) hu0 m0 hf0 ?_
  refine s_field (g := g) (o := k * 64 + d0) (d := d1) (by rw [evp, if_pos ⟨rfl, by (try simp only [szp]); omega⟩]) hu1 m1 hf1 ?_
  refine s_loadB (v := .bool (Int.tmod z 3 == 0)) (by rw [evp, if_pos ⟨rfl, by (try simp only [szp]); omega⟩]) hc ?_
  refine s_move (v := .int .i64 z) (by rw [evp, if_neg (by omega), evp, if_neg (by omega), evp, if_neg (by omega), evp, if_neg (by omega), evp, if_neg (by omega), evp, if_neg (by omega)]; exact F.e1) ?_
  refine s_rem3 (z := z) (by rw [evp, if_pos ⟨rfl, by (try simp only [szp]); omega⟩]) h0 h1 ?_
  refine s_eq0 (z := Int.tmod z 3) (by rw [evp, if_pos ⟨rfl, by (try simp only [szp]); omega⟩]) ?_
  refine s_neqB (by rw [evp, if_neg (by omega), evp, if_neg (by omega), evp, if_neg (by omega), evp, if_pos ⟨rfl, by (try simp only [szp]); omega⟩]) (by rw [evp, if_pos ⟨rfl, by (try simp only [szp]); omega⟩]) ?_
  refine wpList_nil ?_
  refine h _ ?_ ?_
  · refine ⟨?_, ?_, ?_, ?_, ?_⟩
    · simp only [szp]; exact hN
    · exact (by rw [evp, if_neg (by omega), evp, if_neg (by omega), evp, if_neg (by omega), evp, if_neg (by omega), evp, if_neg (by omega), evp, if_neg (by omega), evp, if_neg (by omega), evp, if_neg (by omega), evp, if_neg (by omega), evp, if_neg (by omega)]; exact F.e0)
    · exact (by rw [evp, if_neg (by omega), evp, if_neg (by omega), evp, if_neg (by omega), evp, if_neg (by omega), evp, if_neg (by omega), evp, if_neg (by omega), evp, if_neg (by omega), evp, if_neg (by omega), evp, if_neg (by omega), evp, if_neg (by omega)]; exact F.e1)
    · exact (by rw [evp, if_neg (by omega), evp, if_neg (by omega), evp, if_neg (by omega), evp, if_neg (by omega), evp, if_neg (by omega), evp, if_neg (by omega), evp, if_neg (by omega), evp, if_neg (by omega), evp, if_neg (by omega), evp, if_neg (by omega)]; exact F.e5)
    · simp only [dfp]; exact F.defers
  · exact (by rw [evp, if_pos ⟨rfl, by (try simp only [szp]); omega⟩])
/-- The parent's number. -/
theorem rg_hup {T0 T1 T2 T3 T4 T5 T6 : TypeId} {p0 p1 p2 p3 p4 p5 p6 : String} {f0 f1 f2 f3 f4 f5 f6} {y0 : TypeId} {x0 : Nat} {fs0 : Array Field} (hu0 : Try.prog.underlying y0 = some (.struct fs0)) (m0 : Nat) (hf0 : (fs0[x0]?).map (fun fl => (fl.offset, (Try.prog.info? fl.type).map (·.size))) = some (0, some (m0 + 1))) (F : Fr N (.slice (some ⟨g, 0, none⟩) n cap) (.int .i64 z) (.int .i64 k) a) (hs : s + 7 ≤ N) (hs0 : 6 ≤ s) (hk : k < n) (hn : n ≤ 2097152) (hc : u.cell? ⟨g, k * 64, none⟩ = some (.int .i64 z))
    (h : ∀ a', Fr N (.slice (some ⟨g, 0, none⟩) n cap) (.int .i64 z) (.int .i64 k) a' → a'.eval (.tmp (s + 6)) = .bool false → Q .normal a' u) :
    (Code.region id #[⟨some s, .move (.tmp 0), T0, p0, f0, none⟩, ⟨some (s + 1), .move (.tmp 5), T1, p1, f1, none⟩, ⟨some (s + 2), .indexAddr 24 (.tmp s) (.tmp (s + 1)), T2, p2, f2, none⟩, ⟨some (s + 3), .fieldAddr y0 (.tmp (s + 2)) x0, T3, p3, f3, none⟩, ⟨some (s + 4), .load 3 (.tmp (s + 3)), T4, p4, f4, none⟩, ⟨some (s + 5), .move (.tmp 1), T5, p5, f5, none⟩, ⟨some (s + 6), .binOp .neq 3 (.tmp (s + 4)) (.tmp (s + 5)) 3, T6, p6, f6, none⟩] false).wp Try.prog Q a u := by
  have hz : Value.int .i64 z = mkV z.toNat 0 ∨ True := Or.inr trivial
  refine wp_region_list ?_
  have hN := F.size
  refine s_move (v := .slice (some ⟨g, 0, none⟩) n cap) F.e0 ?_
  refine s_move (v := .int .i64 k) (by rw [evn _ _ _ _ (by omega)]; exact F.e5) ?_
  refine s_index (g := g) (n := n) (c := cap) (k := k) (by rw [evn _ _ _ _ (by omega), evs _ _ _ (by omega)]) (by rw [evs _ _ _ (by rw [szp]; omega)]) hk hn ?_
  refine s_field (g := g) (o := k * 64) (d := 0) (by rw [evs _ _ _ (by simp only [szp]; omega)]) hu0 m0 hf0 ?_
  refine s_loadN (p := ⟨g, k * 64, none⟩) (v := .int .i64 z) (by rw [evs _ _ _ (by simp only [szp]; omega)]; rfl) hc ?_
  refine s_move (v := .int .i64 z) (by rw [evn _ _ _ _ (by omega), evn _ _ _ _ (by omega), evn _ _ _ _ (by omega), evn _ _ _ _ (by omega), evn _ _ _ _ (by omega)]; exact F.e1) ?_
  refine s_neqN (z := z) (by rw [evn _ _ _ _ (by omega), evs _ _ _ (by simp only [szp]; omega)]) (by rw [evs _ _ _ (by simp only [szp]; omega)]) ?_
  refine wpList_nil ?_
  refine h _ ?_ ?_
  · refine ⟨?_, ?_, ?_, ?_, ?_⟩
    · simp only [szp]; exact hN
    · rw [evn _ _ _ _ (by omega), evn _ _ _ _ (by omega), evn _ _ _ _ (by omega), evn _ _ _ _ (by omega), evn _ _ _ _ (by omega), evn _ _ _ _ (by omega), evn _ _ _ _ (by omega)]; exact F.e0
    · rw [evn _ _ _ _ (by omega), evn _ _ _ _ (by omega), evn _ _ _ _ (by omega), evn _ _ _ _ (by omega), evn _ _ _ _ (by omega), evn _ _ _ _ (by omega), evn _ _ _ _ (by omega)]; exact F.e1
    · rw [evn _ _ _ _ (by omega), evn _ _ _ _ (by omega), evn _ _ _ _ (by omega), evn _ _ _ _ (by omega), evn _ _ _ _ (by omega), evn _ _ _ _ (by omega), evn _ _ _ _ (by omega)]; exact F.e5
    · simp only [dfp]; exact F.defers
  · rw [evs _ _ _ (by simp only [szp]; omega)]
end
def MnH (g cap K : Nat) (ms0 : List ND) (w : World) (a : Act) (wr : World) : Prop :=
  ∃ k : Nat, k ≤ ms0.length ∧ Fr 726 (.slice (some ⟨g, 0, none⟩) ms0.length cap) (.int .i64 (nxL K (ms0.take k) : Nat)) (.int .i64 k) a ∧ w = wr
end Go.Proofs.Ytfnnfjpbplbjmaa

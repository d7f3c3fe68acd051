/-
  The laws' helper markTree on a tree of the call's own: every number of it is another one behind; nothing but the tree has turned. Conditions: no list of more than 2097152.
-/
import Derived.Test.YtbfhipfflomokaaNdA
import Derived.Test.YtbfhipfflomokaaRlK
namespace Go.Proofs.Ytbfhipfflomokaa
open Go.ChangeShapes Go.WideShapes Go.ChangeAt Go.RowKit
set_option linter.unusedVariables false
set_option linter.unusedSimpArgs false
set_option maxRecDepth 8000

section
variable {P : Program}
/-- One cell stored. -/
theorem run_store1 (w : World) (b o : Nat) (ty : TypeId) (v : Value) (hv : v.cells = #[v]) (ht : w.there b o 1) (hi : (P.info? ty).map (·.size) = some 1) (h1 : v.oneCell' = true) :
    (Instr.storeAt ty (.pointer (some ⟨b, o, none⟩)) v).run P w = .ok () (w.setCell ⟨b, o, none⟩ v) := by
  have := run_storeCells_cells (P := P) b o [v] 0 w (fun j hj => by simpa using (ht j (by simpa using hj)).1) (fun j hj => by simpa using (ht j (by simpa using hj)).2)
    (fun u hu => by simp at hu; subst hu; exact h1)
  cases hq : P.info? ty with
  | none => simp [hq] at hi
  | some i =>
    have hs : i.size = 1 := by simpa [hq] using hi
    simp only [Nat.add_zero, World.setCells] at this
    simp only [Instr.storeAt, Instr.sureAddr, Sem.run_bind, Sem.run_pure, Result.andThen_ok]
    simp [storeVar, sizeOf, typeInfo, hq, hv, hs, this]
end
/-- The mark of cell j behind the first two. -/
def mkV (B j : Nat) : Value := if j = 6 ∨ j = 7 ∨ j = 60 then .bool (Int.tmod ((B : Int) + (j : Int)) 3 == 0) else .int .i64 ((B : Int) + (j : Int))
theorem setL_snoc : ∀ (vs xs : List Value) (o : Nat) (v : Value), (setL xs o vs).set (o + vs.length) v = setL xs o (vs ++ [v])
  | [], xs, o, v => rfl
  | u :: vs, xs, o, v => by
    rw [setL, List.cons_append, setL, ← setL_snoc vs, List.length_cons]
    congr 1; omega
/-- The first j of a node's marks stand. -/
def MkP (lo g cap n o B : Nat) (xs : List Value) (w0 : World) (j : Nat) (u : World) : Prop :=
  u.ownsRow lo 61 64 (.slice (some ⟨g, 0, none⟩) n cap) n (setL xs o ((List.range j).map (mkV B))) ∧ w0.grownBy u (some g)
theorem MkP.step {lo g cap n o B j : Nat} {xs : List Value} {w0 u : World} (h : MkP lo g cap n o B xs w0 j u) : MkP lo g cap n o B xs w0 (j + 1) (u.setCell ⟨g, o + j, none⟩ (mkV B j)) := by
  refine ⟨?_, gr_set h.2⟩
  have := (World.ownsRow.stored h.1 (o + j) (mkV B j)).1
  have e := setL_snoc ((List.range j).map (mkV B)) xs o (mkV B j)
  rw [List.length_map, List.length_range] at e
  rw [e] at this
  rw [List.range_succ, List.map_append]
  exact this
theorem MkP.there1 {lo g cap n o B j : Nat} {xs : List Value} {w0 u : World} (h : MkP lo g cap n o B xs w0 j u) (hj : o + j < n * 64) : u.there g (o + j) 1 := fun q hq => by
  obtain rfl : q = 0 := by omega
  refine ⟨?_, World.ownsRow.frozenAt h.1 _⟩
  have hl := h.1.1
  rw [Nat.add_zero, World.ownsRow.cellAt h.1 (o + j) hj, List.getElem?_eq_getElem (by omega)]
  rfl
theorem list_mark {lo g cap n o B j q : Nat} {xs : List Value} {w0 u : World} {ops : Array Oper} {rest : List Oper} {op : Oper} {a : Act} {Q : Exit → Act → World → Prop} {ty : TypeId} {x y : Operand} {v : Value}
    (hgd : op.guard = none) (ho : op.op = .store ty x y) (hx : a.eval x = .pointer (some ⟨g, q, none⟩)) (hy : a.eval y = v) (hP : MkP lo g cap n o B xs w0 j u) (hq : q = o + j) (hj : o + j < n * 64) (hv : v = mkV B j)
    (hi : (Try.prog.info? ty).map (·.size) = some 1) (hd : op.dst = none)
    (h : ∀ u', MkP lo g cap n o B xs w0 (j + 1) u' → wpList Try.prog ops Q rest a u') : wpList Try.prog ops Q (op :: rest) a u := by
  refine wpList_plain hgd fun K hK => ?_
  have hc : v.cells = #[v] ∧ v.oneCell' = true := by
    rw [hv]
    unfold mkV
    split <;> exact ⟨rfl, rfl⟩
  subst hq
  unfold Oper.wp execOp
  simp only [ho, hx, hy, Sem.run_bind, run_store1 u g (o + j) ty v hc.1 (hP.there1 hj) hi hc.2, Result.andThen_ok, Sem.run_pure]
  change K (a.put op.dst undef) _
  rw [hd]
  refine hK _ _ (h _ ?_)
  rw [hv]
  exact hP.step
theorem info_i1 : (Try.prog.info? 3).map (·.size) = some 1 := by kernel_rfl
theorem info_b1 : (Try.prog.info? 4).map (·.size) = some 1 := by kernel_rfl
theorem rmk_set {k m : Nat} {zs : List Int} (h : m * 3 + 2 < zs.length) :
    (((mksI k (m * 3) ++ zs.drop (m * 3)).set (m * 3) ((k : Int) + m * 3)).set (m * 3 + 1) ((k : Int) + m * 3 + 1)).set (m * 3 + 2) ((k : Int) + m * 3 + 1 + 1) = mksI k ((m + 1) * 3) ++ zs.drop ((m + 1) * 3) := by
  have e0 : ((k : Int) + m * 3) = (k : Int) + ((m * 3 : Nat) : Int) := by omega
  have e1 : ((k : Int) + m * 3 + 1) = (k : Int) + ((m * 3 + 1 : Nat) : Int) := by omega
  have e2 : ((k : Int) + m * 3 + 1 + 1) = (k : Int) + ((m * 3 + 2 : Nat) : Int) := by omega
  rw [e2, e1, e0, mksI_set (by omega), mksI_set (by omega), mksI_set (by omega), show (m + 1) * 3 = m * 3 + 2 + 1 by omega]
set_option maxHeartbeats 1000000 in
theorem markRS_full (g cap n base k : Nat) (K : Int) (zs : List Int) (w : World) (hn : n ≤ 2097152) (hk2 : k ≤ 4294967296) (hK : K = k) (h : RowR base (.slice (some ⟨g, 0, none⟩) n cap) n zs w) :
    Calls Try.prog 88 #[.slice (some ⟨g, 0, none⟩) n cap, .int .i64 K] w fun e w' => e = .returned (.int .i64 (K + n * 3)) ∧ RowR base (.slice (some ⟨g, 0, none⟩) n cap) n (mksI k (n * 3)) w' ∧ w.grownBy w' (some g) := by
  subst hK
  have hzl := h.size
  have HZL := Lib.hid hzl
  go_enter Try.func88, Try.ntmps88
  go_wp2
  go_loopw [1, 5] (fun q i wr => ∃ m : Nat, m ≤ n ∧ i = .int .i64 m ∧ q = .int .i64 ((k : Int) + m * 3) ∧ RowR base (.slice (some ⟨g, 0, none⟩) n cap) n (mksI k (m * 3) ++ zs.drop (m * 3)) wr ∧ w.grownBy wr (some g)) (fun _ i _ => n - (intOf i).toNat)
  case atStart => exact ⟨0, Nat.zero_le _, rfl, by simp, by simpa [mksI] using h, World.grownBy.refl _ _⟩
  case round =>
    obtain ⟨m, hm, rfl, rfl, ho, hg⟩ := hrel
    by_cases hlt : m < n
    · have hlo : (0 : Int) ≤ (m : Int) := Int.natCast_nonneg _
      have hhi : (m : Int) < (n : Int) := by omega
      have hr := (((ho.put (m * 3) ((k : Int) + m * 3)).put (m * 3 + 1) ((k : Int) + m * 3 + 1)).put (m * 3 + 2) ((k : Int) + m * 3 + 1 + 1))
      rw [rmk_set (by omega)] at hr
      have HR := Lib.hid hr
      have HG := Lib.hid (gr_set (j := m * 3 + 2) (u := .int .i64 ((k : Int) + m * 3 + 1 + 1)) (gr_set (j := m * 3 + 1) (u := .int .i64 ((k : Int) + m * 3 + 1)) (gr_set (j := m * 3) (u := .int .i64 ((k : Int) + m * 3)) hg)))
      obtain ⟨⟨y0, d0⟩, f0⟩ := ho.there (m * 3) (by omega)
      obtain ⟨⟨y1, d1⟩, f1⟩ := ho.there (m * 3 + 1) (by omega)
      obtain ⟨⟨y2, d2⟩, f2⟩ := ho.there (m * 3 + 2) (by omega)
      clear ho hg h hr hzl
      go_wp2
      go_roundw
      case rel => exact ⟨m + 1, by omega, by go_num, by go_num, HR.out, HG.out⟩
      case measure => simp [intOf]; omega
    · obtain rfl : m = n := by omega
      rw [List.drop_of_length_le (by omega), List.append_nil] at ho
      clear h hzl
      go_wp2
      go_ret
      exact ⟨rfl, ho, hg⟩
/-- A slice without elements is marked: nothing turns. -/
theorem markI_none (a : Option Addr) (c : Nat) (k : Int) (w : World) :
    Calls Try.prog 121 #[.slice a 0 c, .int .i64 k] w fun e w' => e = .returned (.int .i64 k) ∧ w' = w := by
  go_enter Try.func121, Try.ntmps121
  go_wp2
  refine wp_loop_rounds 1 ?_
  rw [rounds_succ]
  go_wp2
  go_ret
  exact ⟨rfl, rfl⟩
theorem markR_none (a : Option Addr) (c : Nat) (k : Int) (w : World) :
    Calls Try.prog 88 #[.slice a 0 c, .int .i64 k] w fun e w' => e = .returned (.int .i64 k) ∧ w' = w := by
  go_enter Try.func88, Try.ntmps88
  go_wp2
  refine wp_loop_rounds 1 ?_
  rw [rounds_succ]
  go_wp2
  go_ret
  exact ⟨rfl, rfl⟩
theorem heldI_none (a : Option Addr) (c : Nat) (k : Int) (w : World) :
    Calls Try.prog 122 #[.slice a 0 c, .int .i64 k] w fun e w' => e = .returned (.int .i64 k) ∧ w' = w := by
  go_enter Try.func122, Try.ntmps122
  go_wp2
  refine wp_loop_rounds 1 ?_
  rw [rounds_succ]
  go_wp2
  go_ret
  exact ⟨rfl, rfl⟩
theorem heldR_none (a : Option Addr) (c : Nat) (k : Int) (w : World) :
    Calls Try.prog 123 #[.slice a 0 c, .int .i64 k] w fun e w' => e = .returned (.int .i64 k) ∧ w' = w := by
  go_enter Try.func123, Try.ntmps123
  go_wp2
  refine wp_loop_rounds 1 ?_
  rw [rounds_succ]
  go_wp2
  go_ret
  exact ⟨rfl, rfl⟩
set_option maxHeartbeats 1000000 in
theorem heldR_some (g cap n base k : Nat) (w : World) (hn : n ≤ 2097152) (hk2 : k ≤ 4294967296) (h : RowR base (.slice (some ⟨g, 0, none⟩) n cap) n (mksI k (n * 3)) w) :
    Calls Try.prog 123 #[.slice (some ⟨g, 0, none⟩) n cap, .int .i64 k] w fun e w' => e = .returned (.int .i64 ((k : Int) + n * 3)) ∧ w' = w := by
  have hcell : ∀ m, m < n * 3 → w.cell? ⟨g, m, none⟩ = some (.int .i64 ((k : Int) + m)) := fun m hm => by
    rw [World.ownsRow.cellAt h m hm, ← mksI_at k hm]
    simp [mksI_len, hm]
  have HC := Lib.hid hcell
  clear h hcell
  go_enter Try.func123, Try.ntmps123
  go_wp2
  go_loopw [1, 5] (fun q i wr => ∃ m : Nat, m ≤ n ∧ i = .int .i64 m ∧ q = .int .i64 ((k : Int) + m * 3) ∧ wr = w) (fun _ i _ => n - (intOf i).toNat)
  case atStart => exact ⟨0, Nat.zero_le _, rfl, by simp, rfl⟩
  case round =>
    obtain ⟨m, hm, rfl, rfl, rfl⟩ := hrel
    by_cases hlt : m < n
    · have hlo : (0 : Int) ≤ (m : Int) := Int.natCast_nonneg _
      have hhi : (m : Int) < (n : Int) := by omega
      have c1 : wr.cell? ⟨g, m * 3, none⟩ = some (.int .i64 ((k : Int) + m * 3)) := by rw [HC.out (m * 3) (by omega)]; congr 2
      have c2 : wr.cell? ⟨g, m * 3 + 1, none⟩ = some (.int .i64 ((k : Int) + m * 3 + 1)) := by rw [HC.out (m * 3 + 1) (by omega)]; congr 2
      have c3 : wr.cell? ⟨g, m * 3 + 2, none⟩ = some (.int .i64 ((k : Int) + m * 3 + 1 + 1)) := by rw [HC.out (m * 3 + 2) (by omega)]; congr 2
      go_wp2
      go_roundw
      case rel => exact ⟨m + 1, by omega, by go_num, by go_num, trivial⟩
      case measure => simp [intOf]; omega
    · go_wp2
      go_ret
      obtain rfl : m = n := by omega
      exact ⟨rfl, rfl⟩
/-- A node's marks, and the number behind them. -/
def mkF (B j : Nat) : Int := if j = 6 ∨ j = 7 then (if Int.tmod ((B : Int) + (j : Int)) 3 == 0 then 1 else 0) else if j < 60 then (B : Int) + (j : Int) else 0
def mkN (K : Nat) (n : PN) : PN := ⟨K, mksI (K + 1) n.kids.length, mkF (K + 1 + n.kids.length), Int.tmod (((K + 1 + n.kids.length : Nat) : Int) + (60 : Nat)) 3 == 0, n.rl, mksI (K + 1 + n.kids.length + 61) (n.rl * 3)⟩
def nxN (K : Nat) (n : PN) : Nat := K + 1 + n.kids.length + 61 + n.rl * 3
def mkM (K : Nat) (m : ND) : ND := ⟨mkN K m.n, m.kv, m.tv⟩
def mkL : Nat → List ND → List ND
  | _, [] => []
  | K, m :: ms => mkM K m :: mkL (nxN K m.n) ms
def nxL : Nat → List ND → Nat
  | K, [] => K
  | K, m :: ms => nxL (nxN K m.n) ms
theorem mkV_sty (B j : Nat) (h : j < 60) : sCell j (mkF B j) = mkV B j := by
  unfold sCell mkF mkV
  by_cases e : j = 6 ∨ j = 7
  · rcases e with rfl | rfl
    · show Value.bool (bz (if Int.tmod ((B : Int) + ((6 : Nat) : Int)) 3 == 0 then 1 else 0)) = Value.bool (Int.tmod ((B : Int) + ((6 : Nat) : Int)) 3 == 0)
      cases Int.tmod ((B : Int) + ((6 : Nat) : Int)) 3 == 0 <;> rfl
    · show Value.bool (bz (if Int.tmod ((B : Int) + ((7 : Nat) : Int)) 3 == 0 then 1 else 0)) = Value.bool (Int.tmod ((B : Int) + ((7 : Nat) : Int)) 3 == 0)
      cases Int.tmod ((B : Int) + ((7 : Nat) : Int)) 3 == 0 <;> rfl
  · rw [if_neg e, if_neg e, if_pos h, if_neg (by omega)]
theorem mkM_cells (K : Nat) (m : ND) : (mkM K m).cells = .int .i64 K :: m.kv :: ((List.range 61).map (mkV (K + 1 + m.n.kids.length)) ++ [m.tv]) := by
  symm
  refine nL_ext (by simp) rfl rfl (fun j hj => ?_) ?_ ?_
  · rw [show 2 + j = j + 1 + 1 by omega, List.getElem?_cons_succ, List.getElem?_cons_succ, List.getElem?_append_left (by simp; omega), List.getElem?_map, List.getElem?_range (by omega)]
    exact congrArg some (mkV_sty _ j hj).symm
  · rfl
  · rfl
theorem mkL_len : ∀ (K : Nat) (ms : List ND), (mkL K ms).length = ms.length
  | _, [] => rfl
  | K, m :: ms => by rw [mkL, List.length_cons, mkL_len, List.length_cons]
theorem mkL_snoc : ∀ (K : Nat) (ms : List ND) (m : ND), mkL K (ms ++ [m]) = mkL K ms ++ [mkM (nxL K ms) m] ∧ nxL K (ms ++ [m]) = nxN (nxL K ms) m.n
  | K, [], m => ⟨rfl, rfl⟩
  | K, q :: ms, m => by
    have h := mkL_snoc (nxN K q.n) ms m
    exact ⟨by rw [List.cons_append, mkL, h.1]; rfl, by rw [List.cons_append, nxL, h.2]; rfl⟩
theorem nxL_le : ∀ (K : Nat) (ms : List ND), nxL K ms ≤ K + 65 * szS (ms.map ND.n)
  | K, [] => by simp [nxL]
  | K, m :: ms => by
    have h := nxL_le (nxN K m.n) ms
    rw [nxL]
    generalize nxL (nxN K m.n) ms = q at *
    unfold szS szL at *
    simp only [List.map_cons, List.length_cons, List.sum_cons, List.length_map] at h ⊢
    unfold nxN at h
    have e : szK m.n = m.n.kids.length + m.n.rl := rfl
    omega
/-- A node marked where it stands. -/
theorem OwnN.remark {lo g cap i : Nat} {ms : List ND} {m m' : ND} {w w' : World} (h : OwnN lo (.slice (some ⟨g, 0, none⟩) ms.length cap) ms w) (hi : ms[i]? = some m)
    (hkv : m'.kv = m.kv) (htv : m'.tv = m.tv) (hkl : m'.n.kids.length = m.n.kids.length) (hrl : m'.n.rl = m.n.rl)
    (hrow : w'.ownsRow lo 61 64 (.slice (some ⟨g, 0, none⟩) ms.length cap) ms.length (cellsN (ms.set i m'))) (hm : m'.own lo w')
    (hfr : ∀ k, k < w.heap.size → k ≠ g → m.comp true ≠ some k → m.comp false ≠ some k → w'.heap[k]? = w.heap[k]?) (hs : w.heap.size ≤ w'.heap.size) :
    OwnN lo (.slice (some ⟨g, 0, none⟩) ms.length cap) (ms.set i m') w' := by
  have hil := (List.getElem?_eq_some_iff.1 hi).1
  have hcomp : ∀ s, m'.comp s = m.comp s := fun s => by unfold ND.comp; rw [hkv, htv, hkl, hrl]
  have rowK : ∀ {e : TypeId} {size n : Nat} {x : Value} {xs : List Value}, w.ownsRow lo e size x n xs → (∀ b, x.ownBlock = some b → b ≠ g ∧ m.comp true ≠ some b ∧ m.comp false ≠ some b) → w'.ownsRow lo e size x n xs := by
    intro e size n x xs hr hne
    refine ⟨hr.1, ?_⟩
    rcases hr.2 with hn | ⟨g', cap', cur, rfl, hb, hg', rest⟩
    · exact .inl hn
    · obtain ⟨a1, a2, a3⟩ := hne g' rfl
      exact .inr ⟨g', cap', cur, rfl, hb, (hfr g' (Array.getElem?_eq_some_iff.1 hg').1 a1 a2 a3).trans hg', rest⟩
  have ownK : ∀ q : ND, q.own lo w → (∀ s b, q.comp s = some b → b ≠ g ∧ m.comp true ≠ some b ∧ m.comp false ≠ some b) → q.own lo w' := by
    intro q ⟨h1, ⟨a, c, e, hk⟩, ⟨a', c', e', ht⟩⟩ hne
    refine ⟨h1, ⟨a, c, e, ?_⟩, ⟨a', c', e', ?_⟩⟩
    · by_cases h0 : q.n.kids = []
      · exact Or.inl h0
      · exact Or.inr (rowK (hk.resolve_left h0) fun b hb => hne true b (by
          unfold ND.comp blk
          rw [if_pos rfl, if_neg (by simpa using h0)]; exact hb))
    · by_cases h0 : q.n.rl = 0
      · exact Or.inl h0
      · exact Or.inr (rowK (ht.resolve_left h0) fun b hb => hne false b (by
          unfold ND.comp blk
          rw [if_neg (by decide), if_neg h0]; exact hb))
  refine ⟨by rw [List.length_set]; exact hrow, fun q hq => ?_, fun a b ma mb s t x ha hb hs ht => ?_⟩
  · obtain ⟨j, hj⟩ := List.mem_iff_getElem?.1 hq
    by_cases e : j = i
    · subst e
      rw [List.getElem?_set_self hil] at hj
      cases hj
      exact ⟨hm, fun s b hb => by rw [hcomp] at hb; exact (h.2.1 m (List.mem_of_getElem? hi)).2 s b hb⟩
    · rw [List.getElem?_set_ne (fun h => e h.symm)] at hj
      have hq' := h.2.1 q (List.mem_of_getElem? hj)
      refine ⟨ownK q hq'.1 fun s b hb => ⟨fun e' => hq'.2 s b hb (by rw [e']; rfl), fun e' => ?_, fun e' => ?_⟩, hq'.2⟩
      · exact e (h.2.2 j i q m s true b hj hi hb e').1
      · exact e (h.2.2 j i q m s false b hj hi hb e').1
  · have get : ∀ (a : Nat) (ma : ND), (ms.set i m')[a]? = some ma → ∃ ma' : ND, ms[a]? = some ma' ∧ ∀ s, ma.comp s = ma'.comp s := fun a ma ha => by
      by_cases e : a = i
      · subst e
        rw [List.getElem?_set_self hil] at ha
        cases ha
        exact ⟨m, hi, hcomp⟩
      · rw [List.getElem?_set_ne (fun h => e h.symm)] at ha
        exact ⟨ma, ha, fun _ => rfl⟩
    obtain ⟨ma', h1, h2⟩ := get a ma ha
    obtain ⟨mb', h3, h4⟩ := get b mb hb
    exact h.2.2 a b ma' mb' s t x h1 h3 (by rw [← h2]; exact hs) (by rw [← h4]; exact ht)
/-- Nothing but blocks from lo to hi has turned. -/
structure MkFr (lo hi : Nat) (w w' : World) : Prop where
  os : w'.os = w.os
  tape : w'.tape = w.tape
  output : w'.output = w.output
  size : w.heap.size ≤ w'.heap.size
  block : ∀ k, k < w.heap.size → (k < lo ∨ hi ≤ k) → w'.heap[k]? = w.heap[k]?
theorem MkFr.refl (lo hi : Nat) (w : World) : MkFr lo hi w w := ⟨rfl, rfl, rfl, Nat.le_refl _, fun _ _ _ => rfl⟩
theorem MkFr.grown {lo hi : Nat} {w u u' : World} {row : Option Nat} (h : MkFr lo hi w u) (hg : u.grownBy u' row) (hr : ∀ b, row = some b → lo ≤ b ∧ b < hi) : MkFr lo hi w u' :=
  ⟨hg.os.trans h.os, hg.tape.trans h.tape, hg.output.trans h.output, Nat.le_trans h.size hg.size, fun k hk h1 => (hg.block k (Nat.lt_of_lt_of_le hk h.size) (fun e => by have := hr k e.symm; omega)).trans (h.block k hk h1)⟩
/-- A node's children marked. -/
theorem markK (lo k : Nat) (K : Int) (v : Value) (zs : List Int) (w : World) (hn : zs.length ≤ 2097152) (hk2 : k ≤ 4294967296) (hK : K = k) (h : KRow lo v zs w) :
    Calls Try.prog 121 #[v, .int .i64 K] w fun e w' => e = .returned (.int .i64 (K + zs.length)) ∧ KRow lo v (mksI k zs.length) w' ∧ w.grownBy w' (blk v zs.length) := by
  obtain ⟨a, c, e, h⟩ := h
  by_cases h0 : zs = []
  · subst h0
    subst e
    refine (markI_none a c K w).mono fun e w' ⟨he, hw⟩ => ?_
    subst hw
    exact ⟨by rw [he]; simp, ⟨a, c, rfl, Or.inl rfl⟩, World.grownBy.refl _ _⟩
  · refine (markI_int2 lo k K v zs w hn hk2 hK (h.resolve_left h0)).mono fun e' w' ⟨he, hr, hg⟩ => ?_
    exact ⟨he, ⟨a, c, by rw [mksI_len]; exact e, Or.inr hr⟩, by unfold blk; rw [if_neg (by simpa using h0)]; exact hg⟩
theorem markT (lo k : Nat) (K : Int) (v : Value) (n : Nat) (zs : List Int) (w : World) (hn : n ≤ 2097152) (hk2 : k ≤ 4294967296) (hK : K = k) (h : TRow lo v n zs w) :
    Calls Try.prog 88 #[v, .int .i64 K] w fun e w' => e = .returned (.int .i64 (K + n * 3)) ∧ TRow lo v n (mksI k (n * 3)) w' ∧ w.grownBy w' (blk v n) := by
  obtain ⟨a, c, e, h⟩ := h
  by_cases h0 : n = 0
  · subst h0
    subst e
    refine (markR_none a c K w).mono fun e w' ⟨he, hw⟩ => ?_
    subst hw
    exact ⟨by rw [he]; simp, ⟨a, c, rfl, Or.inl rfl⟩, World.grownBy.refl _ _⟩
  · have hr := h.resolve_left h0
    rcases hr.2 with ⟨_, h2⟩ | ⟨g, cap, cur, h1, _⟩
    · exact absurd h2 h0
    · subst h1
      refine (markRS_full g cap n lo k K zs w hn hk2 hK hr).mono fun e' w' ⟨he, hr', hg⟩ => ?_
      exact ⟨he, ⟨_, cap, rfl, Or.inr hr'⟩, by unfold blk; rw [if_neg h0]; exact hg⟩
/-- The row behind a node's marks. -/
theorem marked_row (ms : List ND) {i : Nat} {m : ND} (hi : ms[i]? = some m) (K : Nat) :
    setL ((cellsN ms).set (i * 64) (.int .i64 (K : Int))) (i * 64 + 2) ((List.range 61).map (mkV (K + 1 + m.n.kids.length))) = cellsN (ms.set i (mkM K m)) := by
  have hil := (List.getElem?_eq_some_iff.1 hi).1
  have hcl := cellsN_len ms
  rw [← cellsN_set ms hil]
  apply List.ext_getElem?
  intro q
  rw [setL_at _ _ _ _ (by simp [hcl]; omega), setL_at _ _ _ _ (by rw [ND.cells_len, hcl]; omega), ND.cells_len, mkM_cells]
  simp only [List.length_map, List.length_range]
  have hc := fun j (hj : j < 64) => cellsN_at ms i j hj
  rw [hi] at hc
  by_cases h1 : i * 64 + 2 ≤ q ∧ q < i * 64 + 2 + 61
  · rw [if_pos h1, if_pos (by omega), show q - i * 64 = (q - (i * 64 + 2)) + 1 + 1 by omega, List.getElem?_cons_succ, List.getElem?_cons_succ, List.getElem?_append_left (by simp; omega)]
  · rw [if_neg h1]
    by_cases h2 : q = i * 64
    · subst h2
      rw [List.getElem?_set_self (by omega), if_pos (by omega), Nat.sub_self]; rfl
    · rw [List.getElem?_set_ne (fun e => h2 e.symm)]
      by_cases h3 : q = i * 64 + 1
      · subst h3
        rw [if_pos (by omega), hc 1 (by omega), show i * 64 + 1 - i * 64 = 1 by omega]; rfl
      · by_cases h4 : q = i * 64 + 63
        · subst h4
          rw [if_pos (by omega), hc 63 (by omega), show i * 64 + 63 - i * 64 = 63 by omega]
          exact nL_tab
        · rw [if_neg (by omega)]
def MnRel (lo g cap hi K : Nat) (ms0 : List ND) (w : World) (q i : Value) (wr : World) : Prop :=
  ∃ k : Nat, k ≤ ms0.length ∧ i = .int .i64 k ∧ q = .int .i64 (nxL K (ms0.take k) : Nat) ∧ OwnN lo (.slice (some ⟨g, 0, none⟩) ms0.length cap) (mkL K (ms0.take k) ++ ms0.drop k) wr ∧ MkFr lo hi w wr
end Go.Proofs.Ytbfhipfflomokaa

import Derived.OwnWalk
import Derived.Deep.QuietTactic
import Derived.BigQuiet
import Derived.Deep.CutRange
import Derived.Deep.CutBlock
import Derived.Test.YtckpjldenkjddaaZtAA
import Derived.Test.YtckpjldenkjddaaZtAK
import Derived.Test.YtckpjldenkjddaaZtAM
import Derived.Test.YtckpjldenkjddaaZtAN
import Derived.Test.YtckpjldenkjddaaZtAU
import Derived.Test.YtckpjldenkjddaaZtAW
section
namespace Go.Proofs.Ytckpjldenkjddaa
open Go.ChangeShapes Go.WideShapes Go.ChangeAt Go.RowKit
set_option linter.unusedVariables false

/-- Is there a node z of len? -/
def nIn (len : Nat) (z : Int) : Bool := decide (1 ≤ z ∧ z ≤ (len : Int))
/-- The node z, of which there is one. -/
def ndAt (ns : List PN) (z : Int) : PN := ns[(z - 1).toNat]?.getD default
def upZ (ns : List PN) (z : Int) : Int := (ndAt ns z).up
theorem nIn_iff {len : Nat} {z : Int} : nIn len z = true ↔ 1 ≤ z ∧ z ≤ (len : Int) := by simp [nIn]
theorem nIn_no {len : Nat} {z : Int} : nIn len z = false ↔ ¬ (1 ≤ z ∧ z ≤ (len : Int)) := by simp [nIn]
theorem ndAt_get {ns : List PN} {z : Int} (h : 1 ≤ z ∧ z ≤ (ns.length : Int)) (hl : (z - 1).toNat < ns.length) : ndAt ns z = ns[(z - 1).toNat] := by
  unfold ndAt; rw [List.getElem?_eq_getElem hl]; rfl
/-- The depth of z, if it is found within f steps. -/
def dpF (ns : List PN) : Nat → Int → Nat → Int
  | 0, z, k => if z = 0 then (k : Int) else 0
  | f + 1, z, k => if z = 0 then (k : Int) else if nIn ns.length z = true then dpF ns f (upZ ns z) (k + 1) else 0
def dpV (ns : List PN) (z : Int) : Int := dpF ns ns.length z 0
/-- Is z under top, within f steps? -/
def unF (ns : List PN) (top : Int) : Nat → Int → Bool
  | 0, _ => false
  | f + 1, z => if nIn ns.length z = true then (if upZ ns z = top then nIn ns.length top else unF ns top f (upZ ns z)) else false
def unV (ns : List PN) (z top : Int) : Bool := unF ns top ns.length z

/-- The way up from z. -/
def wayZ (ns : List PN) (z : Int) : Nat → Int
  | 0 => z
  | j + 1 => upZ ns (wayZ ns z j)
theorem wayZ_up (ns : List PN) (z : Int) : ∀ j, wayZ ns (upZ ns z) j = wayZ ns z (j + 1)
  | 0 => rfl
  | j + 1 => by rw [wayZ, wayZ_up ns z j]; rfl
theorem unF_iff (ns : List PN) (top : Int) : ∀ (f : Nat) (z : Int), unF ns top f z = true ↔ nIn ns.length top = true ∧ ∃ j, j < f ∧ (∀ i, i ≤ j → nIn ns.length (wayZ ns z i) = true) ∧ wayZ ns z (j + 1) = top
  | 0, z => by simp [unF]
  | f + 1, z => by
    rw [unF]
    by_cases h : nIn ns.length z = true
    · rw [if_pos h]
      by_cases h2 : upZ ns z = top
      · rw [if_pos h2]
        constructor
        · intro ht
          exact ⟨ht, 0, by omega, fun i hi => by obtain rfl : i = 0 := by omega
                                                 exact h, h2⟩
        · exact fun ⟨ht, _⟩ => ht
      · rw [if_neg h2, unF_iff ns top f]
        constructor
        · rintro ⟨ht, j, hj, hin, hw⟩
          refine ⟨ht, j + 1, by omega, fun i hi => ?_, by rw [← wayZ_up]; exact hw⟩
          cases i with
          | zero => exact h
          | succ i => rw [← wayZ_up]; exact hin i (by omega)
        · rintro ⟨ht, j, hj, hin, hw⟩
          cases j with
          | zero => exact absurd hw h2
          | succ j => exact ⟨ht, j, by omega, fun i hi => by rw [wayZ_up]; exact hin (i + 1) (by omega), by rw [wayZ_up]; exact hw⟩
    · rw [if_neg h]
      constructor
      · intro h'; cases h'
      · rintro ⟨_, j, _, hin, _⟩
        exact absurd (hin 0 (Nat.zero_le _)) h
theorem nodup_small : ∀ (n : Nat) (l : List Nat), l.Nodup → (∀ x ∈ l, x < n) → l.length ≤ n
  | 0, [], _, _ => by simp
  | 0, x :: l, _, h => absurd (h x (by simp)) (Nat.not_lt_zero _)
  | n + 1, l, hd, h => by
    by_cases hn : n ∈ l
    · have h1 := nodup_small n (l.erase n) (hd.erase n) (fun x hx => by
        have h2 := (List.Nodup.mem_erase_iff hd).1 hx
        have h3 := h x h2.2
        have h4 := h2.1
        omega)
      rw [List.length_erase_of_mem hn] at h1
      omega
    · have h1 := nodup_small n l hd (fun x hx => by
        have h3 := h x hx
        have h4 : x ≠ n := fun e => hn (e ▸ hx)
        omega)
      omega
/-- Among len + 1 nodes of len, two are the same. -/
theorem pigeon {len : Nat} {p : Nat → Int} (h : ∀ i, i ≤ len → nIn len (p i) = true) : ∃ a b, a < b ∧ b ≤ len ∧ p a = p b := by
  by_cases hno : ∃ a b, a < b ∧ b ≤ len ∧ p a = p b
  · exact hno
  · have hnd : ((List.range (len + 1)).map fun i => (p i - 1).toNat).Nodup := by
      refine List.pairwise_map.2 (List.Pairwise.imp_of_mem (fun {a b} ha hb hab => ?_) List.pairwise_lt_range)
      have h1 := nIn_iff.1 (h a (by have := List.mem_range.1 ha; omega))
      have h2 := nIn_iff.1 (h b (by have := List.mem_range.1 hb; omega))
      intro e
      exact hno ⟨a, b, hab, by have := List.mem_range.1 hb; omega, by omega⟩
    have hle := nodup_small len _ hnd (fun x hx => by
      obtain ⟨i, hi, rfl⟩ := List.mem_map.1 hx
      have h1 := nIn_iff.1 (h i (by have := List.mem_range.1 hi; omega))
      omega)
    simp at hle
    omega
theorem wayZ_add (ns : List PN) (z : Int) (a : Nat) : ∀ j, wayZ ns z (a + j) = wayZ ns (wayZ ns z a) j
  | 0 => rfl
  | j + 1 => by rw [← Nat.add_assoc, wayZ, wayZ_add ns z a j]; rfl
theorem unF_more (ns : List PN) (top z : Int) : unF ns top (ns.length + 1) z = unV ns z top := by
  unfold unV
  rw [Bool.eq_iff_iff, unF_iff, unF_iff]
  constructor
  · rintro ⟨ht, j, hj, hin, hw⟩
    by_cases hl : j < ns.length
    · exact ⟨ht, j, hl, hin, hw⟩
    · obtain rfl : j = ns.length := by omega
      obtain ⟨a, b, hab, hb, e⟩ := pigeon hin
      have key : ∀ q, wayZ ns z (a + q) = wayZ ns z (b + q) := fun q => by rw [wayZ_add, wayZ_add, e]
      have h1 := key (ns.length + 1 - b)
      rw [show b + (ns.length + 1 - b) = ns.length + 1 by omega, hw] at h1
      exact ⟨ht, a + (ns.length - b), by omega, fun i hi => hin i (by omega), by rw [← h1]; congr 1; omega⟩
  · rintro ⟨ht, j, hj, hin, hw⟩
    exact ⟨ht, j, by omega, hin, hw⟩
set_option linter.unusedVariables false

/-- How often x stands in zs. -/
def cntZ (zs : List Int) (x : Int) : Nat := zs.count x
theorem cntZ_take {zs : List Int} {j : Nat} (x : Int) (h : j < zs.length) : cntZ (zs.take (j + 1)) x = cntZ (zs.take j) x + if zs.getD j 0 = x then 1 else 0 := by
  unfold cntZ
  rw [List.take_succ_eq_append_getElem h, List.count_append, List.count_singleton, show zs.getD j 0 = zs[j] by rw [List.getD_eq_getElem?_getD, List.getElem?_eq_getElem h]; rfl]
  by_cases e : zs[j] = x <;> simp [e]
theorem cntZ_le (zs : List Int) (x : Int) : cntZ zs x ≤ zs.length := List.count_le_length
def upOk (ns : List PN) (i : Nat) (n : PN) : Bool := n.up == 0 || (nIn ns.length n.up && cntZ (ndAt ns n.up).kids ((i : Int) + 1) == 1)
def kidOk (ns : List PN) (i : Nat) (z : Int) : Bool := nIn ns.length z && upZ ns z == (i : Int) + 1
def kidsOk (ns : List PN) (i : Nat) (n : PN) : Bool := n.kids.all (kidOk ns i)
def conOk (n : PN) : Bool := if n.meas then n.kids.isEmpty && tokB n.rules n.rl else n.rl == 0
def depOk (ns : List PN) (i : Nat) : Bool := decide (1 ≤ dpV ns ((i : Int) + 1) ∧ dpV ns ((i : Int) + 1) ≤ 4)
def nodeB (ns : List PN) (i : Nat) (n : PN) : Bool := styOk n.sty && upOk ns i n && kidsOk ns i n && conOk n && depOk ns i
def treeB (ns : List PN) : Bool := decide (ns.length ≤ 12) && (List.range ns.length).all fun i => nodeB ns i (ns[i]?.getD default)
theorem tree_len {ns : List PN} (h : ¬ ns.length ≤ 12) : treeB ns = false := by unfold treeB; rw [decide_eq_false h]; rfl
theorem tree_bad {ns : List PN} {i : Nat} (hi : i < ns.length) (h : nodeB ns i ns[i] = false) : treeB ns = false := by
  unfold treeB
  have : ((List.range ns.length).all fun i => nodeB ns i (ns[i]?.getD default)) = false := by
    rw [List.all_eq_false]
    exact ⟨i, List.mem_range.2 hi, by rw [List.getElem?_eq_getElem hi]; simp [h]⟩
  rw [this, Bool.and_false]
theorem tree_good {ns : List PN} (hl : ns.length ≤ 12) (h : ∀ i (hi : i < ns.length), nodeB ns i ns[i] = true) : treeB ns = true := by
  unfold treeB
  rw [decide_eq_true hl, Bool.true_and, List.all_eq_true]
  intro i hi
  have hi := List.mem_range.1 hi
  rw [List.getElem?_eq_getElem hi]
  exact h i hi
theorem treeB_len {ns : List PN} (h : treeB ns = true) : ns.length ≤ 12 := by
  unfold treeB at h
  simp only [Bool.and_eq_true, decide_eq_true_eq] at h
  exact h.1
theorem treeB_node {ns : List PN} (h : treeB ns = true) {i : Nat} (hi : i < ns.length) : nodeB ns i ns[i] = true := by
  unfold treeB at h
  simp only [Bool.and_eq_true, List.all_eq_true] at h
  have := h.2 i (List.mem_range.2 hi)
  rwa [List.getElem?_eq_getElem hi] at this
theorem kids_bad {ns : List PN} {i j : Nat} {n : PN} (hj : j < n.kids.length) (h : kidOk ns i (n.kids.getD j 0) = false) : kidsOk ns i n = false := by
  unfold kidsOk
  rw [List.all_eq_false]
  refine ⟨n.kids[j], List.getElem_mem hj, ?_⟩
  rw [show n.kids.getD j 0 = n.kids[j] by rw [List.getD_eq_getElem?_getD, List.getElem?_eq_getElem hj]; rfl] at h
  simp [h]
theorem kids_good {ns : List PN} {i : Nat} {n : PN} (h : ∀ j, j < n.kids.length → kidOk ns i (n.kids.getD j 0) = true) : kidsOk ns i n = true := by
  unfold kidsOk
  rw [List.all_eq_true]
  intro z hz
  obtain ⟨j, hj, rfl⟩ := List.getElem_of_mem hz
  have := h j hj
  rwa [show n.kids.getD j 0 = n.kids[j] by rw [List.getD_eq_getElem?_getD, List.getElem?_eq_getElem hj]; rfl] at this

set_option linter.unusedVariables false
set_option linter.unusedSimpArgs false
set_option maxRecDepth 8000

theorem sl10is (a : Option Addr) (len cap : Nat) (z : Int) (w : World) :
    Calls Try.prog 69 #[.agg #[.slice a len cap], .int .i64 z] w fun e w' => e = .returned (.bool (nIn len z)) ∧ Below w.heap.size w w' := by
  go_enter Try.func69, Try.ntmps69
  go_wp2_with (fail)
  refine (srng z 1 len _).mono ?_
  rintro e w1 ⟨rfl, rfl⟩
  go_wp2
  go_ret
  exact ⟨rfl, Go.Joins.below_alloc1 ..⟩
theorem fldUp (u : Int) (k : Value) (f : Nat → Int) (m : Bool) (t : Value) (w : World) : (Instr.field 61 (.agg (nA u k f m t)) 0).run Try.prog w = .ok (.int .i64 u) w := by kernel_rfl
theorem list_field {ops : Array Oper} {rest : List Oper} {op : Oper} {a : Act} {w : World} {Q : Exit → Act → World → Prop} {arr : Array Value} {r : Value} {ty : TypeId} {i : Nat} (hgd : op.guard = none) (x : Operand) (ho : op.op = .field ty x i) (hx : a.eval x = .agg arr) (hf : (Instr.field ty (.agg arr) i).run Try.prog w = .ok r w)
    (h : wpList Try.prog ops Q rest (a.put op.dst r) w) : wpList Try.prog ops Q (op :: rest) a w := by
  refine wpList_plain hgd fun K hK => ?_
  have e : (execOp a.eval op).run Try.prog w = .ok (.value r) w := by
    unfold execOp
    simp only [ho, hx]
    rw [Sem.run_bind, hf]
    rfl
  unfold Oper.wp
  rw [e, Oper.upon_value]
  exact hK _ _ h
set_option maxHeartbeats 1000000 in
theorem sl10nd (b off len cap k : Nat) (z : Int) (n : PN) (kv tv : Value) (w : World) (hzk : z = (k : Int) + 1) (hk : k < len) (hl : len ≤ 1048576) (hrg : w.rangeAt b (off + k * 64) (nL n.up kv n.sty n.meas tv)) (hk1 : kv.oneCell' = true) (ht1 : tv.oneCell' = true) :
    Calls Try.prog 70 #[.agg #[.slice (some ⟨b, off, none⟩) len cap], .int .i64 z] w fun e w' => e = .returned (.agg (nA n.up kv n.sty n.meas tv)) ∧ Below w.heap.size w w' := by
  subst hzk
  obtain ⟨u0, eu0⟩ : ∃ u0, u0 = w.alloc (.cells #[.slice (some ⟨b, off, none⟩) len cap] 26) := ⟨_, rfl⟩
  obtain ⟨u1, eu1⟩ : ∃ u1, u1 = u0.alloc (.cells nZ 61) := ⟨_, rfl⟩
  have s0 : u0.heap.size = w.heap.size + 1 := by rw [eu0]; simp
  have H0 : u1.heap[w.heap.size]? = some (.cells #[.slice (some ⟨b, off, none⟩) len cap] 26) := by rw [eu1, eu0]; exact hp_on (hp_new w _) _
  have H1 : u1.heap[w.heap.size + 1]? = some (.cells nZ 61) := by rw [eu1, ← s0]; exact hp_new u0 _
  have BB : Below w.heap.size w u1 := by rw [eu1, eu0]; exact Go.Joins.below_alloc2 ..
  have RG := Lib.hid (rg_below hrg BB)
  have c0 : u1.cell? ⟨w.heap.size, 0, none⟩ = some (.slice (some ⟨b, off, none⟩) len cap) := (Go.Joins.cell_of_block H0 0).trans rfl
  have T1 := Lib.hid (there_block H1 0 64 (by show 0 + 64 ≤ nZ.size; rw [nZ, nA_size]; decide))
  obtain ⟨u2, eu2⟩ : ∃ u2, u2 = u1.setCells (w.heap.size + 1) 0 (nL n.up kv n.sty n.meas tv) := ⟨_, rfl⟩
  have H2 := hp_puts (nL n.up kv n.sty n.meas tv) 0 _ u1 H1
  rw [putA_all _ _ (by rw [nL_len]; exact (nA_size ..).symm), ← eu2] at H2
  have H2' : u2.heap[w.heap.size + 1]? = some (.cells (nA n.up kv n.sty n.meas tv) 61) := H2
  have B2 := below_cells (g := w.heap.size + 1) (by omega) (nL n.up kv n.sty n.meas tv) 0 u1 BB
  rw [← eu2] at B2
  have EU0 := Lib.hid eu0
  have EU1 := Lib.hid eu1
  have EU2 := Lib.hid eu2
  have G2 := Lib.hid H2'
  have GB := Lib.hid B2
  have hlo : (0 : Int) ≤ (k : Int) := Int.natCast_nonneg _
  have hhi : (k : Int) < (len : Int) := by omega
  clear eu0 eu1 eu2 H0 H1 H2 H2' BB B2 hrg s0
  go_enter Try.func70, Try.ntmps70
  go_wp2_with (first
    | ((with_reducible apply list_alloc_nd); exact rfl; exact rfl; simp only [World.size_alloc, Act.put, List.setIfInBounds_toArray, List.set_cons_succ, List.set_cons_zero])
    | (rw [← EU0.out])
    | (rw [← EU1.out])
    | ((with_reducible apply list_load_nd); exact rfl; exact rfl; exact rfl; (with_reducible exact RG.out); simp only [Act.put, List.setIfInBounds_toArray, List.set_cons_succ, List.set_cons_zero])
    | ((with_reducible apply list_store_nd); exact rfl; exact rfl; exact rfl; exact rfl; (with_reducible exact T1.out); (with_reducible exact hk1); (with_reducible exact ht1); simp only [Act.put, List.setIfInBounds_toArray, List.set_cons_succ, List.set_cons_zero])
    | (rw [← EU2.out])
    | fail)
  exact bodyPost_ret (results_nd rfl rfl G2.out) rfl ⟨rfl, GB.out⟩
/-- The node z read. -/
theorem nd_look {w : World} {a : Option Addr} {ns : List PN} (h : Nds w a ns) {z : Int} (hz : nIn ns.length z = true) :
    ∃ (b off k : Nat) (kv tv : Value), a = some ⟨b, off, none⟩ ∧ z = (k : Int) + 1 ∧ k < ns.length ∧ ndAt ns z = ns.getD k default ∧ (ndAt ns z).ok ∧ w.rangeAt b (off + k * 64) (nL (ndAt ns z).up kv (ndAt ns z).sty (ndAt ns z).meas tv) ∧ KAt w kv (ndAt ns z).kids ∧ TAt w tv (ndAt ns z).rl (ndAt ns z).rules := by
  have h1 := nIn_iff.1 hz
  have hk : (z - 1).toNat < ns.length := by omega
  obtain ⟨b, off, ha, _, ⟨kv, tv, hrg, hkk, htt⟩⟩ := h.look hk
  have e := ndAt_get h1 hk
  refine ⟨b, off, (z - 1).toNat, kv, tv, ha, by omega, hk, ?_, ?_, ?_, ?_, ?_⟩
  · rw [e, List.getD_eq_getElem?_getD, List.getElem?_eq_getElem hk]; rfl
  · rw [e]; exact h.1 _ (List.getElem_mem hk)
  · rw [e]; exact hrg
  · rw [e]; exact hkk
  · rw [e]; exact htt
def SdRel (ns : List PN) (z0 : Int) (w u : World) (n i : Value) (wr : World) : Prop :=
  ∃ (k : Nat) (z : Int), n = .int .i64 z ∧ i = .int .i64 k ∧ I64 z ∧ k ≤ ns.length + 1 ∧ (k ≤ ns.length → dpV ns z0 = dpF ns (ns.length - k) z k) ∧ (k = ns.length + 1 → dpV ns z0 = 0) ∧ Below u.heap.size u wr
theorem dpF_zero (ns : List PN) (f k : Nat) : dpF ns f 0 k = (k : Int) := by cases f <;> rfl
set_option maxHeartbeats 2000000 in
theorem sdepthof (a : Option Addr) (cap : Nat) (ns : List PN) (z0 : Int) (w : World) (hz : Nds w a ns) (hl : ns.length ≤ 1048576) (hz0 : I64 z0) :
    Calls Try.prog 79 #[.agg #[.slice a ns.length cap], .int .i64 z0] w fun e w' => e = .returned (.int .i64 (dpV ns z0)) ∧ Below w.heap.size w w' := by
  have h0 := hp_new w (.cells #[.slice a ns.length cap] 26)
  have bb := Go.Joins.below_alloc1 w (.cells #[.slice a ns.length cap] 26)
  obtain ⟨u, eu⟩ : ∃ u, u = w.alloc (.cells #[.slice a ns.length cap] 26) := ⟨_, rfl⟩
  have hus : w.heap.size + 1 = u.heap.size := by rw [eu]; simp
  rw [← eu] at h0 bb
  have EU := Lib.hid eu
  clear eu
  have HZ := Lib.hid (hz.below bb)
  have H0 := Lib.hid h0
  have BB := Lib.hid bb
  have HUS := Lib.hid hus
  have HI := Lib.hid hz0
  clear hz h0 bb hus hz0
  go_enter Try.func79, Try.ntmps79
  go_wp2_with (rw [← EU.out])
  go_loopw [1, 5] (SdRel ns z0 w u) (fun _ i _ => ns.length + 1 - (intOf i).toNat)
  case atStart => exact ⟨0, z0, rfl, rfl, HI.out, Nat.zero_le _, fun _ => rfl, fun h => by omega, Below.refl _ _⟩
  case round =>
    obtain ⟨k, z, rfl, rfl, hzi, hk, hd1, hd2, hb⟩ := hrel
    have h00 := (hb.block w.heap.size (by rw [← HUS.out]; omega)).trans H0.out
    have t0 := Go.Joins.cell_of_block h00 0
    simp at t0
    have HB := Lib.hid hb
    have HD1 := Lib.hid hd1
    have HD2 := Lib.hid hd2
    clear hb hd1 hd2 h00
    by_cases hle : k ≤ ns.length
    · have hlo : (0 : Int) ≤ (k : Int) := Int.natCast_nonneg _
      have hhi : (k : Int) ≤ (ns.length : Int) := by omega
      by_cases h0 : z = 0
      · subst h0
        have hv := HD1.out hle
        rw [dpF_zero] at hv
        have HV := Lib.hid hv
        clear hv
        go_wp2
        go_ret
        exact ⟨by rw [HV.out]; rfl, BB.out.trans (HB.out.mono BB.out.size)⟩
      · go_wp2_with (fail)
        refine (sl10is a ns.length cap z _).mono ?_
        rintro e w1 ⟨rfl, b1⟩
        have hb1 := HB.out.trans (b1.mono HB.out.size)
        have h01 := (hb1.block w.heap.size (by rw [← HUS.out]; omega)).trans H0.out
        replace t0 := Go.Joins.cell_of_block h01 0
        simp at t0
        by_cases hin : nIn ns.length z = true
        · obtain ⟨b, off, q, kv, tv, rfl, hzq, hq, hgd, hok, hrg, hkv, htv⟩ := nd_look (HZ.out.below hb1) hin
          have h63 : -9223372036854775808 ≤ upZ ns z ∧ upZ ns z ≤ 9223372036854775807 := hok.1
          have hstep : ns.length - k = 0 → dpV ns z0 = 0 := fun e => by have := HD1.out hle; rw [e] at this; rw [this, dpF, if_neg h0]
          have hstep2 : ∀ q, ns.length - k = q + 1 → dpV ns z0 = dpF ns q (upZ ns z) (k + 1) := fun q e => by have := HD1.out hle; rw [e] at this; rw [this, dpF, if_neg h0, if_pos hin]
          have S1 := Lib.hid hstep
          have S2 := Lib.hid hstep2
          have HZQ := Lib.hid hzq
          have HB1 := Lib.hid hb1
          have HRG := Lib.hid hrg
          have K1 := Lib.hid hkv.one
          have T1 := Lib.hid htv.one
          have hup : upZ ns z = (ndAt ns z).up := rfl
          rw [hin]
          clear hstep hstep2 hb1 b1 h01 hrg hkv htv hzq hgd
          dsimp only
          go_wp2_with (fail)
          refine (sl10nd b off ns.length cap q z (ndAt ns z) kv tv _ HZQ.out hq hl HRG.out K1.out T1.out).mono ?_
          rintro e w2 ⟨rfl, b2⟩
          have hb2 := HB1.out.trans (b2.mono HB1.out.size)
          have HB2 := Lib.hid hb2
          have ff := fldUp (ndAt ns z).up kv (ndAt ns z).sty (ndAt ns z).meas tv w2
          rw [← hup] at ff ⊢
          have FF := Lib.hid ff
          clear hb2 b2 ff
          generalize upZ ns z = y at *
          dsimp only
          go_wp2_with (first
            | ((with_reducible apply list_field); exact rfl; exact rfl; exact rfl; (with_reducible exact FF.out); simp only [Act.put, List.setIfInBounds_toArray, List.set_cons_succ, List.set_cons_zero])
            | fail)
          go_roundw
          case rel =>
            refine ⟨k + 1, y, rfl, by go_num, h63, by omega, fun h => ?_, fun h => S1.out (by omega), HB2.out⟩
            exact S2.out _ (by omega)
          case measure => simp [intOf]; omega
        · have hin' : nIn ns.length z = false := by simpa using hin
          have hv : dpV ns z0 = 0 := by
            rw [HD1.out hle]
            cases ns.length - k with
            | zero => rw [dpF, if_neg h0]
            | succ f => rw [dpF, if_neg h0, if_neg hin]
          have HV := Lib.hid hv
          have HB1 := Lib.hid hb1
          rw [hin']
          clear hv hb1 b1 h01
          dsimp only
          go_wp2
          go_ret
          exact ⟨by rw [HV.out]; rfl, BB.out.trans (HB1.out.mono BB.out.size)⟩
    · obtain rfl : k = ns.length + 1 := by omega
      have hv := HD2.out rfl
      have HV := Lib.hid hv
      clear hv
      go_wp2
      go_ret
      exact ⟨by rw [HV.out]; rfl, BB.out.trans (HB.out.mono BB.out.size)⟩
def SuRel (ns : List PN) (z0 top : Int) (u : World) (n i : Value) (wr : World) : Prop :=
  ∃ (k : Nat) (z : Int), n = .int .i64 z ∧ i = .int .i64 k ∧ I64 z ∧ k ≤ ns.length + 1 ∧ unF ns top (ns.length + 1) z0 = unF ns top (ns.length + 1 - k) z ∧ Below u.heap.size u wr
set_option maxHeartbeats 2000000 in
theorem sisunder (a : Option Addr) (cap : Nat) (ns : List PN) (z0 top : Int) (w : World) (hz : Nds w a ns) (hl : ns.length ≤ 1048576) (hz0 : I64 z0) :
    Calls Try.prog 47 #[.agg #[.slice a ns.length cap], .int .i64 z0, .int .i64 top] w fun e w' => e = .returned (.bool (unV ns z0 top)) ∧ Below w.heap.size w w' := by
  have h0 := hp_new w (.cells #[.slice a ns.length cap] 26)
  have bb := Go.Joins.below_alloc1 w (.cells #[.slice a ns.length cap] 26)
  obtain ⟨u, eu⟩ : ∃ u, u = w.alloc (.cells #[.slice a ns.length cap] 26) := ⟨_, rfl⟩
  have hus : w.heap.size + 1 = u.heap.size := by rw [eu]; simp
  rw [← eu] at h0 bb
  rw [← unF_more]
  have EU := Lib.hid eu
  clear eu
  have HZ := Lib.hid (hz.below bb)
  have H0 := Lib.hid h0
  have BB := Lib.hid bb
  have HUS := Lib.hid hus
  have HI := Lib.hid hz0
  clear hz h0 bb hus hz0
  go_enter Try.func47, Try.ntmps47
  go_wp2_with (rw [← EU.out])
  go_loopw [1, 7] (SuRel ns z0 top u) (fun _ i _ => ns.length + 1 - (intOf i).toNat)
  case atStart => exact ⟨0, z0, rfl, rfl, HI.out, Nat.zero_le _, rfl, Below.refl _ _⟩
  case round =>
    obtain ⟨k, z, rfl, rfl, hzi, hk, hd, hb⟩ := hrel
    have h00 := (hb.block w.heap.size (by rw [← HUS.out]; omega)).trans H0.out
    have t0 := Go.Joins.cell_of_block h00 0
    simp at t0
    have HB := Lib.hid hb
    have HD := Lib.hid hd
    clear hb hd h00
    by_cases hle : k ≤ ns.length
    · have hlo : (0 : Int) ≤ (k : Int) := Int.natCast_nonneg _
      have hhi : (k : Int) ≤ (ns.length : Int) := by omega
      go_wp2_with (fail)
      refine (sl10is a ns.length cap z _).mono ?_
      rintro e w1 ⟨rfl, b1⟩
      have hb1 := HB.out.trans (b1.mono HB.out.size)
      have h01 := (hb1.block w.heap.size (by rw [← HUS.out]; omega)).trans H0.out
      replace t0 := Go.Joins.cell_of_block h01 0
      simp at t0
      obtain ⟨f, hf⟩ : ∃ f, ns.length + 1 - k = f + 1 := ⟨ns.length - k, by omega⟩
      by_cases hin : nIn ns.length z = true
      · obtain ⟨b, off, q, kv, tv, rfl, hzq, hq, hgd, hok, hrg, hkv, htv⟩ := nd_look (HZ.out.below hb1) hin
        have h63 : -9223372036854775808 ≤ upZ ns z ∧ upZ ns z ≤ 9223372036854775807 := hok.1
        have hstep : unF ns top (ns.length + 1) z0 = if upZ ns z = top then nIn ns.length top else unF ns top f (upZ ns z) := by rw [HD.out, hf, unF, if_pos hin]
        have S1 := Lib.hid hstep
        have HF := Lib.hid hf
        have HB1 := Lib.hid hb1
        have HRG := Lib.hid hrg
        have K1 := Lib.hid hkv.one
        have T1 := Lib.hid htv.one
        have HZQ := Lib.hid hzq
        have hup : upZ ns z = (ndAt ns z).up := rfl
        rw [hin]
        clear hstep hb1 b1 h01 hrg hkv htv hzq hgd hf
        dsimp only
        go_wp2_with (fail)
        refine (sl10nd b off ns.length cap q z (ndAt ns z) kv tv _ HZQ.out hq hl HRG.out K1.out T1.out).mono ?_
        rintro e w2 ⟨rfl, b2⟩
        have hb2 := HB1.out.trans (b2.mono HB1.out.size)
        have HB2 := Lib.hid hb2
        have h02 := (hb2.block w.heap.size (by rw [← HUS.out]; omega)).trans H0.out
        replace t0 := Go.Joins.cell_of_block h02 0
        simp at t0
        have ff := fldUp (ndAt ns z).up kv (ndAt ns z).sty (ndAt ns z).meas tv w2
        rw [← hup] at ff ⊢
        have FF := Lib.hid ff
        clear hb2 b2 ff h02 hup
        generalize upZ ns z = y at *
        dsimp only
        by_cases hy : y = top
        · subst hy
          go_wp2_with (first
            | ((with_reducible apply list_field); exact rfl; exact rfl; exact rfl; (with_reducible exact FF.out); simp only [Act.put, List.setIfInBounds_toArray, List.set_cons_succ, List.set_cons_zero])
            | fail)
          refine (sl10is (some ⟨b, off, none⟩) ns.length cap y _).mono ?_
          rintro e w3 ⟨rfl, b3⟩
          have hb3 := HB2.out.trans (b3.mono HB2.out.size)
          have hv : unF ns y (ns.length + 1) z0 = nIn ns.length y := by rw [S1.out]; simp
          have HV := Lib.hid hv
          clear hv b3
          go_wp2
          go_ret
          exact ⟨by rw [HV.out]; rfl, BB.out.trans (hb3.mono BB.out.size)⟩
        · go_wp2_with (first
            | ((with_reducible apply list_field); exact rfl; exact rfl; exact rfl; (with_reducible exact FF.out); simp only [Act.put, List.setIfInBounds_toArray, List.set_cons_succ, List.set_cons_zero])
            | fail)
          go_roundw
          case rel =>
            refine ⟨k + 1, y, rfl, by go_num, h63, by omega, ?_, HB2.out⟩
            rw [S1.out, if_neg hy, show ns.length + 1 - (k + 1) = f by have := HF.out; omega]
          case measure => simp [intOf]; omega
      · have hin' : nIn ns.length z = false := by simpa using hin
        have hv : unF ns top (ns.length + 1) z0 = false := by rw [HD.out, hf, unF, if_neg hin]
        have HV := Lib.hid hv
        have HB1 := Lib.hid hb1
        rw [hin']
        clear hv hb1 b1 h01
        dsimp only
        go_wp2
        go_ret
        exact ⟨by rw [HV.out]; rfl, BB.out.trans (HB1.out.mono BB.out.size)⟩
    · obtain rfl : k = ns.length + 1 := by omega
      have hv : unF ns top (ns.length + 1) z0 = false := by rw [HD.out, Nat.sub_self]; rfl
      have HV := Lib.hid hv
      clear hv
      go_wp2
      go_ret
      exact ⟨by rw [HV.out]; rfl, BB.out.trans (HB.out.mono BB.out.size)⟩
set_option linter.unusedVariables false
set_option linter.unusedSimpArgs false
set_option maxRecDepth 8000

def HsRel (zs : List Int) (x : Int) (w : World) (c j : Value) (wr : World) : Prop :=
  ∃ k : Nat, k ≤ zs.length ∧ j = .int .i64 k ∧ c = .int .i64 (cntZ (zs.take k) x : Nat) ∧ wr = w
set_option maxHeartbeats 1000000 in
theorem sl10has (a : Option Addr) (cap : Nat) (zs : List Int) (x : Int) (w : World) (hz : Ints w a zs.length zs) (hl : zs.length ≤ 1048576) :
    Calls Try.prog 80 #[.slice a zs.length cap, .int .i64 x] w fun e w' => e = .returned (.int .i64 (cntZ zs x : Nat)) ∧ w' = w := by
  have HZ := Lib.hid hz
  clear hz
  go_enter Try.func80, Try.ntmps80
  go_wp2_with (fail)
  go_loopw [5, 6] (HsRel zs x w) (fun _ j _ => zs.length - (intOf j).toNat)
  case atStart => exact ⟨0, Nat.zero_le _, rfl, by simp [cntZ], rfl⟩
  case round =>
    obtain ⟨k, hkz, rfl, rfl, rfl⟩ := hrel
    by_cases hlt : k < zs.length
    · obtain ⟨b, off, rfl, _, cc⟩ := HZ.out.look hlt
      have hct := cntZ_take (zs := zs) x hlt
      have hcl := cntZ_le (zs.take k) x
      have hcl2 : cntZ (zs.take k) x ≤ 1048576 := by rw [List.length_take] at hcl; omega
      have hlo : (0 : Int) ≤ (k : Int) := Int.natCast_nonneg _
      have hhi : (k : Int) < (zs.length : Int) := by omega
      have HCT := Lib.hid hct
      clear hct hcl
      generalize zs.getD k 0 = z at *
      by_cases he : z = x
      · subst he
        go_wp2
        go_roundw
        case rel => exact ⟨k + 1, by omega, by go_num, by rw [HCT.out, if_pos rfl]; rfl, rfl⟩
        case measure => simp [intOf]; omega
      · have HN := Lib.hid he
        go_wp2
        go_roundw
        case rel => exact ⟨k + 1, by omega, by go_num, by rw [HCT.out, if_neg HN.out]; rfl, rfl⟩
        case measure => simp [intOf]; omega
    · obtain rfl : k = zs.length := by omega
      rw [List.take_length]
      go_wp2
      go_ret
      exact ⟨rfl, rfl⟩
theorem fldKids (u : Int) (k : Value) (f : Nat → Int) (m : Bool) (t : Value) (w : World) : (Instr.field 61 (.agg (nA u k f m t)) 1).run Try.prog w = .ok k w := by kernel_rfl
theorem list_gfield {ops : Array Oper} {rest : List Oper} {op : Oper} {a : Act} {w : World} {Q : Exit → Act → World → Prop} {arr : Array Value} {r : Value} {ty : TypeId} {i : Nat} (hw : Region.wanted op (yielded ops a.tmps) = true) (x : Operand) (ho : op.op = .field ty x i) (hx : a.eval x = .agg arr) (hf : (Instr.field ty (.agg arr) i).run Try.prog w = .ok r w)
    (h : wpList Try.prog ops Q rest (a.put op.dst r) w) : wpList Try.prog ops Q (op :: rest) a w :=
  wpList_step fun K hK => by
    rw [if_pos hw]
    have e : (execOp a.eval op).run Try.prog w = .ok (.value r) w := by
      unfold execOp
      simp only [ho, hx]
      rw [Sem.run_bind, hf]
      rfl
    unfold Oper.wp
    rw [e, Oper.upon_value]
    exact hK _ _ h
theorem quiet_field {C : World → Prop} {K : Act → Prop} {a : Act} {o : Oper} {x : Operand} {arr : Array Value} {r : Value} {ty : TypeId} {i : Nat} (ho : o.op = .field ty x i) (hx : a.eval x = .agg arr) (hf : ∀ w, (Instr.field ty (.agg arr) i).run Try.prog w = .ok r w) (h : K (a.put o.dst r)) : o.quiet Try.prog a C K :=
  ⟨r, fun w _ => by
    unfold Oper.quietAt execOp
    simp only [ho, hx]
    rw [Sem.run_bind, hf]
    exact ⟨rfl, rfl⟩, h⟩
/-- A depth that is found: the parent is there. -/
theorem dep_up {ns : List PN} {i : Nat} (hi : i < ns.length) (h : depOk ns i = true) (h0 : ns[i].up ≠ 0) : nIn ns.length ns[i].up = true := by
  unfold depOk dpV at h
  have h1 := of_decide_eq_true h
  have hin : nIn ns.length ((i : Int) + 1) = true := nIn_iff.2 (by omega)
  have hnd : upZ ns ((i : Int) + 1) = ns[i].up := by
    unfold upZ
    rw [ndAt_get (by omega) (by omega)]
    congr 2
    omega
  obtain ⟨f, hf⟩ : ∃ f, ns.length = f + 1 := ⟨ns.length - 1, by omega⟩
  rw [hf, dpF, if_neg (by omega), if_pos hin, hnd] at h1
  cases f with
  | zero => rw [dpF, if_neg h0] at h1; omega
  | succ f =>
    rw [dpF, if_neg h0] at h1
    by_cases hq : nIn ns.length ns[i].up = true
    · exact hq
    · rw [if_neg hq] at h1; omega
def TsRel (ns : List PN) (u : World) (iv : Value) (wr : World) : Prop :=
  ∃ k : Nat, k ≤ ns.length ∧ iv = .int .i64 k ∧ (∀ j (hj : j < ns.length), j < k → nodeB ns j ns[j] = true) ∧ Below u.heap.size u wr
def TkRel (ns : List PN) (i : Nat) (n : PN) (v : World) (jv : Value) (wr : World) : Prop :=
  ∃ k : Nat, k ≤ n.kids.length ∧ jv = .int .i64 k ∧ (∀ q, q < k → kidOk ns i (n.kids.getD q 0) = true) ∧ Below v.heap.size v wr
/-- The first of the node's tests. -/
def c7B (ns : List PN) (i : Nat) (n : PN) : Bool := styOk n.sty && depOk ns i && upOk ns i n
def C7Rel (ns : List PN) (i : Nat) (n : PN) (v : World) (c : Value) (wx : World) : Prop := c = .bool (!c7B ns i n) ∧ Below v.heap.size v wx
set_option maxHeartbeats 4000000 in
theorem streeok (a : Option Addr) (cap : Nat) (ns : List PN) (w : World) (hz : Nds w a ns) (hl : szS ns ≤ 1048576) :
    Calls Try.prog 18 #[.agg #[.slice a ns.length cap]] w fun e w' => e = .returned (.bool (treeB ns)) ∧ Below w.heap.size w w' := by
  have hnl : ns.length ≤ 1048576 := by unfold szS at hl; omega
  have hkl : ∀ i (hi : i < ns.length), ns[i].kids.length ≤ 1048576 ∧ ns[i].rl ≤ 1048576 := fun i hi => by
    have h1 := szK_le hi
    unfold szS at hl
    unfold szK at h1
    omega
  obtain ⟨u, eu⟩ : ∃ u, u = w.alloc (.cells #[.slice a ns.length cap] 26) := ⟨_, rfl⟩
  have h0 := hp_new w (.cells #[.slice a ns.length cap] 26)
  have B0 : Below w.heap.size w u := by rw [eu]; exact Go.Joins.below_alloc1 _ _
  rw [← eu] at h0
  have hs : w.heap.size < u.heap.size := by rw [eu]; simp
  have hus : u.heap.size = w.heap.size + 1 := by rw [eu]; simp
  have c0 : u.cell? ⟨w.heap.size, 0, none⟩ = some (.slice a ns.length cap) := (Go.Joins.cell_of_block h0 0).trans rfl
  have HZ := Lib.hid (hz.below B0)
  have HB := Lib.hid B0
  have EU := Lib.hid eu
  have HKL := Lib.hid hkl
  have HL := Lib.hid hl
  have HS := Lib.hid hs
  have HT := Lib.hid h0
  clear hz B0 eu hkl hl h0 hs hus
  by_cases h12 : ns.length ≤ 12
  · go_enter Try.func18, Try.ntmps18
    go_wp2_with (rw [← EU.out])
    go_loopw [3, 4, 5] (fun iv _ _ wr => TsRel ns u iv wr) (fun i _ _ _ => ns.length - (intOf i).toNat)
    case atStart => exact ⟨0, Nat.zero_le _, rfl, fun j _ hj => absurd hj (Nat.not_lt_zero _), Below.refl _ _⟩
    case round =>
      obtain ⟨k, hk, rfl, hgood, hb⟩ := hrel
      have hlo : (0 : Int) ≤ (k : Int) := Int.natCast_nonneg _
      have hT := (hb.block w.heap.size HS.out).trans HT.out
      have ct : wr.cell? ⟨w.heap.size, 0, none⟩ = some (.slice a ns.length cap) := (Go.Joins.cell_of_block hT 0).trans rfl
      clear c0
      by_cases hlt : k < ns.length
      · have hhi : (k : Int) < (ns.length : Int) := by omega
        obtain ⟨b, off, rfl, _, ⟨kv, tv, hrg, ⟨ka, kc, rfl, hki⟩, ⟨ta, tc, rfl, hti⟩⟩⟩ := (HZ.out.below hb).look hlt
        have hnode : nodeB ns k ns[k] = (styOk ns[k].sty && upOk ns k ns[k] && kidsOk ns k ns[k] && conOk ns[k] && depOk ns k) := rfl
        have hbad := tree_bad (ns := ns) hlt
        have hdu := dep_up (ns := ns) hlt
        have hup64 : -9223372036854775808 ≤ ns[k].up ∧ ns[k].up ≤ 9223372036854775807 := (HZ.out.1 _ (List.getElem_mem hlt)).1
        obtain ⟨hkl1, hkl2⟩ := HKL.out k hlt
        have hkbad := fun j => kids_bad (ns := ns) (i := k) (n := ns[k]) (j := j)
        have hkgood := kids_good (ns := ns) (i := k) (n := ns[k])
        obtain ⟨n, en⟩ : ∃ n, ns[k] = n := ⟨_, rfl⟩
        have huo : upOk ns k n = (n.up == 0 || (nIn ns.length n.up && cntZ (ndAt ns n.up).kids ((k : Int) + 1) == 1)) := rfl
        have hco : conOk n = if n.meas = true then (n.kids.isEmpty && tokB n.rules n.rl) else n.rl == 0 := rfl
        rw [en] at hrg hki hti hnode hbad hdu hup64 hkl1 hkl2 hkbad hkgood
        have HEN := Lib.hid en
        -- the node's copy
        obtain ⟨v0, ev0⟩ : ∃ v0, v0 = wr.alloc (.cells nZ 61) := ⟨_, rfl⟩
        have b0 : Below wr.heap.size wr v0 := by rw [ev0]; exact Go.Joins.below_alloc1 _ _
        have hX0 : v0.heap[wr.heap.size]? = some (.cells nZ 61) := by rw [ev0]; exact hp_new wr _
        have RG := Lib.hid hrg
        have T1 := Lib.hid (there_block hX0 0 64 (by show 0 + 64 ≤ nZ.size; rw [nZ, nA_size]; decide))
        obtain ⟨v, ev⟩ : ∃ v, v = v0.setCells wr.heap.size 0 (nL n.up (.slice ka n.kids.length kc) n.sty n.meas (.slice ta n.rl tc)) := ⟨_, rfl⟩
        have hX := hp_puts (nL n.up (.slice ka n.kids.length kc) n.sty n.meas (.slice ta n.rl tc)) 0 _ v0 hX0
        rw [putA_all _ _ (by rw [nL_len]; exact (nA_size ..).symm), ← ev] at hX
        have hX' : v.heap[wr.heap.size]? = some (.cells (nA n.up (.slice ka n.kids.length kc) n.sty n.meas (.slice ta n.rl tc)) 61) := hX
        have bv : Below wr.heap.size wr v := by rw [ev]; exact below_cells (Nat.le_refl _) _ _ _ b0
        have hTv := hp_below hT bv
        have hbv := hb.trans (bv.mono hb.size)
        have EV0 := Lib.hid ev0
        have EV := Lib.hid ev
        have KI := Lib.hid (hki.below bv)
        have TI := Lib.hid (hti.below bv)
        have HX := Lib.hid hX'
        have HTV := Lib.hid hTv
        have HBV := Lib.hid hbv
        have HG := Lib.hid hgood
        have HNO := Lib.hid hnode
        have HBAD := Lib.hid hbad
        have HDU := Lib.hid hdu
        have HUO := Lib.hid huo
        have HCO := Lib.hid hco
        have HKB := Lib.hid hkbad
        have HKG := Lib.hid hkgood
        have RS := Lib.hid (range_styN (range_block hX'))
        clear ev0 ev hki hti hX hX' hTv hbv hgood hnode hbad hdu huo hco hkbad hkgood hX0 b0 hT bv hb hrg en
        have hk1 : (Value.slice ka n.kids.length kc).oneCell' = true := rfl
        have ht1 : (Value.slice ta n.rl tc).oneCell' = true := rfl
        go_upto_region 7 with (first
          | ((with_reducible apply list_load_nd); exact rfl; exact rfl; exact rfl; (with_reducible exact RG.out); simp only [Act.put, List.setIfInBounds_toArray, List.set_cons_succ, List.set_cons_zero])
          | ((with_reducible apply list_alloc_nd); exact rfl; exact rfl; simp only [World.size_alloc, Act.put, List.setIfInBounds_toArray, List.set_cons_succ, List.set_cons_zero])
          | (rw [← EV0.out])
          | ((with_reducible apply list_store_nd); exact rfl; exact rfl; exact rfl; exact rfl; (with_reducible exact T1.out); (with_reducible exact hk1); (with_reducible exact ht1); simp only [Act.put, List.setIfInBounds_toArray, List.set_cons_succ, List.set_cons_zero])
          | (rw [← EV.out])
          | fail)
        go_cut [49] from 10 to 103 (fun c wx => C7Rel ns k n v c wx)
        case first =>
          go_wp2_with (first
            | ((with_reducible apply list_load_styAt); exact rfl; exact rfl; exact rfl; (with_reducible exact RS.out); simp only [Act.put, List.setIfInBounds_toArray, List.set_cons_succ, List.set_cons_zero])
            | fail)
          have VB := Lib.hid (Below.refl v.heap.size v)
          refine (sstyok n.sty _).mono ?_
          rintro e w2 ⟨rfl, b2⟩
          have HTV := Lib.hid (hp_below HTV.out b2)
          have HX := Lib.hid (hp_below HX.out b2)
          have HBV := Lib.hid (HBV.out.trans (b2.mono HBV.out.size))
          have VB := Lib.hid (VB.out.trans (b2.mono VB.out.size))
          clear b2
          by_cases s1 : styOk n.sty = true
          · rw [s1]
            have ct2 : w2.cell? ⟨w.heap.size, 0, none⟩ = some (.slice (some ⟨b, off, none⟩) ns.length cap) := (Go.Joins.cell_of_block HTV.out 0).trans rfl
            clear ct
            dsimp only
            go_wp2_with (fail)
            refine (sdepthof (some ⟨b, off, none⟩) cap ns ((k : Int) + 1) _ (HZ.out.below HBV.out) hnl ⟨by omega, by omega⟩).mono ?_
            rintro e w3 ⟨rfl, b3⟩
            have HTV := Lib.hid (hp_below HTV.out b3)
            have HX := Lib.hid (hp_below HX.out b3)
            have HBV := Lib.hid (HBV.out.trans (b3.mono HBV.out.size))
            have VB := Lib.hid (VB.out.trans (b3.mono VB.out.size))
            clear b3
            dsimp only
            go_wp2_with (fail)
            refine (srng (dpV ns ((k : Int) + 1)) 1 4 _).mono ?_
            rintro e w4 ⟨rfl, rfl⟩
            have hdo : rnB (dpV ns ((k : Int) + 1)) 1 4 = depOk ns k := rfl
            rw [hdo]
            generalize dpV ns ((k : Int) + 1) = dd at *
            clear hdo ct2
            by_cases s2 : depOk ns k = true
            · rw [s2]
              have ct4 : w4.cell? ⟨w.heap.size, 0, none⟩ = some (.slice (some ⟨b, off, none⟩) ns.length cap) := (Go.Joins.cell_of_block HTV.out 0).trans rfl
              have cx0 : w4.cell? ⟨wr.heap.size, 0, none⟩ = some (.int .i64 n.up) := (Go.Joins.cell_of_block HX.out 0).trans rfl
              have hc7 : c7B ns k n = upOk ns k n := by unfold c7B; rw [s1, s2]; rfl
              have HC7 := Lib.hid hc7
              clear hc7 s1
              dsimp only
              by_cases e0 : n.up = 0
              · have hv : upOk ns k n = true := by rw [HUO.out, e0]; rfl
                have HV := Lib.hid hv
                clear hv s2
                go_wp2_with (fail)
                go_meet
                case rel => exact ⟨by rw [HC7.out, HV.out]; rfl, VB.out⟩
              · obtain ⟨b2, off2, q2, kv2, tv2, e2, hzq2, hq2, hgd2, hok2, hrg2, hkv2, htv2⟩ := nd_look (HZ.out.below HBV.out) (HDU.out s2 e0)
                simp only [Option.some.injEq, Addr.mk.injEq, and_true] at e2
                obtain ⟨rfl, rfl⟩ := e2
                have HRG2 := Lib.hid hrg2
                have K2 := Lib.hid hkv2.one
                have T2 := Lib.hid htv2.one
                have HZQ2 := Lib.hid hzq2
                have hin2 := HDU.out s2 e0
                obtain ⟨ka2, kc2, rfl, hki2⟩ := hkv2
                have HKI2 := Lib.hid hki2
                have hl2 : (ndAt ns n.up).kids.length ≤ 1048576 := by
                  have h1 := nIn_iff.1 hin2
                  rw [ndAt_get h1 (by omega)]
                  exact (HKL.out _ _).1
                have huo2 : upOk ns k n = (((cntZ (ndAt ns n.up).kids ((k : Int) + 1) : Nat) : Int) == 1) := by
                  rw [HUO.out, hin2, show (n.up == 0) = false by simpa using e0, Bool.false_or, Bool.true_and, Bool.eq_iff_iff]
                  simp only [beq_iff_eq]
                  omega
                have HU2 := Lib.hid huo2
                clear hgd2 hok2 hrg2 htv2 hzq2 hin2 hki2 huo2 s2
                generalize ndAt ns n.up = m at *
                go_wp2_with (fail)
                refine (sl10nd b off ns.length cap q2 n.up m _ tv2 _ HZQ2.out hq2 hnl HRG2.out K2.out T2.out).mono ?_
                rintro e w5 ⟨rfl, b5⟩
                have hki5 := HKI2.out.below b5
                have HTV := Lib.hid (hp_below HTV.out b5)
                have HX := Lib.hid (hp_below HX.out b5)
                have HBV := Lib.hid (HBV.out.trans (b5.mono HBV.out.size))
                have VB := Lib.hid (VB.out.trans (b5.mono VB.out.size))
                clear b5
                have FF := Lib.hid (fldKids m.up (.slice ka2 m.kids.length kc2) m.sty m.meas tv2 w5)
                have HKI5 := Lib.hid hki5
                clear hki5 ct4 cx0
                dsimp only
                have hne0 : (n.up != 0) = true := by simpa using e0
                have hne1 : (n.up == 0) = false := by simpa using e0
                (try simp only [hne0, hne1, Bool.not_false])
                go_wp2_with (first
                  | ((with_reducible apply list_gfield); exact rfl; exact rfl; exact rfl; (with_reducible exact FF.out); simp only [Act.put, List.setIfInBounds_toArray, List.set_cons_succ, List.set_cons_zero])
                  | fail)
                refine (sl10has ka2 kc2 m.kids ((k : Int) + 1) _ HKI5.out hl2).mono ?_
                rintro e w6 ⟨rfl, rfl⟩
                generalize ((cntZ m.kids ((k : Int) + 1) : Nat) : Int) = cc at *
                by_cases hc1 : cc = 1
                · subst hc1
                  dsimp only
                  go_wp2_with (fail)
                  go_meet
                  case rel => exact ⟨by rw [HC7.out, HU2.out]; rfl, VB.out⟩
                · have hc2 : (cc == 1) = false := by simpa using hc1
                  have HC2 := Lib.hid hc2
                  clear hc2
                  dsimp only
                  go_wp2_with (fail)
                  go_meet
                  case rel => exact ⟨by rw [HC7.out, HU2.out]; rfl, VB.out⟩
            · have s2' : depOk ns k = false := by simpa using s2
              have hc7 : c7B ns k n = false := by unfold c7B; rw [s2', Bool.and_false, Bool.false_and]
              have HC7 := Lib.hid hc7
              rw [s2']
              clear hc7 s1 s2 s2'
              dsimp only
              go_wp2_with (fail)
              go_meet
              case rel => exact ⟨by rw [HC7.out]; rfl, VB.out⟩
          · have s1' : styOk n.sty = false := by simpa using s1
            have hc7 : c7B ns k n = false := by unfold c7B; rw [s1', Bool.false_and, Bool.false_and]
            have HC7 := Lib.hid hc7
            rw [s1']
            clear hc7 s1 s1'
            dsimp only
            go_wp2_with (fail)
            go_meet
            case rel => exact ⟨by rw [HC7.out]; rfl, VB.out⟩
        case rest =>
          obtain ⟨rfl, bc⟩ := hcut
          have HTV := Lib.hid (hp_below HTV.out bc)
          have HX := Lib.hid (hp_below HX.out bc)
          have HBV := Lib.hid (HBV.out.trans (bc.mono HBV.out.size))
          have KI := Lib.hid (KI.out.below bc)
          have TI := Lib.hid (TI.out.below bc)
          clear bc ct
          generalize wr.heap.size = X at *
          by_cases s7 : c7B ns k n = true
          · rw [s7]
            have S7 := Lib.hid s7
            clear s7
            have cx1 : wc.cell? ⟨X, 1, none⟩ = some (.slice ka n.kids.length kc) := (Go.Joins.cell_of_block HX.out 1).trans rfl
            (try dsimp only)
            go_wp2_with (fail)
            go_loopw [5] (fun jv w' => TkRel ns k n wc jv w') (fun j _ => n.kids.length - (intOf j).toNat)
            case atStart => exact ⟨0, Nat.zero_le _, rfl, fun q hq => absurd hq (Nat.not_lt_zero _), Below.refl _ _⟩
            case round =>
              clear cx1
              obtain ⟨j, hj, rfl, hgood, hb2⟩ := hrel
              have HGOOD := Lib.hid hgood
              have hT3 := hp_below HTV.out hb2
              have hX3 := hp_below HX.out hb2
              have ct3 : wr.cell? ⟨w.heap.size, 0, none⟩ = some (.slice (some ⟨b, off, none⟩) ns.length cap) := (Go.Joins.cell_of_block hT3 0).trans rfl
              have hlo2 : (0 : Int) ≤ (j : Int) := Int.natCast_nonneg _
              have HB2 := Lib.hid hb2
              by_cases hlt2 : j < n.kids.length
              · obtain ⟨kb, koff, rfl, _, ck3⟩ := (KI.out.below hb2).look hlt2
                have cx3 : wr.cell? ⟨X, 1, none⟩ = some (.slice (some ⟨kb, koff, none⟩) n.kids.length kc) := (Go.Joins.cell_of_block hX3 1).trans rfl
                have hhi2 : (j : Int) < (n.kids.length : Int) := by omega
                have hbad3 := HKB.out j hlt2
                obtain ⟨z, ez⟩ : ∃ z, n.kids.getD j 0 = z := ⟨_, rfl⟩
                rw [ez] at ck3 hbad3
                have EZ := Lib.hid ez
                have HB3 := Lib.hid hbad3
                have hko : kidOk ns k z = (nIn ns.length z && upZ ns z == (k : Int) + 1) := rfl
                have HKO := Lib.hid hko
                clear hgood hT3 hX3 hb2 ez hbad3 hko
                have hfin : kidOk ns k z = false → treeB ns = false := fun h => HBAD.out (by rw [HNO.out, HB3.out h, Bool.and_false, Bool.false_and, Bool.false_and])
                have HFIN := Lib.hid hfin
                clear hfin
                by_cases hin : nIn ns.length z = true
                · have his : ∀ w', Calls Try.prog 69 #[.agg #[.slice (some ⟨b, off, none⟩) ns.length cap], .int .i64 z] w' fun e w'' => e = .returned (.bool true) ∧ Below w'.heap.size w' w'' := fun w' => by
                    have h := sl10is (some ⟨b, off, none⟩) ns.length cap z w'
                    rwa [hin] at h
                  obtain ⟨b3, off3, q3, kv3, tv3, e3, hzq3, hq3, hgd3, hok3, hrg3, hkv3, htv3⟩ := nd_look (HZ.out.below (HBV.out.trans (HB2.out.mono HBV.out.size))) hin
                  simp only [Option.some.injEq, Addr.mk.injEq, and_true] at e3
                  obtain ⟨rfl, rfl⟩ := e3
                  have hupz : upZ ns z = (ndAt ns z).up := rfl
                  rw [hin, hupz, Bool.true_and] at HKO
                  have HIS := Lib.hid his
                  have hnd : ∀ w', Below wr.heap.size wr w' → Calls Try.prog 70 #[.agg #[.slice (some ⟨b, off, none⟩) ns.length cap], .int .i64 z] w' fun e w'' => e = .returned (.agg (nA (ndAt ns z).up kv3 (ndAt ns z).sty (ndAt ns z).meas tv3)) ∧ Below w'.heap.size w' w'' :=
                    fun w' hw => sl10nd b off ns.length cap q3 z (ndAt ns z) kv3 tv3 w' hzq3 hq3 hnl (rg_below hrg3 hw) hkv3.one htv3.one
                  have HND := Lib.hid hnd
                  clear his hgd3 hok3 hrg3 hkv3 htv3 hzq3 hnd hupz hin
                  generalize ndAt ns z = m at *
                  obtain ⟨u3, ks3, f3, m3, rl3, rs3⟩ := m
                  simp only at HND HKO
                  have FF := Lib.hid (fun w => fldUp u3 kv3 f3 m3 tv3 w)
                  have q0 := fun d os => cell_regrown ct3 d os
                  have q1 := fun d os => cell_regrown cx3 d os
                  have q2 := fun d os => cell_regrown ck3 d os
                  clear ct3 ck3
                  by_cases hy : u3 = (k : Int) + 1
                  · subst hy
                    go_wp2
                    refine wp_region_quiet_below (by kernel_rfl) (by kernel_rfl) ?_
                    (try simp only [List.append_eq, List.cons_append, List.nil_append])
                    repeat (first
                      | (go_big_quiet_want; (with_reducible apply quiet_field); exact rfl; exact rfl; (with_reducible exact FF.out); simp only [Act.put, List.setIfInBounds_toArray, List.set_cons_succ, List.set_cons_zero]; go_big_quiet_on)
                      | go_big_quiet_step (first
                        | (go_at_call 69; exact Calls.regrown_of (HIS.out _))
                        | (go_at_call 70; exact Calls.regrown_of (HND.out _ (below_regrown wr _ _)))
                        | fail))
                    refine wpQuiet_nil ?_
                    intro _ hw'
                    obtain ⟨⟨dq, osq⟩, hw''⟩ := hw'
                    subst hw''
                    clear q0 q1 q2 cx3
                    go_wp2
                    go_roundw
                    case rel =>
                      refine ⟨j + 1, by omega, by go_num, fun q hq => ?_, HB2.out.trans ((below_regrown wr dq osq).mono HB2.out.size)⟩
                      by_cases e : q = j
                      · rw [e, EZ.out, HKO.out]; simp
                      · exact HGOOD.out q (by omega)
                    case measure => simp [intOf]; omega
                  · have hv := HFIN.out (by rw [HKO.out]; simpa using hy)
                    have HV := Lib.hid hv
                    clear hv
                    go_wp2
                    refine wp_region_quiet_below (by kernel_rfl) (by kernel_rfl) ?_
                    (try simp only [List.append_eq, List.cons_append, List.nil_append])
                    repeat (first
                      | (go_big_quiet_want; (with_reducible apply quiet_field); exact rfl; exact rfl; (with_reducible exact FF.out); simp only [Act.put, List.setIfInBounds_toArray, List.set_cons_succ, List.set_cons_zero]; go_big_quiet_on)
                      | go_big_quiet_step (first
                        | (go_at_call 69; exact Calls.regrown_of (HIS.out _))
                        | (go_at_call 70; exact Calls.regrown_of (HND.out _ (below_regrown wr _ _)))
                        | fail))
                    refine wpQuiet_nil ?_
                    intro _ hw'
                    obtain ⟨⟨dq, osq⟩, hw''⟩ := hw'
                    subst hw''
                    clear q0 q1 q2 cx3
                    go_wp2
                    go_ret
                    exact ⟨by rw [HV.out]; rfl, HB.out.trans ((HBV.out.trans ((HB2.out.trans ((below_regrown wr dq osq).mono HB2.out.size)).mono HBV.out.size)).mono HB.out.size)⟩
                · have hin' : nIn ns.length z = false := by simpa using hin
                  have his : ∀ w', Calls Try.prog 69 #[.agg #[.slice (some ⟨b, off, none⟩) ns.length cap], .int .i64 z] w' fun e w'' => e = .returned (.bool false) ∧ Below w'.heap.size w' w'' := fun w' => by
                    have h := sl10is (some ⟨b, off, none⟩) ns.length cap z w'
                    rwa [hin'] at h
                  have hv := HFIN.out (by rw [HKO.out, hin', Bool.false_and])
                  have HV := Lib.hid hv
                  have HIS := Lib.hid his
                  have q0 := fun d os => cell_regrown ct3 d os
                  have q1 := fun d os => cell_regrown cx3 d os
                  have q2 := fun d os => cell_regrown ck3 d os
                  clear ct3 ck3 his hin hin' hv
                  go_wp2
                  refine wp_region_quiet_below (by kernel_rfl) (by kernel_rfl) ?_
                  (try simp only [List.append_eq, List.cons_append, List.nil_append])
                  repeat (go_big_quiet_step (first
                      | (go_at_call 69; exact Calls.regrown_of (HIS.out _))
                      | fail))
                  refine wpQuiet_nil ?_
                  intro _ hw'
                  obtain ⟨⟨dq, osq⟩, hw''⟩ := hw'
                  subst hw''
                  clear q0 q1 q2 cx3
                  go_wp2
                  go_ret
                  exact ⟨by rw [HV.out]; rfl, HB.out.trans ((HBV.out.trans ((HB2.out.trans ((below_regrown wr dq osq).mono HB2.out.size)).mono HBV.out.size)).mono HB.out.size)⟩
              · obtain rfl : j = n.kids.length := by omega
                have hkk := HKG.out hgood
                have hng : conOk n = true → nodeB ns k n = true := fun h => by
                  have h7 := S7.out
                  unfold c7B at h7
                  simp only [Bool.and_eq_true] at h7
                  rw [HNO.out, h7.1.1, h7.2, hkk, h, h7.1.2]; rfl
                have hnb : conOk n = false → treeB ns = false := fun h => HBAD.out (by rw [HNO.out, h, Bool.and_false, Bool.false_and])
                have HNG := Lib.hid hng
                have HNB := Lib.hid hnb
                have TI3 := Lib.hid (TI.out.below hb2)
                have HT3 := Lib.hid hT3
                have HX3 := Lib.hid hX3
                have cx1 : wr.cell? ⟨X, 1, none⟩ = some (.slice ka n.kids.length kc) := (Go.Joins.cell_of_block hX3 1).trans rfl
                have cx62 : wr.cell? ⟨X, 62, none⟩ = some (.bool n.meas) := (Go.Joins.cell_of_block hX3 62).trans (by rw [nA, List.getElem?_toArray]; exact nL_meas)
                have cx63 : wr.cell? ⟨X, 63, none⟩ = some (.slice ta n.rl tc) := (Go.Joins.cell_of_block hX3 63).trans (by rw [nA, List.getElem?_toArray]; exact nL_tab)
                have BT := Lib.hid (HBV.out.trans (hb2.mono HBV.out.size))
                clear hgood hb2 hT3 hX3 ct3 hkk hng hnb
                by_cases hm : n.meas = true
                · rw [hm] at cx62
                  have hco : conOk n = (n.kids.isEmpty && tokB n.rules n.rl) := by rw [HCO.out, if_pos hm]
                  have HCC := Lib.hid hco
                  clear hco hm
                  go_wp2_with (fail)
                  refine (stableok ta n.rl tc n.rules _ TI3.out (by omega)).mono ?_
                  rintro e w8 ⟨rfl, b8⟩
                  have hX8 := hp_below HX3.out b8
                  have BT8 := Lib.hid (BT.out.trans (b8.mono BT.out.size))
                  replace cx1 : w8.cell? ⟨X, 1, none⟩ = some (.slice ka n.kids.length kc) := (Go.Joins.cell_of_block hX8 1).trans rfl
                  replace cx62 : w8.cell? ⟨X, 62, none⟩ = some (.bool true) := (b8.cell (block_lt_of_cell cx62)).trans cx62
                  clear b8 hX8 cx63
                  by_cases ht : tokB n.rules n.rl = true
                  · rw [ht]
                    by_cases hk0 : n.kids.length = 0
                    · have hnn : nodeB ns k n = true := HNG.out (by rw [HCC.out, ht, show n.kids.isEmpty = true by simpa using hk0]; rfl)
                      have HNN := Lib.hid hnn
                      rw [hk0] at cx1
                      clear hnn ht
                      (try dsimp only)
                      go_wp2_with (fail)
                      go_roundw
                      case rel =>
                        refine ⟨k + 1, by omega, by go_num, fun q hq hqk => ?_, BT8.out⟩
                        by_cases e : q = k
                        · subst e; rw [HEN.out]; exact HNN.out
                        · exact HG.out q hq (by omega)
                      case measure => simp [intOf]; omega
                    · have hv : treeB ns = false := HNB.out (by rw [HCC.out, show n.kids.isEmpty = false by cases h : n.kids with | nil => rw [h] at hk0; exact absurd rfl hk0 | cons => rfl, Bool.false_and])
                      have HV := Lib.hid hv
                      have hpos : (0 : Int) < (n.kids.length : Int) := by omega
                      clear hv ht
                      (try dsimp only)
                      go_wp2_with (fail)
                      go_ret
                      exact ⟨by rw [HV.out]; rfl, HB.out.trans (BT8.out.mono HB.out.size)⟩
                  · have ht' : tokB n.rules n.rl = false := by simpa using ht
                    have hv : treeB ns = false := HNB.out (by rw [HCC.out, ht', Bool.and_false])
                    have HV := Lib.hid hv
                    rw [ht']
                    clear hv ht ht'
                    (try dsimp only)
                    go_wp2_with (fail)
                    go_ret
                    exact ⟨by rw [HV.out]; rfl, HB.out.trans (BT8.out.mono HB.out.size)⟩
                · have hm' : n.meas = false := by simpa using hm
                  rw [hm'] at cx62
                  have hco : conOk n = (n.rl == 0) := by rw [HCO.out, if_neg hm]
                  have HCC := Lib.hid hco
                  clear hco hm hm'
                  by_cases hr0 : n.rl = 0
                  · have hnn : nodeB ns k n = true := HNG.out (by rw [HCC.out, hr0]; rfl)
                    have HNN := Lib.hid hnn
                    rw [hr0] at cx63
                    clear hnn
                    go_wp2_with (fail)
                    go_roundw
                    case rel =>
                      refine ⟨k + 1, by omega, by go_num, fun q hq hqk => ?_, BT.out⟩
                      by_cases e : q = k
                      · subst e; rw [HEN.out]; exact HNN.out
                      · exact HG.out q hq (by omega)
                    case measure => simp [intOf]; omega
                  · have hv : treeB ns = false := HNB.out (by rw [HCC.out]; simpa using hr0)
                    have HV := Lib.hid hv
                    have hpos : (0 : Int) < (n.rl : Int) := by omega
                    clear hv
                    go_wp2_with (fail)
                    go_ret
                    exact ⟨by rw [HV.out]; rfl, HB.out.trans (BT.out.mono HB.out.size)⟩
          · have s7' : c7B ns k n = false := by simpa using s7
            have hv : treeB ns = false := HBAD.out (by
              rw [HNO.out]
              unfold c7B at s7'
              cases h1 : styOk n.sty
              · rfl
              · cases h2 : upOk ns k n
                · rfl
                · rw [h1, h2] at s7'
                  have h3 : depOk ns k = false := by simpa using s7'
                  rw [h3, Bool.and_false])
            have HV := Lib.hid hv
            rw [s7']
            clear hv s7 s7'
            (try dsimp only)
            go_wp2_with (fail)
            go_ret
            exact ⟨by rw [HV.out]; rfl, HB.out.trans (HBV.out.mono HB.out.size)⟩
      · obtain rfl : k = ns.length := by omega
        have hv : treeB ns = true := tree_good h12 fun i hi => hgood i hi hi
        have HV := Lib.hid hv
        have HBB := Lib.hid hb
        clear hv hgood hb hT
        go_wp2_with (fail)
        go_ret
        exact ⟨by rw [HV.out]; rfl, HB.out.trans (HBB.out.mono HB.out.size)⟩
  · have hv := tree_len h12
    have hgt : (12 : Int) < (ns.length : Int) := by omega
    have HV := Lib.hid hv
    clear hv
    go_enter Try.func18, Try.ntmps18
    go_wp2_with (rw [← EU.out])
    go_ret
    exact ⟨by rw [HV.out]; rfl, HB.out⟩
end Go.Proofs.Ytckpjldenkjddaa
end

import Derived.Test.YtckpjldenkjddaaZtAY
section
namespace Go.Proofs.Ytckpjldenkjddaa
open Go.ChangeShapes Go.WideShapes Go.ChangeAt Go.RowKit
set_option linter.unusedVariables false
set_option linter.unusedSimpArgs false
set_option maxRecDepth 8000

theorem nodeB_parts {ns : List PN} {i : Nat} {n : PN} (h : nodeB ns i n = true) : styOk n.sty = true ∧ upOk ns i n = true ∧ kidsOk ns i n = true ∧ conOk n = true ∧ depOk ns i = true := by
  unfold nodeB at h
  simp only [Bool.and_eq_true] at h
  exact ⟨h.1.1.1.1, h.1.1.1.2, h.1.1.2, h.1.2, h.2⟩
theorem ndAt_nat {ns : List PN} {k : Nat} (h : k < ns.length) : ndAt ns ((k : Int) + 1) = ns[k] := by
  have e : ((k : Int) + 1 - 1).toNat = k := by omega
  unfold ndAt
  rw [e, List.getElem?_eq_getElem h]; rfl
theorem kids_count {ns : List PN} (ht : treeB ns = true) {i : Nat} (hi : i < ns.length) {z : Int} (hz : z ∈ ns[i].kids) : nIn ns.length z = true ∧ ns[i].kids.count z = 1 := by
  have hk := (nodeB_parts (treeB_node ht hi)).2.2.1
  unfold kidsOk at hk
  have hk := List.all_eq_true.1 hk z hz
  unfold kidOk at hk
  simp only [Bool.and_eq_true, beq_iff_eq] at hk
  have h1 := nIn_iff.1 hk.1
  obtain ⟨c, rfl⟩ : ∃ c : Nat, z = (c : Int) + 1 := ⟨(z - 1).toNat, by omega⟩
  have hc : c < ns.length := by omega
  have hu := (nodeB_parts (treeB_node ht hc)).2.1
  have hup : ns[c].up = (i : Int) + 1 := by have := hk.2; unfold upZ at this; rwa [ndAt_nat hc] at this
  unfold upOk at hu
  rw [hup, ndAt_nat hi] at hu
  simp only [Bool.or_eq_true, Bool.and_eq_true, beq_iff_eq] at hu
  refine ⟨hk.1, ?_⟩
  rcases hu with h | h
  · omega
  · exact h.2
theorem nodup_of_count : ∀ (l : List Int), (∀ z ∈ l, l.count z = 1) → l.Nodup
  | [], _ => List.nodup_nil
  | x :: l, h => by
    have h0 := h x (List.mem_cons_self ..)
    rw [List.count_cons_self] at h0
    have hx : x ∉ l := List.count_eq_zero.1 (by omega)
    refine List.nodup_cons.2 ⟨hx, nodup_of_count l fun z hz => ?_⟩
    have := h z (List.mem_cons_of_mem _ hz)
    rwa [List.count_cons_of_ne (fun e => hx (by rw [e]; exact hz))] at this
theorem kids_few {ns : List PN} (ht : treeB ns = true) {i : Nat} (hi : i < ns.length) : ns[i].kids.length ≤ 12 := by
  have hn := nodup_of_count ns[i].kids fun z hz => (kids_count ht hi hz).2
  have hm : (ns[i].kids.map fun z => (z - 1).toNat).Nodup := by
    refine List.pairwise_map.2 (List.Pairwise.imp_of_mem (fun {a b} ha hb hab => ?_) hn)
    have h1 := nIn_iff.1 (kids_count ht hi ha).1
    have h2 := nIn_iff.1 (kids_count ht hi hb).1
    omega
  have := nodup_small 12 _ hm (fun x hx => by
    obtain ⟨z, hz, rfl⟩ := List.mem_map.1 hx
    have h1 := nIn_iff.1 (kids_count ht hi hz).1
    have := treeB_len ht
    omega)
  simpa using this
theorem rl_few {ns : List PN} (ht : treeB ns = true) {i : Nat} (hi : i < ns.length) : ns[i].rl ≤ 6 := by
  have h := (nodeB_parts (treeB_node ht hi)).2.2.2.1
  unfold conOk at h
  split at h
  · have := (Bool.and_eq_true_iff.1 h).2
    unfold tokB at this
    have := of_decide_eq_true (Bool.and_eq_true_iff.1 this).1
    omega
  · simp at h
    omega
theorem sum_few : ∀ (l : List Nat), (∀ x ∈ l, x ≤ 18) → l.sum ≤ l.length * 18
  | [], _ => by simp
  | x :: l, h => by
    have h1 := sum_few l fun y hy => h y (List.mem_cons_of_mem _ hy)
    have h2 := h x (List.mem_cons_self ..)
    simp
    omega
theorem treeB_sz {ns : List PN} (ht : treeB ns = true) : szS ns ≤ 228 := by
  have h1 := treeB_len ht
  have h2 := sum_few (ns.map szK) (fun x hx => by
    obtain ⟨n, hn, rfl⟩ := List.mem_map.1 hx
    obtain ⟨i, hi, rfl⟩ := List.getElem_of_mem hn
    have := kids_few ht hi
    have := rl_few ht hi
    unfold szK
    omega)
  unfold szS szL
  simp at h2
  omega
/-- The way down from z ends within f levels. -/
def hOk (ns : List PN) : Nat → Int → Prop
  | 0, _ => False
  | f + 1, z => ∀ k ∈ kidsZ ns z, hOk ns f k
/-- From z, d steps lead out at the top. -/
def dpR (ns : List PN) (z : Int) (d : Nat) : Prop := wayZ ns z d = 0 ∧ ∀ i, i < d → nIn ns.length (wayZ ns z i) = true
theorem dpR_up {ns : List PN} {z : Int} {d : Nat} (h : dpR ns z (d + 1)) : nIn ns.length z = true ∧ dpR ns (upZ ns z) d :=
  ⟨h.2 0 (by omega), by rw [wayZ_up]; exact h.1, fun i hi => by rw [wayZ_up]; exact h.2 (i + 1) (by omega)⟩
theorem dpR_down {ns : List PN} {z : Int} {d : Nat} (hz : nIn ns.length z = true) (h : dpR ns (upZ ns z) d) : dpR ns z (d + 1) :=
  ⟨by rw [← wayZ_up]; exact h.1, fun i hi => by
    cases i with
    | zero => exact hz
    | succ i => rw [← wayZ_up]; exact h.2 i (by omega)⟩
theorem nIn_ne {n : Nat} {z : Int} (h : nIn n z = true) : z ≠ 0 := fun e => by rw [e, nIn_zero] at h; cases h
theorem dpF_of {ns : List PN} : ∀ (d f k : Nat) (z : Int), dpR ns z d → d ≤ f → dpF ns f z k = (k : Int) + d
  | 0, f, k, z, h, _ => by
    have hz : z = 0 := h.1
    cases f <;> simp [dpF, hz]
  | d + 1, 0, k, z, h, hf => by omega
  | d + 1, f + 1, k, z, h, hf => by
    obtain ⟨h1, h2⟩ := dpR_up h
    rw [dpF, if_neg (nIn_ne h1), if_pos h1, dpF_of d f (k + 1) _ h2 (by omega)]
    omega
theorem dpF_some {ns : List PN} : ∀ (f k : Nat) (z : Int), dpF ns f z k ≠ 0 → ∃ d, dpR ns z d ∧ d ≤ f
  | 0, k, z, h => by
    rw [dpF] at h
    by_cases hz : z = 0
    · exact ⟨0, ⟨hz, fun i hi => by omega⟩, Nat.le_refl _⟩
    · rw [if_neg hz] at h; exact absurd rfl h
  | f + 1, k, z, h => by
    rw [dpF] at h
    by_cases hz : z = 0
    · exact ⟨0, ⟨hz, fun i hi => by omega⟩, by omega⟩
    · rw [if_neg hz] at h
      by_cases hn : nIn ns.length z = true
      · rw [if_pos hn] at h
        obtain ⟨d, h1, h2⟩ := dpF_some f (k + 1) _ h
        exact ⟨d + 1, dpR_down hn h1, by omega⟩
      · rw [if_neg hn] at h; exact absurd rfl h
theorem dpR_le {ns : List PN} {z : Int} {d : Nat} (h : dpR ns z d) : d ≤ ns.length := by
  by_cases hd : d ≤ ns.length
  · exact hd
  · obtain ⟨a, b, hab, hb, e⟩ := pigeon (len := ns.length) (p := wayZ ns z) (fun i hi => h.2 i (by omega))
    have e2 : wayZ ns z (a + (d - b)) = wayZ ns z (b + (d - b)) := by rw [wayZ_add, wayZ_add, e]
    rw [show b + (d - b) = d by omega, h.1] at e2
    exact absurd e2 (nIn_ne (h.2 (a + (d - b)) (by omega)))
theorem dpV_of {ns : List PN} {z : Int} {d : Nat} (h : dpR ns z d) : dpV ns z = (d : Int) := by
  unfold dpV
  rw [dpF_of d _ 0 z h (dpR_le h)]
  simp
theorem depOk_iff {ns : List PN} {i : Nat} : depOk ns i = true ↔ ∃ d, dpR ns ((i : Int) + 1) d ∧ 1 ≤ d ∧ d ≤ 4 := by
  unfold depOk
  rw [decide_eq_true_eq]
  constructor
  · intro h
    obtain ⟨d, h1, _⟩ := dpF_some (ns := ns) ns.length 0 ((i : Int) + 1) (by have := h.1; unfold dpV at this; omega)
    rw [dpV_of h1] at h
    exact ⟨d, h1, by omega, by omega⟩
  · rintro ⟨d, h1, h2, h3⟩
    rw [dpV_of h1]
    omega
theorem dep_of {ns : List PN} (ht : treeB ns = true) {z : Int} (hz : nIn ns.length z = true) : ∃ d, dpR ns z d ∧ 1 ≤ d ∧ d ≤ 4 := by
  have h1 := nIn_iff.1 hz
  obtain ⟨k, rfl⟩ : ∃ k : Nat, z = (k : Int) + 1 := ⟨(z - 1).toNat, by omega⟩
  exact depOk_iff.1 (nodeB_parts (treeB_node ht (by omega : k < ns.length))).2.2.2.2
theorem kid_of {ns : List PN} (ht : treeB ns = true) {z k : Int} (hk : k ∈ kidsZ ns z) : nIn ns.length k = true ∧ upZ ns k = z := by
  unfold kidsZ at hk
  by_cases hz : nIn ns.length z = true
  · rw [if_pos hz] at hk
    have h1 := nIn_iff.1 hz
    obtain ⟨i, rfl⟩ : ∃ k : Nat, z = (k : Int) + 1 := ⟨(z - 1).toNat, by omega⟩
    have hi : i < ns.length := by omega
    rw [ndAt_nat hi] at hk
    have h2 := (nodeB_parts (treeB_node ht hi)).2.2.1
    unfold kidsOk at h2
    have h3 := List.all_eq_true.1 h2 k hk
    unfold kidOk at h3
    simp only [Bool.and_eq_true, beq_iff_eq] at h3
    exact h3
  · rw [if_neg hz] at hk; cases hk
theorem mem_kids {ns : List PN} (ht : treeB ns = true) {z : Int} (hz : nIn ns.length z = true) (hu : upZ ns z ≠ 0) : nIn ns.length (upZ ns z) = true ∧ z ∈ kidsZ ns (upZ ns z) := by
  have h1 := nIn_iff.1 hz
  obtain ⟨i, rfl⟩ : ∃ k : Nat, z = (k : Int) + 1 := ⟨(z - 1).toNat, by omega⟩
  have hi : i < ns.length := by omega
  have h2 := (nodeB_parts (treeB_node ht hi)).2.1
  have e : upZ ns ((i : Int) + 1) = ns[i].up := by unfold upZ; rw [ndAt_nat hi]
  rw [e] at hu ⊢
  unfold upOk at h2
  simp only [Bool.or_eq_true, Bool.and_eq_true, beq_iff_eq] at h2
  rcases h2 with h | ⟨h3, h4⟩
  · exact absurd h hu
  · refine ⟨h3, ?_⟩
    unfold kidsZ
    rw [if_pos h3]
    unfold cntZ at h4
    exact List.one_le_count_iff.1 (by omega)
theorem hOk_of {ns : List PN} (ht : treeB ns = true) : ∀ (f d : Nat) (z : Int), nIn ns.length z = true → dpR ns z d → 5 ≤ d + f → hOk ns f z
  | 0, d, z, hz, hd, h => by
    obtain ⟨d', h1, _, h3⟩ := dep_of ht hz
    have := dpV_of hd
    have := dpV_of h1
    omega
  | f + 1, d, z, hz, hd, h => fun k hk => by
    obtain ⟨h1, h2⟩ := kid_of ht hk
    exact hOk_of ht f (d + 1) k h1 (dpR_down h1 (by rw [h2]; exact hd)) (by omega)
set_option linter.unusedVariables false
set_option linter.unusedSimpArgs false
set_option maxRecDepth 8000

set_option maxHeartbeats 1000000 in
theorem ihasnode (a : Option Addr) (cap : Nat) (ns : List PN) (z : Int) (w : World) (hz : Nds w a ns) (hl : szS ns ≤ 1048576) :
    Calls Try.prog 61 #[.agg #[.slice a ns.length cap], .int .i64 z] w fun e w' => e = .returned (.bool (nIn ns.length z && treeB ns)) ∧ Below w.heap.size w w' := by
  have h0 := hp_new w (.cells #[.slice a ns.length cap] 26)
  have bb := Go.Joins.below_alloc1 w (.cells #[.slice a ns.length cap] 26)
  obtain ⟨u, eu⟩ : ∃ u, u = w.alloc (.cells #[.slice a ns.length cap] 26) := ⟨_, rfl⟩
  rw [← eu] at h0 bb
  have EU := Lib.hid eu
  clear eu
  have HZ := Lib.hid (hz.below bb)
  have c0 := Go.Joins.cell_of_block h0 0
  simp at c0
  have BB := Lib.hid bb
  clear hz h0 bb
  have kr := irng z 1 ns.length u
  have hr : rnB z 1 ns.length = nIn ns.length z := rfl
  rw [hr] at kr
  clear hr
  have KT := Lib.hid (itreeok a cap ns u HZ.out hl)
  obtain ⟨t, et⟩ : ∃ t, t = treeB ns := ⟨_, rfl⟩
  rw [← et] at KT ⊢
  generalize nIn ns.length z = r at *
  have KR := Lib.hid kr
  clear kr et
  cases r
  all_goals
    go_enter Try.func61, Try.ntmps61
    go_wp2_with (first
      | (rw [← EU.out])
      | (go_at_call 76; refine KR.out.mono ?_; rintro e w1 ⟨rfl, rfl⟩)
      | (go_at_call 17; refine KT.out.mono ?_; rintro e w2 ⟨rfl, b2⟩))
  · go_ret
    exact ⟨rfl, BB.out⟩
  · go_ret
    exact ⟨rfl, BB.out.trans (b2.mono BB.out.size)⟩
end Go.Proofs.Ytckpjldenkjddaa
end

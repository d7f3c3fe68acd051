import Derived.Deep.RegionWith
import Derived.Maps.AppendAt
import Derived.OwnWalk
import Derived.Deep.QuietTactic
import Derived.BigQuiet
import Derived.Test.YtckpjldenkjddaaZcAA
import Derived.Test.YtckpjldenkjddaaZcAC
import Derived.Test.YtckpjldenkjddaaZcAR
section
namespace Go.Proofs.Ytckpjldenkjddaa
open Go.ChangeShapes Go.WideShapes Go.ChangeAt Go.RowKit
set_option linter.unusedVariables false
set_option linter.unusedSimpArgs false
set_option maxRecDepth 8000

theorem nodeB_parts {ns : List PN} {i : Nat} {n : PN} (h : nodeB ns i n = true) : styOk n.sty = true ∧ upOk ns i n = true ∧ kidsOk ns i n = true ∧ conOk n = true ∧ depOk ns i = true := by
  unfold nodeB at h
  simp only [Bool.and_eq_true] at h
  exact ⟨h.1.1.1.1, h.1.1.1.2, h.1.1.2, h.1.2, h.2⟩
theorem ndAt_nat {ns : List PN} {k : Nat} (h : k < ns.length) : ndAt ns ((k : Int) + 1) = ns[k] := by
  have e : ((k : Int) + 1 - 1).toNat = k := by omega
  unfold ndAt
  rw [e, List.getElem?_eq_getElem h]; rfl
theorem kids_count {ns : List PN} (ht : treeB ns = true) {i : Nat} (hi : i < ns.length) {z : Int} (hz : z ∈ ns[i].kids) : nIn ns.length z = true ∧ ns[i].kids.count z = 1 := by
  have hk := (nodeB_parts (treeB_node ht hi)).2.2.1
  unfold kidsOk at hk
  have hk := List.all_eq_true.1 hk z hz
  unfold kidOk at hk
  simp only [Bool.and_eq_true, beq_iff_eq] at hk
  have h1 := nIn_iff.1 hk.1
  obtain ⟨c, rfl⟩ : ∃ c : Nat, z = (c : Int) + 1 := ⟨(z - 1).toNat, by omega⟩
  have hc : c < ns.length := by omega
  have hu := (nodeB_parts (treeB_node ht hc)).2.1
  have hup : ns[c].up = (i : Int) + 1 := by have := hk.2; unfold upZ at this; rwa [ndAt_nat hc] at this
  unfold upOk at hu
  rw [hup, ndAt_nat hi] at hu
  simp only [Bool.or_eq_true, Bool.and_eq_true, beq_iff_eq] at hu
  refine ⟨hk.1, ?_⟩
  rcases hu with h | h
  · omega
  · exact h.2
theorem nodup_of_count : ∀ (l : List Int), (∀ z ∈ l, l.count z = 1) → l.Nodup
  | [], _ => List.nodup_nil
  | x :: l, h => by
    have h0 := h x (List.mem_cons_self ..)
    rw [List.count_cons_self] at h0
    have hx : x ∉ l := List.count_eq_zero.1 (by omega)
    refine List.nodup_cons.2 ⟨hx, nodup_of_count l fun z hz => ?_⟩
    have := h z (List.mem_cons_of_mem _ hz)
    rwa [List.count_cons_of_ne (fun e => hx (by rw [e]; exact hz))] at this
theorem kids_few {ns : List PN} (ht : treeB ns = true) {i : Nat} (hi : i < ns.length) : ns[i].kids.length ≤ 12 := by
  have hn := nodup_of_count ns[i].kids fun z hz => (kids_count ht hi hz).2
  have hm : (ns[i].kids.map fun z => (z - 1).toNat).Nodup := by
    refine List.pairwise_map.2 (List.Pairwise.imp_of_mem (fun {a b} ha hb hab => ?_) hn)
    have h1 := nIn_iff.1 (kids_count ht hi ha).1
    have h2 := nIn_iff.1 (kids_count ht hi hb).1
    omega
  have := nodup_small 12 _ hm (fun x hx => by
    obtain ⟨z, hz, rfl⟩ := List.mem_map.1 hx
    have h1 := nIn_iff.1 (kids_count ht hi hz).1
    have := treeB_len ht
    omega)
  simpa using this
theorem rl_few {ns : List PN} (ht : treeB ns = true) {i : Nat} (hi : i < ns.length) : ns[i].rl ≤ 6 := by
  have h := (nodeB_parts (treeB_node ht hi)).2.2.2.1
  unfold conOk at h
  split at h
  · have := (Bool.and_eq_true_iff.1 h).2
    unfold tokB at this
    have := of_decide_eq_true (Bool.and_eq_true_iff.1 this).1
    omega
  · simp at h
    omega
theorem sum_few : ∀ (l : List Nat), (∀ x ∈ l, x ≤ 18) → l.sum ≤ l.length * 18
  | [], _ => by simp
  | x :: l, h => by
    have h1 := sum_few l fun y hy => h y (List.mem_cons_of_mem _ hy)
    have h2 := h x (List.mem_cons_self ..)
    simp
    omega
theorem treeB_sz {ns : List PN} (ht : treeB ns = true) : szS ns ≤ 228 := by
  have h1 := treeB_len ht
  have h2 := sum_few (ns.map szK) (fun x hx => by
    obtain ⟨n, hn, rfl⟩ := List.mem_map.1 hx
    obtain ⟨i, hi, rfl⟩ := List.getElem_of_mem hn
    have := kids_few ht hi
    have := rl_few ht hi
    unfold szK
    omega)
  unfold szS szL
  simp at h2
  omega
set_option linter.unusedVariables false
set_option linter.unusedSimpArgs false
set_option maxRecDepth 8000

set_option maxHeartbeats 1000000 in
theorem ihasnode (a : Option Addr) (cap : Nat) (ns : List PN) (z : Int) (w : World) (hz : Nds w a ns) (hl : szS ns ≤ 1048576) :
    Calls Try.prog 61 #[.agg #[.slice a ns.length cap], .int .i64 z] w fun e w' => e = .returned (.bool (nIn ns.length z && treeB ns)) ∧ Below w.heap.size w w' := by
  have h0 := hp_new w (.cells #[.slice a ns.length cap] 26)
  have bb := Go.Joins.below_alloc1 w (.cells #[.slice a ns.length cap] 26)
  obtain ⟨u, eu⟩ : ∃ u, u = w.alloc (.cells #[.slice a ns.length cap] 26) := ⟨_, rfl⟩
  rw [← eu] at h0 bb
  have EU := Lib.hid eu
  clear eu
  have HZ := Lib.hid (hz.below bb)
  have c0 := Go.Joins.cell_of_block h0 0
  simp at c0
  have BB := Lib.hid bb
  clear hz h0 bb
  have kr := irng z 1 ns.length u
  have hr : rnB z 1 ns.length = nIn ns.length z := rfl
  rw [hr] at kr
  clear hr
  have KT := Lib.hid (itreeok a cap ns u HZ.out hl)
  obtain ⟨t, et⟩ : ∃ t, t = treeB ns := ⟨_, rfl⟩
  rw [← et] at KT ⊢
  generalize nIn ns.length z = r at *
  have KR := Lib.hid kr
  clear kr et
  cases r
  all_goals
    go_enter Try.func61, Try.ntmps61
    go_wp2_with (first
      | (rw [← EU.out])
      | (go_at_call 76; refine KR.out.mono ?_; rintro e w1 ⟨rfl, rfl⟩)
      | (go_at_call 17; refine KT.out.mono ?_; rintro e w2 ⟨rfl, b2⟩))
  · go_ret
    exact ⟨rfl, BB.out⟩
  · go_ret
    exact ⟨rfl, BB.out.trans (b2.mono BB.out.size)⟩
end Go.Proofs.Ytckpjldenkjddaa
end
section
namespace Go.Proofs.Ytckpjldenkjddaa
open Go.ChangeShapes Go.WideShapes Go.ChangeAt Go.RowKit
set_option linter.unusedVariables false
set_option linter.unusedSimpArgs false
set_option maxRecDepth 8000

/-- What lies behind the pointer to the node z. -/
theorem Linked.look {w : World} {G b off : Nat} {ns : List PN} {a : Option Addr} (hL : Linked w G b off (linksOf ns)) (hz : Nds w a ns) (ha : a = some ⟨b, off, none⟩) {z : Int} {s : Nat} (h : PtrTo w G ns.length z (.pointer (some ⟨s, 0, none⟩))) (hin : nIn ns.length z = true) :
    ∃ (k : Nat) (upv : Value) (va : Option Addr) (vc : Nat), z = (k : Int) + 1 ∧ k < ns.length ∧ s = G + 1 + k ∧ w.cell? ⟨s, 0, none⟩ = some (.int .i64 z) ∧ w.cell? ⟨s, 1, none⟩ = some (.pointer (some ⟨b, off + k * 64, none⟩)) ∧ w.cell? ⟨s, 2, none⟩ = some upv ∧ UpP w G ns.length (upZ ns z) upv ∧
      w.cell? ⟨s, 3, none⟩ = some (.slice va (kidsZ ns z).length vc) ∧ KidsAt w G ns.length va (kidsZ ns z) ∧ NodeAt w b (off + k * 64) (ndAt ns z) := by
  obtain ⟨l, q, upv, kv, hzq, hq, hlq, hh, hup, _⟩ := hL.at (z := z) (by rw [linksOf_len]; exact hin)
  rw [linksOf_len] at hq hup
  obtain ⟨va, vc, c3, hka⟩ := hL.kids h
  obtain ⟨s', e, h'⟩ := h
  simp at e
  subst e
  have hs : s = G + 1 + q := by
    rcases h' with ⟨h1, h2⟩ | ⟨h1, _⟩
    · omega
    · rw [hin] at h1; cases h1
  subst hs
  have hupz : upZ ns z = l.1 := by rw [hzq]; exact linksOf_up hlq
  obtain ⟨b', off', eab, _, hnd⟩ := hz.look hq
  rw [ha] at eab
  simp at eab
  obtain ⟨rfl, rfl⟩ := eab
  refine ⟨q, upv, va, vc, hzq, hq, rfl, ?_, (Go.Joins.cell_of_block hh 1).trans rfl, (Go.Joins.cell_of_block hh 2).trans rfl, by rw [hupz]; exact hup, c3, hka, ?_⟩
  · rw [hzq]; exact (Go.Joins.cell_of_block hh 0).trans rfl
  · rw [hzq, ndAt_nat hq]; exact hnd
end Go.Proofs.Ytckpjldenkjddaa
end
section
namespace Go.Proofs.Ytckpjldenkjddaa
open Go.ChangeShapes Go.WideShapes Go.ChangeAt Go.RowKit

section
variable {P : Program}

/-- In the place of an operation: nothing, as late as it. -/
def nopOf (o : Oper) : Oper := ⟨none, .move (.const undef), o.type, o.pos, o.after, none⟩
/-- The operations, with nothing in the place of number k and of all from n on. -/
def blank (n k : Nat) : Nat → List Oper → List Oper
  | _, [] => []
  | i, o :: l => (if i = k ∨ n ≤ i then nopOf o else o) :: blank n k (i + 1) l
/-- The worlds that lie behind w: more drawn, more blocks. -/
def behind (w w' : World) : Prop := ∃ p : Regrown, w' = Sort.grow (redrawn w p.d) p.os
/-- The Bools over the region. -/
def newB (n k : Nat) (l : List Oper) : Bool :=
  Region.noSelect l.toArray && Region.noSelect (blank n k 0 l).toArray && Region.lexFrom .any (blank n k 0 l).toArray l.length 0 (Array.replicate l.length false) &&
  decide (k < n) && decide (n < l.length) && Region.sinkB .any l.toArray n && Region.chainB .any l.toArray n &&
  Region.seqB .any l.toArray (l.length - n) n (Array.replicate n true ++ Array.replicate (l.length - n) false) &&
  ((List.range n).all fun j => j == k || match l[k]?, l[j]? with | some x, some y => x.apart l.toArray y | _, _ => false) &&
  ((List.range l.length).all fun j => match l[j]? with | some o => o.after.all fun e => decide (e.on < j) | none => true) &&
  ((List.range n).all fun j => match l[j]? with | some o => (match o.guard with | none => true | some (g, _) => g != k && decide (g < n)) | none => true) &&
  ((List.range n).all fun i => (List.range n).all fun j => i == j || match l[i]?, l[j]? with | some x, some y => (match x.dst with | none => true | some t => y.dst != some t) | _, _ => true)

end
end Go.Proofs.Ytckpjldenkjddaa
end
section
namespace Go.Proofs.Ytckpjldenkjddaa
open Go.ChangeShapes Go.WideShapes Go.ChangeAt Go.RowKit
set_option linter.unusedVariables false
set_option linter.unusedSimpArgs false
set_option maxRecDepth 8000

set_option linter.unusedVariables false
set_option linter.unusedSimpArgs false
set_option maxRecDepth 8000

theorem sl10ndF {a : Option Addr} {cap : Nat} {ns : List PN} {z : Int} {w : World} (hz : Nds w a ns) (hl : ns.length ≤ 1048576) (hin : nIn ns.length z = true) :
    ∃ kv tv, ∀ w', Below w.heap.size w w' → Calls Try.prog 70 #[.agg #[.slice a ns.length cap], .int .i64 z] w' fun e w'' => e = .returned (.agg (nA (ndAt ns z).up kv (ndAt ns z).sty (ndAt ns z).meas tv)) ∧ Below w'.heap.size w' w'' := by
  obtain ⟨b, off, q, kv, tv, rfl, hzq, hq, hgd, hok, hrg, hkv, htv⟩ := nd_look hz hin
  exact ⟨kv, tv, fun w' hw => sl10nd b off ns.length cap q z (ndAt ns z) kv tv w' hzq hq hl (rg_below hrg hw) hkv.one htv.one⟩
end Go.Proofs.Ytckpjldenkjddaa
end

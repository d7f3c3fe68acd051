/-
  The contract of the program's TreeOk. Conditions: no list of more than 1048576.
-/
import Derived.Test.YtjlgcnhjifdgfaaTrQ
import Derived.Test.YtjlgcnhjifdgfaaLnD
import Derived.Test.YtjlgcnhjifdgfaaOkP
import Derived.Test.YtjlgcnhjifdgfaaTok
namespace Go.Proofs.Ytjlgcnhjifdgfaa
open Go.ChangeShapes Go.WideShapes Go.ChangeAt Go.RowKit
set_option linter.unusedVariables false
set_option linter.unusedSimpArgs false
set_option maxRecDepth 8000

theorem lk_neq (s t : Nat) (w : World) (cs ct : Array Value) (hs : w.heap[s]? = some (.cells cs 111)) (ht : w.heap[t]? = some (.cells ct 111)) :
    (binOp .neq 100 (.pointer (some ⟨s, 0, none⟩)) (.pointer (some ⟨t, 0, none⟩))).run Try.prog w = .ok (.bool (!decide (s = t))) w := by
  have h := lk_eql s t w cs ct hs ht
  unfold binOp at h ⊢
  simp only [Sem.run_bind] at h ⊢
  cases hq : (Op.equal 100 (.pointer (some ⟨s, 0, none⟩)) (.pointer (some ⟨t, 0, none⟩))).run Try.prog w with
  | ok b w' =>
    rw [hq] at h
    simp [Result.andThen, Sem.run_pure] at h ⊢
    exact ⟨by rw [h.1], h.2⟩
  | _ => rw [hq] at h; simp [Result.andThen] at h
theorem lk_neq_nil (t : Nat) (w : World) : (binOp .neq 100 (.pointer none) (.pointer (some ⟨t, 0, none⟩))).run Try.prog w = .ok (.bool true) w := by
  have h : ∀ d : Nat, (Op.equalIn (d + 1) 100 (.pointer none) (.pointer (some ⟨t, 0, none⟩))).run Try.prog w = .ok false w := fun d => by
    simp [Op.equalIn, run_underlying Try.underlying100]
  simp only [binOp]
  simp [Op.equal, Op.maxDepth, h 9999]
/-- A pointer leads to the node i just where its number is i + 1. -/
theorem PtrTo.node {w : World} {G n : Nat} {z : Int} {s i : Nat} (h : PtrTo w G n z (.pointer (some ⟨s, 0, none⟩))) (hi : i < n) : s = G + 1 + i ↔ z = (i : Int) + 1 := by
  obtain ⟨s', e, h⟩ := h
  simp at e
  subst e
  rcases h with ⟨h1, h2⟩ | ⟨h1, h2, _⟩
  · omega
  · constructor
    · intro; omega
    · intro e
      subst e
      have := nIn_no.1 h1
      omega
/-- The children's pointers, to be read. -/
def KidsAt (w : World) (G n : Nat) (va : Option Addr) (zs : List Int) : Prop :=
  ∀ j, j < zs.length → ∃ g s, va = some ⟨g, 0, none⟩ ∧ w.cell? ⟨g, j, none⟩ = some (.pointer (some ⟨s, 0, none⟩)) ∧ PtrTo w G n (zs.getD j 0) (.pointer (some ⟨s, 0, none⟩))
theorem KidsP.at {w : World} {G n lo : Nat} {v : Value} {zs : List Int} (h : KidsP w G n lo v zs) : ∃ va vc, v = .slice va zs.length vc ∧ KidsAt w G n va zs := by
  obtain ⟨ps, h1, h2⟩ := h
  rcases h1.2 with ⟨e1, e2⟩ | ⟨g, cap, cur, e1, _⟩
  · exact ⟨none, 0, by rw [e1, e2], fun j hj => by omega⟩
  · subst e1
    refine ⟨_, cap, rfl, fun j hj => ?_⟩
    have hz : zs[j]? = some (zs.getD j 0) := by rw [List.getD_eq_getElem?_getD, List.getElem?_eq_getElem hj]; rfl
    obtain ⟨p, h3, h4⟩ := h2 j _ hz
    obtain ⟨s, e, h5⟩ := h4
    subst e
    exact ⟨g, s, rfl, by rw [World.ownsRow.cellAt h1 j (by omega)]; exact h3, s, rfl, h5⟩
/-- The children of whatever a pointer leads to. -/
def kidsZ (ns : List PN) (z : Int) : List Int := if nIn ns.length z = true then (ndAt ns z).kids else []
theorem linksOf_kids {ns : List PN} {k : Nat} {l : Int × List Int} (h : (linksOf ns)[k]? = some l) : (ndAt ns ((k : Int) + 1)).kids = l.2 := by
  rw [linksOf, List.getElem?_map] at h
  cases hn : ns[k]? with
  | none => rw [hn] at h; cases h
  | some n =>
    rw [hn] at h
    simp at h
    unfold ndAt
    rw [show ((k : Int) + 1 - 1).toNat = k by omega, hn, ← h]
    rfl
theorem Linked.kids {w : World} {G b off : Nat} {ns : List PN} (hL : Linked w G b off (linksOf ns)) {z : Int} {s : Nat} (h : PtrTo w G ns.length z (.pointer (some ⟨s, 0, none⟩))) :
    ∃ va vc, w.cell? ⟨s, 3, none⟩ = some (.slice va (kidsZ ns z).length vc) ∧ KidsAt w G ns.length va (kidsZ ns z) := by
  obtain ⟨s', e, h⟩ := h
  simp at e
  subst e
  rcases h with ⟨h1, h2⟩ | ⟨h1, h2, h3⟩
  · obtain ⟨l, q, upv, kv, hzq, hq, hlq, hh, _, hk⟩ := hL.at (z := z) (by rw [linksOf_len]; exact h1)
    rw [linksOf_len] at hk
    have hs : s = G + 1 + q := by omega
    subst hs
    have e : kidsZ ns z = l.2 := by rw [kidsZ, if_pos h1, hzq, linksOf_kids hlq]
    obtain ⟨va, vc, ev, hka⟩ := hk.at
    rw [e]
    exact ⟨va, vc, by rw [← ev]; exact (Go.Joins.cell_of_block hh 3).trans rfl, hka⟩
  · have e : kidsZ ns z = [] := by rw [kidsZ, if_neg (by rw [h1]; decide)]
    rw [e]
    exact ⟨none, 0, (Go.Joins.cell_of_block h3 3).trans rfl, fun j hj => absurd hj (Nat.not_lt_zero _)⟩
def TmRel (zs : List Int) (x : Int) (w : World) (t j : Value) (wr : World) : Prop :=
  ∃ k : Nat, k ≤ zs.length ∧ j = .int .i64 k ∧ t = .int .i64 (cntZ (zs.take k) x : Nat) ∧ wr = w
set_option maxHeartbeats 2000000 in
/-- linkedNode.timesOf -/
theorem itimesof (G b off : Nat) (ns : List PN) (z : Int) (s i : Nat) (w : World) (hL : Linked w G b off (linksOf ns)) (hp : PtrTo w G ns.length z (.pointer (some ⟨s, 0, none⟩))) (hi : i < ns.length) (hk : (kidsZ ns z).length ≤ 1048576) :
    Calls Try.prog 107 #[.pointer (some ⟨s, 0, none⟩), .pointer (some ⟨G + 1 + i, 0, none⟩)] w fun e w' => e = .returned (.int .i64 (cntZ (kidsZ ns z) ((i : Int) + 1) : Nat)) ∧ w' = w := by
  obtain ⟨va, vc, c3, hka⟩ := hL.kids hp
  obtain ⟨c4, ho4⟩ := PtrTo.obj (z := (i : Int) + 1) (s := G + 1 + i) hL (by rw [linksOf_len]; exact ⟨_, rfl, Or.inl ⟨nIn_iff.2 (by omega), by omega⟩⟩)
  generalize kidsZ ns z = zs at *
  have HKA := Lib.hid hka
  have HL := Lib.hid hL
  have HO4 := Lib.hid ho4
  clear hka hp ho4 hL
  go_enter Try.func107, Try.ntmps107
  go_wp2_with (fail)
  go_loopw [5, 7, 13] (fun t _ j wr => TmRel zs ((i : Int) + 1) w t j wr) (fun _ _ j _ => zs.length - (intOf j).toNat)
  case atStart => exact ⟨0, Nat.zero_le _, rfl, by simp [cntZ], rfl⟩
  case round =>
    obtain ⟨k, hkz, rfl, rfl, rfl⟩ := hrel
    by_cases hlt : k < zs.length
    · obtain ⟨g, s', rfl, cp, hps⟩ := HKA.out k hlt
      obtain ⟨cs, ho⟩ := PtrTo.obj (z := zs.getD k 0) HL.out (by rw [linksOf_len]; exact hps)
      have heq := lk_eql s' (G + 1 + i) _ cs c4 ho HO4.out
      have hnode := hps.node hi
      have hct := cntZ_take (zs := zs) ((i : Int) + 1) hlt
      have hcl := cntZ_le (zs.take k) ((i : Int) + 1)
      have hcl2 : cntZ (zs.take k) ((i : Int) + 1) ≤ 1048576 := by rw [List.length_take] at hcl; omega
      have hlo : (0 : Int) ≤ (k : Int) := Int.natCast_nonneg _
      have hhi : (k : Int) < (zs.length : Int) := by omega
      have HCT := Lib.hid hct
      clear c3 ho hct hcl hps
      by_cases he : s' = G + 1 + i
      · have hz := hnode.1 he
        simp only [he, decide_true] at heq
        subst he
        have HN := Lib.hid hz
        clear hnode hz
        go_wp2
        go_roundw
        case rel => exact ⟨k + 1, by omega, by go_num, by rw [HCT.out, if_pos HN.out]; rfl, rfl⟩
        case measure => simp [intOf]; omega
      · have hz : ¬ zs.getD k 0 = (i : Int) + 1 := fun h => he (hnode.2 h)
        simp only [he, decide_false] at heq
        have HN := Lib.hid hz
        clear hnode hz
        go_wp2
        go_roundw
        case rel => exact ⟨k + 1, by omega, by go_num, by rw [HCT.out, if_neg HN.out]; rfl, rfl⟩
        case measure => simp [intOf]; omega
    · obtain rfl : k = zs.length := by omega
      rw [List.take_length]
      clear c3
      go_wp2
      go_ret
      exact ⟨rfl, rfl⟩
/-- Where the parent's pointer leads. -/
theorem Linked.upOf {w : World} {G b off : Nat} {ns : List PN} (hL : Linked w G b off (linksOf ns)) {z : Int} {s : Nat} (h : PtrTo w G ns.length z (.pointer (some ⟨s, 0, none⟩))) :
    ∃ upv, w.cell? ⟨s, 2, none⟩ = some upv ∧ if nIn ns.length z = true then UpP w G ns.length (upZ ns z) upv else upv = .pointer none := by
  obtain ⟨s', e, h⟩ := h
  simp at e
  subst e
  rcases h with ⟨h1, h2⟩ | ⟨h1, h2, h3⟩
  · obtain ⟨l, q, upv, kv, hzq, hq, hlq, hh, hu, _⟩ := hL.at (z := z) (by rw [linksOf_len]; exact h1)
    rw [linksOf_len] at hu
    have hs : s = G + 1 + q := by omega
    subst hs
    refine ⟨upv, (Go.Joins.cell_of_block hh 2).trans rfl, ?_⟩
    rw [if_pos h1, hzq, linksOf_up hlq]
    exact hu
  · exact ⟨.pointer none, (Go.Joins.cell_of_block h3 2).trans rfl, by rw [if_neg (by rw [h1]; decide)]⟩
def LkRel (ns : List PN) (i : Nat) (n : PN) (w : World) (j : Value) (wr : World) : Prop :=
  ∃ k : Nat, k ≤ n.kids.length ∧ j = .int .i64 k ∧ wr = w ∧ ∀ q, q < k → kidOk ns i (n.kids.getD q 0) = true
def linkB (ns : List PN) (i : Nat) (n : PN) : Bool := kidsOk ns i n && upOk ns i n
set_option maxHeartbeats 4000000 in
/-- linkedNode.linksOk -/
theorem ilinksok (G b off : Nat) (ns : List PN) (i : Nat) (w : World) (hL : Linked w G b off (linksOf ns)) (hi : i < ns.length) (hk : ∀ n ∈ ns, n.kids.length ≤ 1048576) :
    Calls Try.prog 66 #[.pointer (some ⟨G + 1 + i, 0, none⟩)] w fun e w' => e = .returned (.bool (linkB ns i ns[i])) ∧ w' = w := by
  have hin : nIn ns.length ((i : Int) + 1) = true := nIn_iff.2 (by omega)
  have hpi : PtrTo w G ns.length ((i : Int) + 1) (.pointer (some ⟨G + 1 + i, 0, none⟩)) := ⟨_, rfl, Or.inl ⟨hin, by omega⟩⟩
  obtain ⟨c4, ho4⟩ := PtrTo.obj (z := (i : Int) + 1) (s := G + 1 + i) hL (by rw [linksOf_len]; exact hpi)
  have hnd : ndAt ns ((i : Int) + 1) = ns[i] := by
    rw [ndAt_get (by omega) (by omega)]
    congr 1
    omega
  obtain ⟨va, vc, c3, hka⟩ := hL.kids hpi
  obtain ⟨upv, c2, hup⟩ := hL.upOf hpi
  rw [if_pos hin] at hup
  have ekz : kidsZ ns ((i : Int) + 1) = ns[i].kids := by rw [kidsZ, if_pos hin, hnd]
  have euz : upZ ns ((i : Int) + 1) = ns[i].up := by rw [upZ, hnd]
  rw [ekz] at c3 hka
  rw [euz] at hup
  have hkl : ns[i].kids.length ≤ 1048576 := hk _ (List.getElem_mem hi)
  have hkz : ∀ z, (kidsZ ns z).length ≤ 1048576 := fun z => by
    unfold kidsZ
    split
    · rename_i h
      have h1 := nIn_iff.1 h
      rw [ndAt_get h1 (by omega)]
      exact hk _ (List.getElem_mem _)
    · simp
  have HKA := Lib.hid hka
  have HL := Lib.hid hL
  have HO4 := Lib.hid ho4
  have HUP := Lib.hid hup
  have HKZ := Lib.hid hkz
  clear hka hL ho4 hup hpi hin hnd ekz euz hk hkz
  generalize hn : ns[i] = n at *
  clear hn
  go_enter Try.func66, Try.ntmps66
  go_wp2_with (fail)
  go_loopw [4, 10] (fun _ j wr => LkRel ns i n w j wr) (fun _ j _ => n.kids.length - (intOf j).toNat)
  case atStart => exact ⟨0, Nat.zero_le _, rfl, rfl, fun q hq => absurd hq (Nat.not_lt_zero _)⟩
  case round =>
    obtain ⟨k, hkz, rfl, rfl, hgood⟩ := hrel
    by_cases hlt : k < n.kids.length
    · obtain ⟨g, s', rfl, cp, hps⟩ := HKA.out k hlt
      have hlo : (0 : Int) ≤ (k : Int) := Int.natCast_nonneg _
      have hhi : (k : Int) < (n.kids.length : Int) := by omega
      obtain ⟨upk, cu, hupk⟩ := HL.out.upOf hps
      have hbad := kids_bad (ns := ns) (i := i) hlt
      have hko : kidOk ns i (n.kids.getD k 0) = (nIn ns.length (n.kids.getD k 0) && upZ ns (n.kids.getD k 0) == (i : Int) + 1) := rfl
      have HGOOD := Lib.hid hgood
      obtain ⟨z, ez⟩ : ∃ z, n.kids.getD k 0 = z := ⟨_, rfl⟩
      rw [ez] at hps hupk hbad hko
      have EZ := Lib.hid ez
      clear ez hgood
      -- the parent's pointer of the child: a pointer to this node, or not
      by_cases hok : kidOk ns i z = true
      · rw [hok] at hko
        have hko2 := hko.symm
        simp only [Bool.and_eq_true, beq_iff_eq] at hko2
        rw [if_pos hko2.1, hko2.2] at hupk
        unfold UpP at hupk
        rw [if_neg (by omega)] at hupk
        obtain ⟨s2, rfl, hs2⟩ := hupk
        have e2 : s2 = G + 1 + i := (PtrTo.node (w := wr) (G := G) (n := ns.length) (z := (i : Int) + 1) ⟨s2, rfl, hs2⟩ hi).2 rfl
        subst e2
        have heq := lk_neq (G + 1 + i) (G + 1 + i) _ c4 c4 HO4.out HO4.out
        simp only [decide_true, Bool.not_true] at heq
        have HOK := Lib.hid hok
        clear c2 c3 hps hbad hko hko2 hs2 hok
        go_wp2
        go_roundw
        case rel =>
          refine ⟨k + 1, by omega, by go_num, rfl, fun q hq => ?_⟩
          by_cases e : q = k
          · rw [e, EZ.out]; exact HOK.out
          · exact HGOOD.out q (by omega)
        case measure => simp [intOf]; omega
      · have hok' : kidOk ns i z = false := by simpa using hok
        have hv : linkB ns i n = false := by unfold linkB; rw [hbad hok', Bool.false_and]
        have HV := Lib.hid hv
        -- nil, or a pointer to something else
        have hup2 : upk = .pointer none ∨ ∃ s2, upk = .pointer (some ⟨s2, 0, none⟩) ∧ s2 ≠ G + 1 + i ∧ PtrTo wr G ns.length (upZ ns z) upk := by
          by_cases hinz : nIn ns.length z = true
          · rw [if_pos hinz] at hupk
            unfold UpP at hupk
            by_cases e0 : upZ ns z = 0
            · rw [if_pos e0] at hupk; exact Or.inl hupk
            · rw [if_neg e0] at hupk
              obtain ⟨s2, es, hs2⟩ := hupk
              refine Or.inr ⟨s2, es, fun e => ?_, ⟨s2, es, hs2⟩⟩
              have := (PtrTo.node (w := wr) (G := G) (n := ns.length) (z := upZ ns z) ⟨s2, rfl, hs2⟩ hi).1 e
              rw [hko, hinz, this] at hok'
              simp at hok'
          · rw [if_neg hinz] at hupk; exact Or.inl hupk
        clear hv hbad hko hok hok' hps hupk c2 c3
        rcases hup2 with rfl | ⟨s2, rfl, hne, hp2⟩
        · have heq := lk_neq_nil (G + 1 + i) wr
          go_wp2
          go_ret
          exact ⟨by rw [HV.out]; rfl, rfl⟩
        · obtain ⟨c5, ho5⟩ := PtrTo.obj (z := upZ ns z) (s := s2) HL.out (by rw [linksOf_len]; exact hp2)
          have heq := lk_neq s2 (G + 1 + i) wr c5 c4 ho5 HO4.out
          simp only [hne, decide_false, Bool.not_false] at heq
          clear ho5 hp2
          go_wp2
          go_ret
          exact ⟨by rw [HV.out]; rfl, rfl⟩
    · obtain rfl : k = n.kids.length := by omega
      have hkk := kids_good hgood
      clear hgood c3
      have hup := HUP.out
      unfold UpP at hup
      by_cases e0 : n.up = 0
      · rw [if_pos e0] at hup
        subst hup
        have hv : linkB ns i n = true := by unfold linkB upOk; rw [hkk, e0]; rfl
        have HV := Lib.hid hv
        clear hv hkk
        go_wp2
        go_ret
        exact ⟨by rw [HV.out]; rfl, rfl⟩
      · rw [if_neg e0] at hup
        have hup' := hup
        obtain ⟨s2, rfl, _⟩ := hup
        have hv : linkB ns i n = (((cntZ (kidsZ ns n.up) ((i : Int) + 1) : Nat) : Int) == 1) := by
          unfold linkB upOk
          rw [hkk, Bool.true_and, show (n.up == 0) = false by simpa using e0, Bool.false_or]
          unfold kidsZ
          by_cases h : nIn ns.length n.up = true
          · rw [h, Bool.true_and]
            simp only [if_true]
            rw [Bool.eq_iff_iff]
            simp only [beq_iff_eq]
            omega
          · have h' : nIn ns.length n.up = false := by simpa using h
            rw [h']
            rfl
        have HV := Lib.hid hv
        have HU := Lib.hid hup'
        clear hv hkk hup'
        go_wp2_with (fail)
        refine (itimesof G b off ns n.up s2 i _ HL.out HU.out hi (HKZ.out _)).mono ?_
        rintro e w1 ⟨rfl, rfl⟩
        generalize ((cntZ (kidsZ ns n.up) ((i : Int) + 1) : Nat) : Int) = q at *
        go_wp2
        go_ret
        exact ⟨by rw [HV.out]; rfl, rfl⟩
set_option maxHeartbeats 2000000 in
/-- linkedNode.contentOk -/
theorem icontentok (G b off : Nat) (ns : List PN) (i : Nat) (w : World) (hL : Linked w G b off (linksOf ns)) (hi : i < ns.length) (hnd : NodeAt w b (off + i * 64) ns[i]) (hk : ns[i].kids.length ≤ 1048576) (hr : ns[i].rl ≤ 1048576) :
    Calls Try.prog 67 #[.pointer (some ⟨G + 1 + i, 0, none⟩)] w fun e w' => e = .returned (.bool (conOk ns[i])) ∧ Below w.heap.size w w' := by
  have hin : nIn ns.length ((i : Int) + 1) = true := nIn_iff.2 (by omega)
  have hpi : PtrTo w G ns.length ((i : Int) + 1) (.pointer (some ⟨G + 1 + i, 0, none⟩)) := ⟨_, rfl, Or.inl ⟨hin, by omega⟩⟩
  have hnd0 : ndAt ns ((i : Int) + 1) = ns[i] := by
    rw [ndAt_get (by omega) (by omega)]
    congr 1
    omega
  obtain ⟨va, vc, c3, _⟩ := hL.kids hpi
  have ekz : kidsZ ns ((i : Int) + 1) = ns[i].kids := by rw [kidsZ, if_pos hin, hnd0]
  rw [ekz] at c3
  obtain ⟨l, q, upv, kv, hzq, hq, _, hh, _⟩ := hL.at (z := (i : Int) + 1) (by rw [linksOf_len]; exact hin)
  obtain rfl : q = i := by omega
  have c1 : w.cell? ⟨G + 1 + q, 1, none⟩ = some (.pointer (some ⟨b, off + q * 64, none⟩)) := (Go.Joins.cell_of_block hh 1).trans rfl
  clear hL hpi hin hnd0 ekz hh hzq
  generalize ns[q] = n at *
  obtain ⟨kv', tv, hrg, _, ⟨ta, tc, rfl, hti⟩⟩ := hnd
  have c62 : w.cell? ⟨b, off + q * 64 + 62, none⟩ = some (.bool n.meas) := hrg 62 _ nL_meas
  have c63 : w.cell? ⟨b, off + q * 64 + 63, none⟩ = some (.slice ta n.rl tc) := hrg 63 _ nL_tab
  have HTI := Lib.hid hti
  have hco : conOk n = if n.meas = true then (n.kids.isEmpty && tokB n.rules n.rl) else n.rl == 0 := rfl
  clear hrg hti
  by_cases hm : n.meas = true
  · rw [hm] at c62
    rw [if_pos hm] at hco
    by_cases hk0 : n.kids.length = 0
    · have hv : conOk n = tokB n.rules n.rl := by rw [hco, show n.kids.isEmpty = true by simpa using hk0, Bool.true_and]
      have HV := Lib.hid hv
      rw [hk0] at c3
      clear hco hv hm
      go_enter Try.func67, Try.ntmps67
      go_wp2_with (fail)
      refine (itableok ta n.rl tc n.rules _ HTI.out (by omega)).mono ?_
      rintro e w1 ⟨rfl, b1⟩
      go_wp2
      go_ret
      exact ⟨by rw [HV.out]; rfl, b1⟩
    · have hv : conOk n = false := by rw [hco, show n.kids.isEmpty = false by cases h : n.kids with | nil => rw [h] at hk0; exact absurd rfl hk0 | cons => rfl, Bool.false_and]
      have HV := Lib.hid hv
      have hk1 : ¬ ((n.kids.length : Int) = 0) := by omega
      clear hco hv hm
      go_enter Try.func67, Try.ntmps67
      go_wp2
      go_ret
      exact ⟨by rw [HV.out]; rfl, Below.refl _ _⟩
  · have hm' : n.meas = false := by simpa using hm
    rw [hm'] at c62
    rw [if_neg hm] at hco
    have hv : conOk n = ((n.rl : Int) == 0) := by rw [hco, Bool.eq_iff_iff]; simp only [beq_iff_eq]; omega
    have HV := Lib.hid hv
    clear hco hv hm hm'
    go_enter Try.func67, Try.ntmps67
    go_wp2
    go_ret
    exact ⟨by rw [HV.out]; rfl, Below.refl _ _⟩
def TiRel (G b off : Nat) (ns : List PN) (u : World) (iv : Value) (wr : World) : Prop :=
  ∃ k : Nat, k ≤ ns.length ∧ iv = .int .i64 k ∧ (∀ j (hj : j < ns.length), j < k → nodeB ns j ns[j] = true) ∧ Linked wr G b off (linksOf ns) ∧ Below u.heap.size u wr
set_option maxHeartbeats 4000000 in
theorem itreeok (a : Option Addr) (cap : Nat) (ns : List PN) (w : World) (hz : Nds w a ns) (hl : szS ns ≤ 1048576) :
    Calls Try.prog 18 #[.agg #[.slice a ns.length cap]] w fun e w' => e = .returned (.bool (treeB ns)) ∧ Below w.heap.size w w' := by
  obtain ⟨b, off, ha⟩ := hz.place
  have hnl : ns.length ≤ 1048576 := by unfold szS at hl; omega
  have hkl : ∀ i (hi : i < ns.length), ns[i].kids.length ≤ 1048576 ∧ ns[i].rl ≤ 1048576 := fun i hi => by
    have h1 := szK_le hi
    unfold szS at hl
    unfold szK at h1
    omega
  obtain ⟨u, eu⟩ : ∃ u, u = w.alloc (.cells #[.slice a ns.length cap] 26) := ⟨_, rfl⟩
  have h0 := hp_new w (.cells #[.slice a ns.length cap] 26)
  have B0 : Below w.heap.size w u := by rw [eu]; exact bel_alloc _ _
  rw [← eu] at h0
  have hs : w.heap.size < u.heap.size := by rw [eu]; simp
  have c0 : u.cell? ⟨w.heap.size, 0, none⟩ = some (.slice a ns.length cap) := (Go.Joins.cell_of_block h0 0).trans rfl
  have HZ := Lib.hid (hz.below B0)
  have HB := Lib.hid B0
  have HA := Lib.hid ha
  have EU := Lib.hid eu
  have HKL := Lib.hid hkl
  have HL := Lib.hid hl
  have HS := Lib.hid hs
  clear hz B0 ha eu hkl hl h0 hs
  by_cases h12 : ns.length ≤ 12
  · go_enter Try.func18, Try.ntmps18
    go_wp2_with (rw [← EU.out])
    refine (ilinkedof a cap b off ns _ HZ.out HL.out HA.out).mono ?_
    rintro e w1 ⟨rfl, hL, b1⟩
    generalize u.heap.size + 1 = G at *
    have H1 := Lib.hid hL
    have HB1 := Lib.hid b1
    clear b1 hL c0
    dsimp only
    go_wp2_with (fail)
    go_loopw [5, 14] (fun _ iv wr => TiRel G b off ns u iv wr) (fun _ i _ => ns.length - (intOf i).toNat)
    case atStart => exact ⟨0, Nat.zero_le _, rfl, fun j _ hj => absurd hj (Nat.not_lt_zero _), H1.out, HB1.out⟩
    case round =>
      obtain ⟨k, hk, rfl, hgood, hL, hb⟩ := hrel
      have hlo : (0 : Int) ≤ (k : Int) := Int.natCast_nonneg _
      by_cases hlt : k < ns.length
      · have hhi : (k : Int) < (ns.length : Int) := by omega
        have cp := hL.1 k (by rw [linksOf_len]; exact hlt)
        have hin : nIn ns.length ((k : Int) + 1) = true := nIn_iff.2 (by omega)
        obtain ⟨l, q, upv, kv, hzq, hq, _, hh, _⟩ := hL.at (z := (k : Int) + 1) (by rw [linksOf_len]; exact hin)
        obtain rfl : q = k := by omega
        have c1 : wr.cell? ⟨G + 1 + q, 1, none⟩ = some (.pointer (some ⟨b, off + q * 64, none⟩)) := (Go.Joins.cell_of_block hh 1).trans rfl
        obtain ⟨b', off', eab, _, hnd⟩ := (HZ.out.below hb).look hlt
        have hab : off' = off ∧ b' = b := by
          rcases HA.out with h | h
          · rw [h] at hlt; exact absurd hlt (Nat.not_lt_zero _)
          · rw [h] at eab; simp at eab; exact ⟨eab.2.symm, eab.1.symm⟩
        obtain ⟨rfl, rfl⟩ := hab
        have hnd' := hnd
        obtain ⟨kv', tv, hrg, _, _⟩ := hnd
        have RG := Lib.hid (range_styN hrg)
        have HN := Lib.hid hnd'
        have HG := Lib.hid hgood
        have HLL := Lib.hid hL
        have HBB := Lib.hid hb
        have hnode : nodeB ns q ns[q] = (styOk ns[q].sty && upOk ns q ns[q] && kidsOk ns q ns[q] && conOk ns[q] && depOk ns q) := rfl
        have hbad := tree_bad (ns := ns) hlt
        have HNO := Lib.hid hnode
        have HBAD := Lib.hid hbad
        have hlk : linkB ns q ns[q] = (kidsOk ns q ns[q] && upOk ns q ns[q]) := rfl
        have HLK := Lib.hid hlk
        clear hgood hL hb hzq hh hrg hnd' hnode hbad hlk hin
        go_wp2_with (first
          | ((with_reducible apply list_load_styAt); exact rfl; exact rfl; exact rfl; (with_reducible exact RG.out); simp only [Act.put, List.setIfInBounds_toArray, List.set_cons_succ, List.set_cons_zero])
          | fail)
        refine (istyok ns[q].sty _).mono ?_
        rintro e w2 ⟨rfl, b2⟩
        have HBB := Lib.hid (HBB.out.trans (b2.mono HBB.out.size))
        have HLL := Lib.hid (HLL.out.below b2)
        have HN := Lib.hid (HN.out.below b2)
        clear b2 c1 cp RG
        by_cases s1 : styOk ns[q].sty = true
        · rw [s1]
          dsimp only
          go_wp2_with (fail)
          refine (ilinksok G b' off' ns q _ HLL.out hlt (fun n hn => by obtain ⟨i, hi, rfl⟩ := List.getElem_of_mem hn; exact (HKL.out i hi).1)).mono ?_
          rintro e w3 ⟨rfl, rfl⟩
          by_cases s2 : linkB ns q ns[q] = true
          · rw [s2]
            dsimp only
            go_wp2_with (fail)
            refine (icontentok G b' off' ns q _ HLL.out hlt HN.out (HKL.out q hlt).1 (HKL.out q hlt).2).mono ?_
            rintro e w4 ⟨rfl, b4⟩
            have HBB := Lib.hid (HBB.out.trans (b4.mono HBB.out.size))
            have HLL := Lib.hid (HLL.out.below b4)
            clear b4 HN
            by_cases s3 : conOk ns[q] = true
            · rw [s3]
              dsimp only
              go_wp2_with (fail)
              refine (idepthof G b' off' ns.length ns ((q : Int) + 1) _ _ HLL.out hnl ⟨G + 1 + q, rfl, Or.inl ⟨nIn_iff.2 (by omega), by omega⟩⟩).mono ?_
              rintro e w5 ⟨rfl, rfl⟩
              dsimp only
              go_wp2_with (fail)
              refine (irng (dpV ns ((q : Int) + 1)) 1 4 _).mono ?_
              rintro e w6 ⟨rfl, rfl⟩
              have hdo : rnB (dpV ns ((q : Int) + 1)) 1 4 = depOk ns q := rfl
              rw [hdo]
              generalize dpV ns ((q : Int) + 1) = dd at *
              clear hdo
              by_cases s4 : depOk ns q = true
              · rw [s4]
                dsimp only
                have hno : nodeB ns q ns[q] = true := by
                  have h2 := s2
                  rw [HLK.out] at h2
                  simp only [Bool.and_eq_true] at h2
                  rw [HNO.out, s1, h2.1, h2.2, s3, s4]; rfl
                have HNN := Lib.hid hno
                clear hno s1 s2 s3 s4
                go_wp2_with (fail)
                go_roundw
                case rel =>
                  refine ⟨q + 1, by omega, by go_num, fun j hj hjk => ?_, HLL.out, HBB.out⟩
                  by_cases e : j = q
                  · subst e; exact HNN.out
                  · exact HG.out j hj (by omega)
                case measure => simp [intOf]; omega
              · have s4' : depOk ns q = false := by simpa using s4
                have hv : treeB ns = false := HBAD.out (by rw [HNO.out, s4', Bool.and_false])
                have HV := Lib.hid hv
                rw [s4']
                clear hv s1 s2 s3 s4 s4'
                dsimp only
                go_wp2_with (fail)
                go_ret
                exact ⟨by rw [HV.out]; rfl, HB.out.trans (HBB.out.mono HB.out.size)⟩
            · have s3' : conOk ns[q] = false := by simpa using s3
              have hv : treeB ns = false := HBAD.out (by rw [HNO.out, s3', Bool.and_false, Bool.false_and])
              have HV := Lib.hid hv
              rw [s3']
              clear hv s1 s2 s3 s3'
              dsimp only
              go_wp2_with (fail)
              go_ret
              exact ⟨by rw [HV.out]; rfl, HB.out.trans (HBB.out.mono HB.out.size)⟩
          · have s2' : linkB ns q ns[q] = false := by simpa using s2
            have hv : treeB ns = false := HBAD.out (by
              have h2 := s2'
              rw [HLK.out, Bool.and_comm] at h2
              rw [HNO.out, Bool.and_assoc (styOk _), h2, Bool.and_false, Bool.false_and, Bool.false_and])
            have HV := Lib.hid hv
            rw [s2']
            clear hv s1 s2 s2'
            dsimp only
            go_wp2_with (fail)
            go_ret
            exact ⟨by rw [HV.out]; rfl, HB.out.trans (HBB.out.mono HB.out.size)⟩
        · have s1' : styOk ns[q].sty = false := by simpa using s1
          have hv : treeB ns = false := HBAD.out (by rw [HNO.out, s1', Bool.false_and, Bool.false_and, Bool.false_and, Bool.false_and])
          have HV := Lib.hid hv
          rw [s1']
          clear hv s1 s1'
          dsimp only
          go_wp2_with (fail)
          go_ret
          exact ⟨by rw [HV.out]; rfl, HB.out.trans (HBB.out.mono HB.out.size)⟩
      · obtain rfl : k = ns.length := by omega
        have hv : treeB ns = true := tree_good h12 fun i hi => hgood i hi hi
        have HV := Lib.hid hv
        have HBB := Lib.hid hb
        clear hv hgood hL hb
        go_wp2_with (fail)
        go_ret
        exact ⟨by rw [HV.out]; rfl, HB.out.trans (HBB.out.mono HB.out.size)⟩
  · have hv := tree_len h12
    have hgt : (12 : Int) < (ns.length : Int) := by omega
    have HV := Lib.hid hv
    clear hv
    go_enter Try.func18, Try.ntmps18
    go_wp2_with (rw [← EU.out])
    go_ret
    exact ⟨by rw [HV.out]; rfl, HB.out⟩
end Go.Proofs.Ytjlgcnhjifdgfaa

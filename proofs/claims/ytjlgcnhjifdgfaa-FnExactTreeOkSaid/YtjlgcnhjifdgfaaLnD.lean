/-
  The contracts of the program's DepthOf and IsUnder. Conditions: no list of more than 1048576.
-/
import Derived.Test.YtjlgcnhjifdgfaaLnO
import Derived.Test.YtjlgcnhjifdgfaaTrS
import Derived.LaidEqlPtr
namespace Go.Proofs.Ytjlgcnhjifdgfaa
open Go.ChangeShapes Go.WideShapes Go.ChangeAt Go.RowKit
set_option linter.unusedVariables false
set_option linter.unusedSimpArgs false
set_option maxRecDepth 8000

theorem iexists (s : Nat) (i : Int) (a b c : Value) (w : World) (h : w.heap[s]? = some (.cells (lkA i a b c) 111)) :
    Calls Try.prog 108 #[.pointer (some ⟨s, 0, none⟩)] w fun e w' => e = .returned (.bool (!decide (i = 0))) ∧ w' = w := by
  have c0 : w.cell? ⟨s, 0, none⟩ = some (.int .i64 i) := (Go.Joins.cell_of_block h 0).trans rfl
  clear h
  by_cases h0 : i = 0
  · subst h0
    go_enter Try.func108, Try.ntmps108
    go_wp2
    go_ret
    exact ⟨rfl, rfl⟩
  · go_enter Try.func108, Try.ntmps108
    go_wp2
    go_ret
    exact ⟨by simp [h0], rfl⟩
/-- What a pointer to a node or a stand-in leads to. -/
theorem Linked.at {w : World} {G b off : Nat} {ls : List (Int × List Int)} (h : Linked w G b off ls) {z : Int} (hz : nIn ls.length z = true) :
    ∃ (l : Int × List Int) (k : Nat) (upv kv : Value), z = (k : Int) + 1 ∧ k < ls.length ∧ ls[k]? = some l ∧ w.heap[G + 1 + k]? = some (.cells (lkA (k + 1) (.pointer (some ⟨b, off + k * 64, none⟩)) upv kv) 111) ∧ UpP w G ls.length l.1 upv ∧ KidsP w G ls.length (G + ls.length + 1) kv l.2 := by
  have h1 := nIn_iff.1 hz
  obtain ⟨_, _, ups, kvs, h2, _⟩ := h
  have hk : (z - 1).toNat < ls.length := by omega
  obtain ⟨a, b, c⟩ := h2 (z - 1).toNat ls[(z - 1).toNat] (List.getElem?_eq_getElem hk)
  exact ⟨_, (z - 1).toNat, _, _, by omega, hk, List.getElem?_eq_getElem hk, a, b, c⟩
theorem linksOf_len (ns : List PN) : (linksOf ns).length = ns.length := by simp [linksOf]
theorem linksOf_up {ns : List PN} {k : Nat} {l : Int × List Int} (h : (linksOf ns)[k]? = some l) : upZ ns ((k : Int) + 1) = l.1 := by
  rw [linksOf, List.getElem?_map] at h
  cases hn : ns[k]? with
  | none => rw [hn] at h; cases h
  | some n =>
    rw [hn] at h
    simp at h
    unfold upZ ndAt
    rw [show ((k : Int) + 1 - 1).toNat = k by omega, hn, ← h]
    rfl
def DpRel (G : Nat) (ns : List PN) (z0 : Int) (w : World) (p d : Value) (wr : World) : Prop :=
  ∃ (k : Nat) (z : Int), k ≤ ns.length ∧ d = .int .i64 k ∧ wr = w ∧ dpV ns z0 = dpF ns (ns.length - k) z k ∧ ((p = .pointer none ∧ z = 0) ∨ (PtrTo w G ns.length z p ∧ (z = 0 → k = 0)))
set_option maxHeartbeats 2000000 in
/-- linkedTree.depthOf -/
theorem idepthof (G b off cap : Nat) (ns : List PN) (z0 : Int) (p0 : Value) (w : World) (hL : Linked w G b off (linksOf ns)) (hn : ns.length ≤ 1048576) (hp : PtrTo w G ns.length z0 p0) :
    Calls Try.prog 69 #[.slice (some ⟨G, 0, none⟩) ns.length cap, p0] w fun e w' => e = .returned (.int .i64 (dpV ns z0)) ∧ w' = w := by
  have HL := Lib.hid hL
  have HP := Lib.hid hp
  clear hL hp
  go_enter Try.func69, Try.ntmps69
  go_wp2_with (fail)
  go_loopw [1, 5] (DpRel G ns z0 w) (fun _ d _ => ns.length - (intOf d).toNat)
  case atStart => exact ⟨0, z0, Nat.zero_le _, rfl, rfl, rfl, Or.inr ⟨HP.out, fun _ => rfl⟩⟩
  case round =>
    obtain ⟨k, z, hk, rfl, rfl, hd, hpz⟩ := hrel
    have HD := Lib.hid hd
    have hlo : (0 : Int) ≤ (k : Int) := Int.natCast_nonneg _
    have hhi : (k : Int) ≤ (ns.length : Int) := by omega
    clear hd
    rcases hpz with ⟨rfl, rfl⟩ | ⟨hp, hz0⟩
    · have hv : dpV ns z0 = (k : Int) := by rw [HD.out, dpF_zero]
      have HV := Lib.hid hv
      clear hv
      go_wp2
      go_ret
      exact ⟨by rw [HV.out]; rfl, rfl⟩
    · obtain ⟨s, rfl, hs⟩ := hp
      rcases hs with ⟨hin, hsz⟩ | ⟨hout, _, hst⟩
      · obtain ⟨l, q, upv, kv, hzq, hq, hlq, hh, hup, _⟩ := HL.out.at (z := z) (by rw [linksOf_len]; exact hin)
        rw [linksOf_len] at hq hup
        have hs2 : s = G + 1 + q := by omega
        have hz1 : z ≠ 0 := by omega
        have hupz : upZ ns z = l.1 := by rw [hzq]; exact linksOf_up hlq
        have c2 := (Go.Joins.cell_of_block hh 2).trans (show _ = some upv from rfl)
        subst hs2
        have HH := Lib.hid hh
        have HUP := Lib.hid hup
        have HUZ := Lib.hid hupz
        have HIN := Lib.hid hin
        have HZQ := Lib.hid hzq
        have HZ1 := Lib.hid hz1
        clear hh hup hupz hin hzq hlq hsz hz1 hz0
        go_wp2_with (fail)
        refine (iexists _ _ _ _ _ _ HH.out).mono ?_
        rintro e w1 ⟨rfl, rfl⟩
        have hdec : (!decide ((q : Int) + 1 = 0)) = true := by simp; omega
        rw [hdec]
        dsimp only
        by_cases hkn : k = ns.length
        · have hgt : (ns.length : Int) < (k : Int) + 1 := by omega
          have hv : dpV ns z0 = 0 := by rw [HD.out, hkn, Nat.sub_self, dpF, if_neg HZ1.out]
          have HV := Lib.hid hv
          clear hv c2
          go_wp2
          go_ret
          exact ⟨by rw [HV.out]; rfl, rfl⟩
        · have hle : (k : Int) + 1 ≤ (ns.length : Int) := by omega
          go_wp2_with (fail)
          go_roundw
          case rel =>
            refine ⟨k + 1, l.1, by omega, by go_num, rfl, ?_, ?_⟩
            · rw [HD.out, show ns.length - k = ns.length - (k + 1) + 1 by omega, dpF, if_neg HZ1.out, if_pos HIN.out, HUZ.out]
            · have hu := HUP.out
              unfold UpP at hu
              by_cases e : l.1 = 0
              · rw [if_pos e] at hu
                exact Or.inl ⟨hu, e⟩
              · rw [if_neg e] at hu
                exact Or.inr ⟨hu, fun h => absurd h e⟩
          case measure => simp [intOf]; omega
      · have hv : dpV ns z0 = 0 := by
          rw [HD.out]
          by_cases e : z = 0
          · rw [e, dpF_zero, hz0 e]; rfl
          · cases ns.length - k with
            | zero => rw [dpF, if_neg e]
            | succ f => rw [dpF, if_neg e, if_neg (by rw [hout]; decide)]
        have HV := Lib.hid hv
        have HS := Lib.hid hst
        clear hv hst hz0
        go_wp2_with (fail)
        refine (iexists s 0 (.pointer none) (.pointer none) (.slice none 0 0) _ HS.out).mono ?_
        rintro e w1 ⟨rfl, rfl⟩
        dsimp only
        go_wp2
        go_ret
        exact ⟨by rw [HV.out]; rfl, rfl⟩
theorem unF_out {ns : List PN} {top z : Int} (h : nIn ns.length z = false) : ∀ f, unF ns top f z = false
  | 0 => rfl
  | f + 1 => by rw [unF, if_neg (by rw [h]; decide)]
theorem nIn_zero (n : Nat) : nIn n 0 = false := by simp [nIn]
/-- The block that a pointer leads to. -/
theorem PtrTo.obj {w : World} {G b off : Nat} {ls : List (Int × List Int)} (hL : Linked w G b off ls) {z : Int} {s : Nat} (h : PtrTo w G ls.length z (.pointer (some ⟨s, 0, none⟩))) : ∃ cs, w.heap[s]? = some (.cells cs 111) := by
  obtain ⟨s', e, h⟩ := h
  simp at e
  subst e
  rcases h with ⟨h1, h2⟩ | ⟨_, _, h3⟩
  · obtain ⟨l, q, upv, kv, hzq, hq, _, hh, _⟩ := hL.at h1
    have : s = G + 1 + q := by omega
    subst this
    exact ⟨_, hh⟩
  · exact ⟨_, h3⟩
theorem info_lk : (Try.prog.info? 111).map (fun i => (i.zero, i.size, i.bytes)) = some (some (.agg stand), 4, 48) := by kernel_rfl
theorem lk_eql (s t : Nat) (w : World) (cs ct : Array Value) (hs : w.heap[s]? = some (.cells cs 111)) (ht : w.heap[t]? = some (.cells ct 111)) :
    (binOp .eql 100 (.pointer (some ⟨s, 0, none⟩)) (.pointer (some ⟨t, 0, none⟩))).run Try.prog w = .ok (.bool (decide (s = t))) w := by
  obtain ⟨j, hj, _, hj1, _⟩ := info_parts info_lk
  by_cases e : s = t
  · subst e
    rw [run_eql_ptr_same w ⟨s, 0, none⟩ Try.underlying100 hj]; simp
  · rw [run_eql_ptr_other w (a := ⟨s, 0, none⟩) (b := ⟨t, 0, none⟩) Try.underlying100 hj (by omega) (fun h => by cases h; exact e rfl) hs ht]; simp [e]
def UnRel (G : Nat) (ns : List PN) (z0 top : Int) (w : World) (p i : Value) (wr : World) : Prop :=
  ∃ (k : Nat) (z : Int), k ≤ ns.length ∧ i = .int .i64 k ∧ wr = w ∧ unV ns z0 top = unF ns top (ns.length - k) z ∧ PtrTo w G ns.length z p
set_option maxHeartbeats 2000000 in
/-- linkedTree.isUnder -/
theorem iisunderP (G b off cap : Nat) (ns : List PN) (z0 top : Int) (p0 : Value) (st : Nat) (w : World) (hL : Linked w G b off (linksOf ns)) (hn : ns.length ≤ 1048576) (hp : PtrTo w G ns.length z0 p0) (ht : PtrTo w G ns.length top (.pointer (some ⟨st, 0, none⟩)))
    (hfr : nIn ns.length top = false → ∀ (k : Nat) (upv kv x : Value), w.heap[G + 1 + k]? = some (.cells (lkA (k + 1) x upv kv) 111) → k < ns.length → upv ≠ .pointer (some ⟨st, 0, none⟩)) :
    Calls Try.prog 75 #[.slice (some ⟨G, 0, none⟩) ns.length cap, p0, .pointer (some ⟨st, 0, none⟩)] w fun e w' => e = .returned (.bool (unV ns z0 top)) ∧ w' = w := by
  have HL := Lib.hid hL
  have HP := Lib.hid hp
  have HT := Lib.hid ht
  have HFR := Lib.hid hfr
  clear hL hp ht hfr
  go_enter Try.func75, Try.ntmps75
  go_wp2_with (fail)
  go_loopw [1, 9] (UnRel G ns z0 top w) (fun _ i _ => ns.length - (intOf i).toNat)
  case atStart => exact ⟨0, z0, Nat.zero_le _, rfl, rfl, rfl, HP.out⟩
  case round =>
    obtain ⟨k, z, hk, rfl, rfl, hd, hp⟩ := hrel
    have HD := Lib.hid hd
    have hlo : (0 : Int) ≤ (k : Int) := Int.natCast_nonneg _
    clear hd
    by_cases hlt : k < ns.length
    · have hhi : (k : Int) < (ns.length : Int) := by omega
      obtain ⟨f, hf⟩ : ∃ f, ns.length - k = f + 1 := ⟨ns.length - k - 1, by omega⟩
      obtain ⟨s, rfl, hs⟩ := hp
      rcases hs with ⟨hin, hsz⟩ | ⟨hout, _, hst⟩
      · obtain ⟨l, q, upv, kv, hzq, hq, hlq, hh, hup, _⟩ := HL.out.at (z := z) (by rw [linksOf_len]; exact hin)
        rw [linksOf_len] at hq hup
        have hs2 : s = G + 1 + q := by omega
        have hupz : upZ ns z = l.1 := by rw [hzq]; exact linksOf_up hlq
        have c2 := (Go.Joins.cell_of_block hh 2).trans (show _ = some upv from rfl)
        subst hs2
        have hstep : unV ns z0 top = if l.1 = top then nIn ns.length top else unF ns top f l.1 := by rw [HD.out, hf, unF, if_pos hin, hupz]
        have S := Lib.hid hstep
        have HF := Lib.hid hf
        unfold UpP at hup
        by_cases e : l.1 = 0
        · rw [if_pos e] at hup
          subst hup
          have hv : unV ns z0 top = false := by
            rw [S.out, e]
            split
            · rename_i h; rw [← h]; exact nIn_zero _
            · exact unF_out (nIn_zero _) _
          have HV := Lib.hid hv
          clear hv hstep hf hh hupz hin hzq hlq hsz
          go_wp2
          go_ret
          exact ⟨by rw [HV.out]; rfl, rfl⟩
        · rw [if_neg e] at hup
          have HUP := Lib.hid hup
          have hfr2 := fun h => HFR.out h q upv kv _ hh hq
          obtain ⟨s2, rfl, hs2⟩ := hup
          obtain ⟨cs1, ho1⟩ := PtrTo.obj (z := l.1) (s := s2) HL.out (by rw [linksOf_len]; exact ⟨s2, rfl, hs2⟩)
          obtain ⟨cs2, ho2⟩ := PtrTo.obj (z := top) (s := st) HL.out (by rw [linksOf_len]; exact HT.out)
          have heq := lk_eql s2 st _ cs1 cs2 ho1 ho2
          clear ho1 ho2
          by_cases he : s2 = st
          · subst he
            simp only [decide_true] at heq
            have hv : unV ns z0 top = true := by
              obtain ⟨s3, e3, h3⟩ := HT.out
              simp at e3
              subst e3
              rcases hs2 with ⟨h4, h5⟩ | ⟨h4, h5, _⟩
              · rcases h3 with ⟨h6, h7⟩ | ⟨_, h7, _⟩
                · rw [S.out, if_pos (by omega)]; exact h6
                · have := nIn_iff.1 h4; omega
              · rcases h3 with ⟨h6, h7⟩ | ⟨h6, _, _⟩
                · have := nIn_iff.1 h6; omega
                · exact absurd rfl (hfr2 h6)
            have HV := Lib.hid hv
            clear hv hstep hf hh hupz hin hzq hlq hsz hfr2 hs2
            go_wp2
            go_ret
            exact ⟨by rw [HV.out]; rfl, rfl⟩
          · have hne : unV ns z0 top = unF ns top f l.1 := by
              rw [S.out]
              split
              · rename_i h
                obtain ⟨s3, e3, h3⟩ := HT.out
                simp at e3
                subst e3
                rw [h] at hs2 ⊢
                rcases hs2 with ⟨h4, h5⟩ | ⟨h4, h5, h8⟩
                · rcases h3 with ⟨h6, h7⟩ | ⟨h6, _, _⟩
                  · exact absurd (by omega) he
                  · rw [h4] at h6; cases h6
                · rw [h4, unF_out h4]
              · rfl
            simp only [he, decide_false] at heq
            have HN := Lib.hid hne
            clear hne hstep hh hupz hin hzq hlq hsz hfr2 hs2 hf
            go_wp2
            go_roundw
            case rel => exact ⟨k + 1, l.1, by omega, by go_num, rfl, by rw [HN.out, show ns.length - (k + 1) = f by have := HF.out; omega], HUP.out⟩
            case measure => simp [intOf]; omega
      · have hv : unV ns z0 top = false := by rw [HD.out]; exact unF_out hout _
        have c2 : wr.cell? ⟨s, 2, none⟩ = some (.pointer none) := (Go.Joins.cell_of_block hst 2).trans rfl
        have HV := Lib.hid hv
        clear hv hst hf
        go_wp2
        go_ret
        exact ⟨by rw [HV.out]; rfl, rfl⟩
    · obtain rfl : k = ns.length := by omega
      have hv : unV ns z0 top = false := by rw [HD.out, Nat.sub_self]; rfl
      have HV := Lib.hid hv
      clear hv hp
      go_wp2
      go_ret
      exact ⟨by rw [HV.out]; rfl, rfl⟩
/-- Where the nodes lie. -/
theorem Nds.place {w : World} {a : Option Addr} {ns : List PN} (h : Nds w a ns) : ∃ b off, ns = [] ∨ a = some ⟨b, off, none⟩ := by
  rcases h.2 with h0 | ⟨b, off, ha, _⟩
  · exact ⟨0, 0, Or.inl h0⟩
  · exact ⟨b, off, Or.inr ha⟩
set_option maxHeartbeats 1000000 in
theorem idepthOf (a : Option Addr) (cap : Nat) (ns : List PN) (z : Int) (w : World) (hz : Nds w a ns) (hl : szS ns ≤ 1048576) (hz0 : I64 z) :
    Calls Try.prog 24 #[.agg #[.slice a ns.length cap], .int .i64 z] w fun e w' => e = .returned (.int .i64 (dpV ns z)) ∧ Below w.heap.size w w' := by
  obtain ⟨b, off, ha⟩ := hz.place
  have hnl : ns.length ≤ 1048576 := by unfold szS at hl; omega
  have B0 := bel_alloc w (.cells #[.slice a ns.length cap] 26)
  have HZ := Lib.hid (hz.below B0)
  have HB := Lib.hid B0
  have HI := Lib.hid hz0
  have HA := Lib.hid ha
  clear hz B0 hz0 ha
  go_enter Try.func24, Try.ntmps24
  go_wp2_with (fail)
  refine (ilinkedof a cap b off ns _ HZ.out hl HA.out).mono ?_
  rintro e w1 ⟨rfl, hL, b1⟩
  have B1 := HB.out.trans (b1.mono HB.out.size)
  generalize (w.alloc (.cells #[.slice a ns.length cap] 26)).heap.size + 1 = G at *
  have H1 := Lib.hid hL
  have HB1 := Lib.hid B1
  clear b1 B1 hL
  dsimp only
  go_wp2_with (fail)
  refine (iat G ns.length ns.length z w1 HI.out (by have := H1.out.1; rwa [linksOf_len] at this) (by have := H1.out.2.1; rwa [linksOf_len] at this) hnl).mono ?_
  rintro e w2 ⟨p, rfl, hp, b2⟩
  have H2 := Lib.hid (H1.out.below b2)
  have HP := Lib.hid hp
  have HB2 := Lib.hid (HB1.out.trans (b2.mono HB1.out.size))
  clear hp b2
  dsimp only
  go_wp2_with (fail)
  refine (idepthof G b off ns.length ns z p w2 H2.out hnl HP.out).mono ?_
  rintro e w3 ⟨rfl, rfl⟩
  go_wp2
  go_ret
  exact ⟨rfl, HB2.out⟩
set_option maxHeartbeats 1000000 in
theorem iisUnder (a : Option Addr) (cap : Nat) (ns : List PN) (z top : Int) (w : World) (hz : Nds w a ns) (hl : szS ns ≤ 1048576) (hz0 : I64 z) (ht0 : I64 top) :
    Calls Try.prog 23 #[.agg #[.slice a ns.length cap], .int .i64 z, .int .i64 top] w fun e w' => e = .returned (.bool (unV ns z top)) ∧ Below w.heap.size w w' := by
  obtain ⟨b, off, ha⟩ := hz.place
  have hnl : ns.length ≤ 1048576 := by unfold szS at hl; omega
  have B0 := bel_alloc w (.cells #[.slice a ns.length cap] 26)
  have HZ := Lib.hid (hz.below B0)
  have HB := Lib.hid B0
  have HI := Lib.hid hz0
  have HI2 := Lib.hid ht0
  have HA := Lib.hid ha
  clear hz B0 hz0 ht0 ha
  go_enter Try.func23, Try.ntmps23
  go_wp2_with (fail)
  refine (ilinkedof a cap b off ns _ HZ.out hl HA.out).mono ?_
  rintro e w1 ⟨rfl, hL, b1⟩
  have B1 := HB.out.trans (b1.mono HB.out.size)
  generalize (w.alloc (.cells #[.slice a ns.length cap] 26)).heap.size + 1 = G at *
  have H1 := Lib.hid hL
  have HB1 := Lib.hid B1
  clear b1 B1 hL
  dsimp only
  go_wp2_with (fail)
  refine (iat G ns.length ns.length z w1 HI.out (by have := H1.out.1; rwa [linksOf_len] at this) (by have := H1.out.2.1; rwa [linksOf_len] at this) hnl).mono ?_
  rintro e w2 ⟨p, rfl, hp, b2⟩
  have H2 := Lib.hid (H1.out.below b2)
  have HP := Lib.hid hp
  have HB2 := Lib.hid (HB1.out.trans (b2.mono HB1.out.size))
  clear hp b2
  dsimp only
  go_wp2_with (fail)
  refine (iat_new G ns.length ns.length top w2 HI2.out (by have := H2.out.1; rwa [linksOf_len] at this) (by have := H2.out.2.1; rwa [linksOf_len] at this) hnl).mono ?_
  rintro e w3 ⟨q, rfl, hq, b3, hnew, _⟩
  obtain ⟨st, rfl, hst⟩ := hq
  have hfr : nIn ns.length top = false → ∀ (k : Nat) (upv kv x : Value), w3.heap[G + 1 + k]? = some (.cells (lkA (k + 1) x upv kv) 111) → k < ns.length → upv ≠ .pointer (some ⟨st, 0, none⟩) := by
    intro hout k upv kv x hh hk e
    obtain ⟨s, es, hs⟩ := hnew hout
    simp at es
    subst es
    obtain ⟨hall, hG, ups, kvs, hn, _⟩ := H2.out
    rw [linksOf_len] at hG hn
    have hk' : k < (linksOf ns).length := by rw [linksOf_len]; exact hk
    obtain ⟨a1, a2, _⟩ := hn k (linksOf ns)[k] (List.getElem?_eq_getElem hk')
    have a3 := hp_below a1 b3
    rw [hh] at a3
    simp [lkA] at a3
    obtain ⟨_, a4, _⟩ := a3
    unfold UpP at a2
    split at a2
    · rw [a2] at a4; rw [a4] at e; cases e
    · obtain ⟨s', e', _, hlt⟩ := a2.lt hG
      rw [a4, e'] at e
      first
        | (simp at e; done)
        | (simp at e; omega)
  have H3 := Lib.hid (H2.out.below b3)
  have HP3 := Lib.hid (HP.out.below b3)
  have HQ := Lib.hid (show PtrTo w3 G ns.length top (.pointer (some ⟨st, 0, none⟩)) from ⟨st, rfl, hst⟩)
  have HB3 := Lib.hid (HB2.out.trans (b3.mono HB2.out.size))
  have HF := Lib.hid hfr
  clear hst b3 hnew hfr
  dsimp only
  go_wp2_with (fail)
  refine (iisunderP G b off ns.length ns z top p st w3 H3.out hnl HP3.out HQ.out HF.out).mono ?_
  rintro e w4 ⟨rfl, rfl⟩
  go_wp2
  go_ret
  exact ⟨rfl, HB3.out⟩
end Go.Proofs.Ytjlgcnhjifdgfaa

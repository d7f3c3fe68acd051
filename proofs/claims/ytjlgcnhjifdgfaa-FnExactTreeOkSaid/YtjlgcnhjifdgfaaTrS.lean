/-
  The contracts of the model's DepthOf and IsUnder. Conditions: at most 1048576 nodes.
-/
import Derived.Test.YtjlgcnhjifdgfaaTrP
import Derived.Test.YtjlgcnhjifdgfaaNdW
import Derived.Test.YtjlgcnhjifdgfaaRng
import Derived.OwnWalk
import Derived.Deep.QuietTactic
import Derived.BigQuiet
namespace Go.Proofs.Ytjlgcnhjifdgfaa
open Go.ChangeShapes Go.WideShapes Go.ChangeAt Go.RowKit
set_option linter.unusedVariables false
set_option linter.unusedSimpArgs false
set_option maxRecDepth 8000

theorem sl10is (a : Option Addr) (len cap : Nat) (z : Int) (w : World) :
    Calls Try.prog 61 #[.agg #[.slice a len cap], .int .i64 z] w fun e w' => e = .returned (.bool (nIn len z)) ∧ Below w.heap.size w w' := by
  go_enter Try.func61, Try.ntmps61
  go_wp2_with (fail)
  refine (srng z 1 len _).mono ?_
  rintro e w1 ⟨rfl, rfl⟩
  go_wp2
  go_ret
  exact ⟨rfl, Go.Joins.below_alloc1 ..⟩
theorem fldUp (u : Int) (k : Value) (f : Nat → Int) (m : Bool) (t : Value) (w : World) : (Instr.field 61 (.agg (nA u k f m t)) 0).run Try.prog w = .ok (.int .i64 u) w := by kernel_rfl
theorem list_field {ops : Array Oper} {rest : List Oper} {op : Oper} {a : Act} {w : World} {Q : Exit → Act → World → Prop} {arr : Array Value} {r : Value} {ty : TypeId} {i : Nat} (hgd : op.guard = none) (x : Operand) (ho : op.op = .field ty x i) (hx : a.eval x = .agg arr) (hf : (Instr.field ty (.agg arr) i).run Try.prog w = .ok r w)
    (h : wpList Try.prog ops Q rest (a.put op.dst r) w) : wpList Try.prog ops Q (op :: rest) a w := by
  refine wpList_plain hgd fun K hK => ?_
  have e : (execOp a.eval op).run Try.prog w = .ok (.value r) w := by
    unfold execOp
    simp only [ho, hx]
    rw [Sem.run_bind, hf]
    rfl
  unfold Oper.wp
  rw [e, Oper.upon_value]
  exact hK _ _ h
set_option maxHeartbeats 1000000 in
theorem sl10nd (b off len cap k : Nat) (z : Int) (n : PN) (kv tv : Value) (w : World) (hzk : z = (k : Int) + 1) (hk : k < len) (hl : len ≤ 1048576) (hrg : w.rangeAt b (off + k * 64) (nL n.up kv n.sty n.meas tv)) (hk1 : kv.oneCell' = true) (ht1 : tv.oneCell' = true) :
    Calls Try.prog 62 #[.agg #[.slice (some ⟨b, off, none⟩) len cap], .int .i64 z] w fun e w' => e = .returned (.agg (nA n.up kv n.sty n.meas tv)) ∧ Below w.heap.size w w' := by
  subst hzk
  obtain ⟨u0, eu0⟩ : ∃ u0, u0 = w.alloc (.cells #[.slice (some ⟨b, off, none⟩) len cap] 26) := ⟨_, rfl⟩
  obtain ⟨u1, eu1⟩ : ∃ u1, u1 = u0.alloc (.cells nZ 61) := ⟨_, rfl⟩
  have s0 : u0.heap.size = w.heap.size + 1 := by rw [eu0]; simp
  have H0 : u1.heap[w.heap.size]? = some (.cells #[.slice (some ⟨b, off, none⟩) len cap] 26) := by rw [eu1, eu0]; exact hp_on (hp_new w _) _
  have H1 : u1.heap[w.heap.size + 1]? = some (.cells nZ 61) := by rw [eu1, ← s0]; exact hp_new u0 _
  have BB : Below w.heap.size w u1 := by rw [eu1, eu0]; exact Go.Joins.below_alloc2 ..
  have RG := Lib.hid (rg_below hrg BB)
  have c0 : u1.cell? ⟨w.heap.size, 0, none⟩ = some (.slice (some ⟨b, off, none⟩) len cap) := (Go.Joins.cell_of_block H0 0).trans rfl
  have T1 := Lib.hid (there_block H1 0 64 (by show 0 + 64 ≤ nZ.size; rw [nZ, nA_size]; decide))
  obtain ⟨u2, eu2⟩ : ∃ u2, u2 = u1.setCells (w.heap.size + 1) 0 (nL n.up kv n.sty n.meas tv) := ⟨_, rfl⟩
  have H2 := hp_puts (nL n.up kv n.sty n.meas tv) 0 _ u1 H1
  rw [putA_all _ _ (by rw [nL_len]; exact (nA_size ..).symm), ← eu2] at H2
  have H2' : u2.heap[w.heap.size + 1]? = some (.cells (nA n.up kv n.sty n.meas tv) 61) := H2
  have B2 := below_cells (g := w.heap.size + 1) (by omega) (nL n.up kv n.sty n.meas tv) 0 u1 BB
  rw [← eu2] at B2
  have EU0 := Lib.hid eu0
  have EU1 := Lib.hid eu1
  have EU2 := Lib.hid eu2
  have G2 := Lib.hid H2'
  have GB := Lib.hid B2
  have hlo : (0 : Int) ≤ (k : Int) := Int.natCast_nonneg _
  have hhi : (k : Int) < (len : Int) := by omega
  clear eu0 eu1 eu2 H0 H1 H2 H2' BB B2 hrg s0
  go_enter Try.func62, Try.ntmps62
  go_wp2_with (first
    | ((with_reducible apply list_alloc_nd); exact rfl; exact rfl; simp only [World.size_alloc, Act.put, List.setIfInBounds_toArray, List.set_cons_succ, List.set_cons_zero])
    | (rw [← EU0.out])
    | (rw [← EU1.out])
    | ((with_reducible apply list_load_nd); exact rfl; exact rfl; exact rfl; (with_reducible exact RG.out); simp only [Act.put, List.setIfInBounds_toArray, List.set_cons_succ, List.set_cons_zero])
    | ((with_reducible apply list_store_nd); exact rfl; exact rfl; exact rfl; exact rfl; (with_reducible exact T1.out); (with_reducible exact hk1); (with_reducible exact ht1); simp only [Act.put, List.setIfInBounds_toArray, List.set_cons_succ, List.set_cons_zero])
    | (rw [← EU2.out])
    | fail)
  exact bodyPost_ret (results_nd rfl rfl G2.out) rfl ⟨rfl, GB.out⟩
/-- The node z read. -/
theorem nd_look {w : World} {a : Option Addr} {ns : List PN} (h : Nds w a ns) {z : Int} (hz : nIn ns.length z = true) :
    ∃ (b off k : Nat) (kv tv : Value), a = some ⟨b, off, none⟩ ∧ z = (k : Int) + 1 ∧ k < ns.length ∧ ndAt ns z = ns.getD k default ∧ (ndAt ns z).ok ∧ w.rangeAt b (off + k * 64) (nL (ndAt ns z).up kv (ndAt ns z).sty (ndAt ns z).meas tv) ∧ KAt w kv (ndAt ns z).kids ∧ TAt w tv (ndAt ns z).rl (ndAt ns z).rules := by
  have h1 := nIn_iff.1 hz
  have hk : (z - 1).toNat < ns.length := by omega
  obtain ⟨b, off, ha, _, ⟨kv, tv, hrg, hkk, htt⟩⟩ := h.look hk
  have e := ndAt_get h1 hk
  refine ⟨b, off, (z - 1).toNat, kv, tv, ha, by omega, hk, ?_, ?_, ?_, ?_, ?_⟩
  · rw [e, List.getD_eq_getElem?_getD, List.getElem?_eq_getElem hk]; rfl
  · rw [e]; exact h.1 _ (List.getElem_mem hk)
  · rw [e]; exact hrg
  · rw [e]; exact hkk
  · rw [e]; exact htt
def SdRel (ns : List PN) (z0 : Int) (w u : World) (n i : Value) (wr : World) : Prop :=
  ∃ (k : Nat) (z : Int), n = .int .i64 z ∧ i = .int .i64 k ∧ I64 z ∧ k ≤ ns.length + 1 ∧ (k ≤ ns.length → dpV ns z0 = dpF ns (ns.length - k) z k) ∧ (k = ns.length + 1 → dpV ns z0 = 0) ∧ Below u.heap.size u wr
theorem dpF_zero (ns : List PN) (f k : Nat) : dpF ns f 0 k = (k : Int) := by cases f <;> rfl
set_option maxHeartbeats 2000000 in
theorem sdepthof (a : Option Addr) (cap : Nat) (ns : List PN) (z0 : Int) (w : World) (hz : Nds w a ns) (hl : ns.length ≤ 1048576) (hz0 : I64 z0) :
    Calls Try.prog 38 #[.agg #[.slice a ns.length cap], .int .i64 z0] w fun e w' => e = .returned (.int .i64 (dpV ns z0)) ∧ Below w.heap.size w w' := by
  have h0 := hp_new w (.cells #[.slice a ns.length cap] 26)
  have bb := Go.Joins.below_alloc1 w (.cells #[.slice a ns.length cap] 26)
  obtain ⟨u, eu⟩ : ∃ u, u = w.alloc (.cells #[.slice a ns.length cap] 26) := ⟨_, rfl⟩
  have hus : w.heap.size + 1 = u.heap.size := by rw [eu]; simp
  rw [← eu] at h0 bb
  have EU := Lib.hid eu
  clear eu
  have HZ := Lib.hid (hz.below bb)
  have H0 := Lib.hid h0
  have BB := Lib.hid bb
  have HUS := Lib.hid hus
  have HI := Lib.hid hz0
  clear hz h0 bb hus hz0
  go_enter Try.func38, Try.ntmps38
  go_wp2_with (rw [← EU.out])
  go_loopw [1, 5] (SdRel ns z0 w u) (fun _ i _ => ns.length + 1 - (intOf i).toNat)
  case atStart => exact ⟨0, z0, rfl, rfl, HI.out, Nat.zero_le _, fun _ => rfl, fun h => by omega, Below.refl _ _⟩
  case round =>
    obtain ⟨k, z, rfl, rfl, hzi, hk, hd1, hd2, hb⟩ := hrel
    have h00 := (hb.block w.heap.size (by rw [← HUS.out]; omega)).trans H0.out
    have t0 := Go.Joins.cell_of_block h00 0
    simp at t0
    have HB := Lib.hid hb
    have HD1 := Lib.hid hd1
    have HD2 := Lib.hid hd2
    clear hb hd1 hd2 h00
    by_cases hle : k ≤ ns.length
    · have hlo : (0 : Int) ≤ (k : Int) := Int.natCast_nonneg _
      have hhi : (k : Int) ≤ (ns.length : Int) := by omega
      by_cases h0 : z = 0
      · subst h0
        have hv := HD1.out hle
        rw [dpF_zero] at hv
        have HV := Lib.hid hv
        clear hv
        go_wp2
        go_ret
        exact ⟨by rw [HV.out]; rfl, BB.out.trans (HB.out.mono BB.out.size)⟩
      · go_wp2_with (fail)
        refine (sl10is a ns.length cap z _).mono ?_
        rintro e w1 ⟨rfl, b1⟩
        have hb1 := HB.out.trans (b1.mono HB.out.size)
        have h01 := (hb1.block w.heap.size (by rw [← HUS.out]; omega)).trans H0.out
        replace t0 := Go.Joins.cell_of_block h01 0
        simp at t0
        by_cases hin : nIn ns.length z = true
        · obtain ⟨b, off, q, kv, tv, rfl, hzq, hq, hgd, hok, hrg, hkv, htv⟩ := nd_look (HZ.out.below hb1) hin
          have h63 : -9223372036854775808 ≤ upZ ns z ∧ upZ ns z ≤ 9223372036854775807 := hok.1
          have hstep : ns.length - k = 0 → dpV ns z0 = 0 := fun e => by have := HD1.out hle; rw [e] at this; rw [this, dpF, if_neg h0]
          have hstep2 : ∀ q, ns.length - k = q + 1 → dpV ns z0 = dpF ns q (upZ ns z) (k + 1) := fun q e => by have := HD1.out hle; rw [e] at this; rw [this, dpF, if_neg h0, if_pos hin]
          have S1 := Lib.hid hstep
          have S2 := Lib.hid hstep2
          have HZQ := Lib.hid hzq
          have HB1 := Lib.hid hb1
          have HRG := Lib.hid hrg
          have K1 := Lib.hid hkv.one
          have T1 := Lib.hid htv.one
          have hup : upZ ns z = (ndAt ns z).up := rfl
          rw [hin]
          clear hstep hstep2 hb1 b1 h01 hrg hkv htv hzq hgd
          dsimp only
          go_wp2_with (fail)
          refine (sl10nd b off ns.length cap q z (ndAt ns z) kv tv _ HZQ.out hq hl HRG.out K1.out T1.out).mono ?_
          rintro e w2 ⟨rfl, b2⟩
          have hb2 := HB1.out.trans (b2.mono HB1.out.size)
          have HB2 := Lib.hid hb2
          have ff := fldUp (ndAt ns z).up kv (ndAt ns z).sty (ndAt ns z).meas tv w2
          rw [← hup] at ff ⊢
          have FF := Lib.hid ff
          clear hb2 b2 ff
          generalize upZ ns z = y at *
          dsimp only
          go_wp2_with (first
            | ((with_reducible apply list_field); exact rfl; exact rfl; exact rfl; (with_reducible exact FF.out); simp only [Act.put, List.setIfInBounds_toArray, List.set_cons_succ, List.set_cons_zero])
            | fail)
          go_roundw
          case rel =>
            refine ⟨k + 1, y, rfl, by go_num, h63, by omega, fun h => ?_, fun h => S1.out (by omega), HB2.out⟩
            exact S2.out _ (by omega)
          case measure => simp [intOf]; omega
        · have hin' : nIn ns.length z = false := by simpa using hin
          have hv : dpV ns z0 = 0 := by
            rw [HD1.out hle]
            cases ns.length - k with
            | zero => rw [dpF, if_neg h0]
            | succ f => rw [dpF, if_neg h0, if_neg hin]
          have HV := Lib.hid hv
          have HB1 := Lib.hid hb1
          rw [hin']
          clear hv hb1 b1 h01
          dsimp only
          go_wp2
          go_ret
          exact ⟨by rw [HV.out]; rfl, BB.out.trans (HB1.out.mono BB.out.size)⟩
    · obtain rfl : k = ns.length + 1 := by omega
      have hv := HD2.out rfl
      have HV := Lib.hid hv
      clear hv
      go_wp2
      go_ret
      exact ⟨by rw [HV.out]; rfl, BB.out.trans (HB.out.mono BB.out.size)⟩
def SuRel (ns : List PN) (z0 top : Int) (u : World) (n i : Value) (wr : World) : Prop :=
  ∃ (k : Nat) (z : Int), n = .int .i64 z ∧ i = .int .i64 k ∧ I64 z ∧ k ≤ ns.length + 1 ∧ unF ns top (ns.length + 1) z0 = unF ns top (ns.length + 1 - k) z ∧ Below u.heap.size u wr
set_option maxHeartbeats 2000000 in
theorem sisunder (a : Option Addr) (cap : Nat) (ns : List PN) (z0 top : Int) (w : World) (hz : Nds w a ns) (hl : ns.length ≤ 1048576) (hz0 : I64 z0) :
    Calls Try.prog 46 #[.agg #[.slice a ns.length cap], .int .i64 z0, .int .i64 top] w fun e w' => e = .returned (.bool (unV ns z0 top)) ∧ Below w.heap.size w w' := by
  have h0 := hp_new w (.cells #[.slice a ns.length cap] 26)
  have bb := Go.Joins.below_alloc1 w (.cells #[.slice a ns.length cap] 26)
  obtain ⟨u, eu⟩ : ∃ u, u = w.alloc (.cells #[.slice a ns.length cap] 26) := ⟨_, rfl⟩
  have hus : w.heap.size + 1 = u.heap.size := by rw [eu]; simp
  rw [← eu] at h0 bb
  rw [← unF_more]
  have EU := Lib.hid eu
  clear eu
  have HZ := Lib.hid (hz.below bb)
  have H0 := Lib.hid h0
  have BB := Lib.hid bb
  have HUS := Lib.hid hus
  have HI := Lib.hid hz0
  clear hz h0 bb hus hz0
  go_enter Try.func46, Try.ntmps46
  go_wp2_with (rw [← EU.out])
  go_loopw [1, 7] (SuRel ns z0 top u) (fun _ i _ => ns.length + 1 - (intOf i).toNat)
  case atStart => exact ⟨0, z0, rfl, rfl, HI.out, Nat.zero_le _, rfl, Below.refl _ _⟩
  case round =>
    obtain ⟨k, z, rfl, rfl, hzi, hk, hd, hb⟩ := hrel
    have h00 := (hb.block w.heap.size (by rw [← HUS.out]; omega)).trans H0.out
    have t0 := Go.Joins.cell_of_block h00 0
    simp at t0
    have HB := Lib.hid hb
    have HD := Lib.hid hd
    clear hb hd h00
    by_cases hle : k ≤ ns.length
    · have hlo : (0 : Int) ≤ (k : Int) := Int.natCast_nonneg _
      have hhi : (k : Int) ≤ (ns.length : Int) := by omega
      go_wp2_with (fail)
      refine (sl10is a ns.length cap z _).mono ?_
      rintro e w1 ⟨rfl, b1⟩
      have hb1 := HB.out.trans (b1.mono HB.out.size)
      have h01 := (hb1.block w.heap.size (by rw [← HUS.out]; omega)).trans H0.out
      replace t0 := Go.Joins.cell_of_block h01 0
      simp at t0
      obtain ⟨f, hf⟩ : ∃ f, ns.length + 1 - k = f + 1 := ⟨ns.length - k, by omega⟩
      by_cases hin : nIn ns.length z = true
      · obtain ⟨b, off, q, kv, tv, rfl, hzq, hq, hgd, hok, hrg, hkv, htv⟩ := nd_look (HZ.out.below hb1) hin
        have h63 : -9223372036854775808 ≤ upZ ns z ∧ upZ ns z ≤ 9223372036854775807 := hok.1
        have hstep : unF ns top (ns.length + 1) z0 = if upZ ns z = top then nIn ns.length top else unF ns top f (upZ ns z) := by rw [HD.out, hf, unF, if_pos hin]
        have S1 := Lib.hid hstep
        have HF := Lib.hid hf
        have HB1 := Lib.hid hb1
        have HRG := Lib.hid hrg
        have K1 := Lib.hid hkv.one
        have T1 := Lib.hid htv.one
        have HZQ := Lib.hid hzq
        have hup : upZ ns z = (ndAt ns z).up := rfl
        rw [hin]
        clear hstep hb1 b1 h01 hrg hkv htv hzq hgd hf
        dsimp only
        go_wp2_with (fail)
        refine (sl10nd b off ns.length cap q z (ndAt ns z) kv tv _ HZQ.out hq hl HRG.out K1.out T1.out).mono ?_
        rintro e w2 ⟨rfl, b2⟩
        have hb2 := HB1.out.trans (b2.mono HB1.out.size)
        have HB2 := Lib.hid hb2
        have h02 := (hb2.block w.heap.size (by rw [← HUS.out]; omega)).trans H0.out
        replace t0 := Go.Joins.cell_of_block h02 0
        simp at t0
        have ff := fldUp (ndAt ns z).up kv (ndAt ns z).sty (ndAt ns z).meas tv w2
        rw [← hup] at ff ⊢
        have FF := Lib.hid ff
        clear hb2 b2 ff h02 hup
        generalize upZ ns z = y at *
        dsimp only
        by_cases hy : y = top
        · subst hy
          go_wp2_with (first
            | ((with_reducible apply list_field); exact rfl; exact rfl; exact rfl; (with_reducible exact FF.out); simp only [Act.put, List.setIfInBounds_toArray, List.set_cons_succ, List.set_cons_zero])
            | fail)
          refine (sl10is (some ⟨b, off, none⟩) ns.length cap y _).mono ?_
          rintro e w3 ⟨rfl, b3⟩
          have hb3 := HB2.out.trans (b3.mono HB2.out.size)
          have hv : unF ns y (ns.length + 1) z0 = nIn ns.length y := by rw [S1.out]; simp
          have HV := Lib.hid hv
          clear hv b3
          go_wp2
          go_ret
          exact ⟨by rw [HV.out]; rfl, BB.out.trans (hb3.mono BB.out.size)⟩
        · go_wp2_with (first
            | ((with_reducible apply list_field); exact rfl; exact rfl; exact rfl; (with_reducible exact FF.out); simp only [Act.put, List.setIfInBounds_toArray, List.set_cons_succ, List.set_cons_zero])
            | fail)
          go_roundw
          case rel =>
            refine ⟨k + 1, y, rfl, by go_num, h63, by omega, ?_, HB2.out⟩
            rw [S1.out, if_neg hy, show ns.length + 1 - (k + 1) = f by have := HF.out; omega]
          case measure => simp [intOf]; omega
      · have hin' : nIn ns.length z = false := by simpa using hin
        have hv : unF ns top (ns.length + 1) z0 = false := by rw [HD.out, hf, unF, if_neg hin]
        have HV := Lib.hid hv
        have HB1 := Lib.hid hb1
        rw [hin']
        clear hv hb1 b1 h01
        dsimp only
        go_wp2
        go_ret
        exact ⟨by rw [HV.out]; rfl, BB.out.trans (HB1.out.mono BB.out.size)⟩
    · obtain rfl : k = ns.length + 1 := by omega
      have hv : unF ns top (ns.length + 1) z0 = false := by rw [HD.out, Nat.sub_self]; rfl
      have HV := Lib.hid hv
      clear hv
      go_wp2
      go_ret
      exact ⟨by rw [HV.out]; rfl, BB.out.trans (HB.out.mono BB.out.size)⟩
end Go.Proofs.Ytjlgcnhjifdgfaa

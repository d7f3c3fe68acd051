/-
  The contract of the model's TreeOk. Conditions: no list of more than 1048576.
-/
import Derived.Test.YtjlgcnhjifdgfaaTrQ
import Derived.Test.YtjlgcnhjifdgfaaTrS
import Derived.Test.YtjlgcnhjifdgfaaNdE
import Derived.Test.YtjlgcnhjifdgfaaOkS
import Derived.Test.YtjlgcnhjifdgfaaTok
import Derived.Deep.CutRange
import Derived.Deep.CutBlock
namespace Go.Proofs.Ytjlgcnhjifdgfaa
open Go.ChangeShapes Go.WideShapes Go.ChangeAt Go.RowKit
set_option linter.unusedVariables false
set_option linter.unusedSimpArgs false
set_option maxRecDepth 8000

def HsRel (zs : List Int) (x : Int) (w : World) (c j : Value) (wr : World) : Prop :=
  ∃ k : Nat, k ≤ zs.length ∧ j = .int .i64 k ∧ c = .int .i64 (cntZ (zs.take k) x : Nat) ∧ wr = w
set_option maxHeartbeats 1000000 in
theorem sl10has (a : Option Addr) (cap : Nat) (zs : List Int) (x : Int) (w : World) (hz : Ints w a zs.length zs) (hl : zs.length ≤ 1048576) :
    Calls Try.prog 71 #[.slice a zs.length cap, .int .i64 x] w fun e w' => e = .returned (.int .i64 (cntZ zs x : Nat)) ∧ w' = w := by
  have HZ := Lib.hid hz
  clear hz
  go_enter Try.func71, Try.ntmps71
  go_wp2_with (fail)
  go_loopw [5, 6] (HsRel zs x w) (fun _ j _ => zs.length - (intOf j).toNat)
  case atStart => exact ⟨0, Nat.zero_le _, rfl, by simp [cntZ], rfl⟩
  case round =>
    obtain ⟨k, hkz, rfl, rfl, rfl⟩ := hrel
    by_cases hlt : k < zs.length
    · obtain ⟨b, off, rfl, _, cc⟩ := HZ.out.look hlt
      have hct := cntZ_take (zs := zs) x hlt
      have hcl := cntZ_le (zs.take k) x
      have hcl2 : cntZ (zs.take k) x ≤ 1048576 := by rw [List.length_take] at hcl; omega
      have hlo : (0 : Int) ≤ (k : Int) := Int.natCast_nonneg _
      have hhi : (k : Int) < (zs.length : Int) := by omega
      have HCT := Lib.hid hct
      clear hct hcl
      generalize zs.getD k 0 = z at *
      by_cases he : z = x
      · subst he
        go_wp2
        go_roundw
        case rel => exact ⟨k + 1, by omega, by go_num, by rw [HCT.out, if_pos rfl]; rfl, rfl⟩
        case measure => simp [intOf]; omega
      · have HN := Lib.hid he
        go_wp2
        go_roundw
        case rel => exact ⟨k + 1, by omega, by go_num, by rw [HCT.out, if_neg HN.out]; rfl, rfl⟩
        case measure => simp [intOf]; omega
    · obtain rfl : k = zs.length := by omega
      rw [List.take_length]
      go_wp2
      go_ret
      exact ⟨rfl, rfl⟩
theorem fldKids (u : Int) (k : Value) (f : Nat → Int) (m : Bool) (t : Value) (w : World) : (Instr.field 61 (.agg (nA u k f m t)) 1).run Try.prog w = .ok k w := by kernel_rfl
theorem list_gfield {ops : Array Oper} {rest : List Oper} {op : Oper} {a : Act} {w : World} {Q : Exit → Act → World → Prop} {arr : Array Value} {r : Value} {ty : TypeId} {i : Nat} (hw : Region.wanted op (yielded ops a.tmps) = true) (x : Operand) (ho : op.op = .field ty x i) (hx : a.eval x = .agg arr) (hf : (Instr.field ty (.agg arr) i).run Try.prog w = .ok r w)
    (h : wpList Try.prog ops Q rest (a.put op.dst r) w) : wpList Try.prog ops Q (op :: rest) a w :=
  wpList_step fun K hK => by
    rw [if_pos hw]
    have e : (execOp a.eval op).run Try.prog w = .ok (.value r) w := by
      unfold execOp
      simp only [ho, hx]
      rw [Sem.run_bind, hf]
      rfl
    unfold Oper.wp
    rw [e, Oper.upon_value]
    exact hK _ _ h
theorem quiet_field {C : World → Prop} {K : Act → Prop} {a : Act} {o : Oper} {x : Operand} {arr : Array Value} {r : Value} {ty : TypeId} {i : Nat} (ho : o.op = .field ty x i) (hx : a.eval x = .agg arr) (hf : ∀ w, (Instr.field ty (.agg arr) i).run Try.prog w = .ok r w) (h : K (a.put o.dst r)) : o.quiet Try.prog a C K :=
  ⟨r, fun w _ => by
    unfold Oper.quietAt execOp
    simp only [ho, hx]
    rw [Sem.run_bind, hf]
    exact ⟨rfl, rfl⟩, h⟩
/-- A depth that is found: the parent is there. -/
theorem dep_up {ns : List PN} {i : Nat} (hi : i < ns.length) (h : depOk ns i = true) (h0 : ns[i].up ≠ 0) : nIn ns.length ns[i].up = true := by
  unfold depOk dpV at h
  have h1 := of_decide_eq_true h
  have hin : nIn ns.length ((i : Int) + 1) = true := nIn_iff.2 (by omega)
  have hnd : upZ ns ((i : Int) + 1) = ns[i].up := by
    unfold upZ
    rw [ndAt_get (by omega) (by omega)]
    congr 2
    omega
  obtain ⟨f, hf⟩ : ∃ f, ns.length = f + 1 := ⟨ns.length - 1, by omega⟩
  rw [hf, dpF, if_neg (by omega), if_pos hin, hnd] at h1
  cases f with
  | zero => rw [dpF, if_neg h0] at h1; omega
  | succ f =>
    rw [dpF, if_neg h0] at h1
    by_cases hq : nIn ns.length ns[i].up = true
    · exact hq
    · rw [if_neg hq] at h1; omega
def TsRel (ns : List PN) (u : World) (iv : Value) (wr : World) : Prop :=
  ∃ k : Nat, k ≤ ns.length ∧ iv = .int .i64 k ∧ (∀ j (hj : j < ns.length), j < k → nodeB ns j ns[j] = true) ∧ Below u.heap.size u wr
def TkRel (ns : List PN) (i : Nat) (n : PN) (v : World) (jv : Value) (wr : World) : Prop :=
  ∃ k : Nat, k ≤ n.kids.length ∧ jv = .int .i64 k ∧ (∀ q, q < k → kidOk ns i (n.kids.getD q 0) = true) ∧ Below v.heap.size v wr
/-- The first of the node's tests. -/
def c7B (ns : List PN) (i : Nat) (n : PN) : Bool := styOk n.sty && depOk ns i && upOk ns i n
def C7Rel (ns : List PN) (i : Nat) (n : PN) (v : World) (c : Value) (wx : World) : Prop := c = .bool (!c7B ns i n) ∧ Below v.heap.size v wx
set_option maxHeartbeats 4000000 in
theorem streeok (a : Option Addr) (cap : Nat) (ns : List PN) (w : World) (hz : Nds w a ns) (hl : szS ns ≤ 1048576) :
    Calls Try.prog 19 #[.agg #[.slice a ns.length cap]] w fun e w' => e = .returned (.bool (treeB ns)) ∧ Below w.heap.size w w' := by
  have hnl : ns.length ≤ 1048576 := by unfold szS at hl; omega
  have hkl : ∀ i (hi : i < ns.length), ns[i].kids.length ≤ 1048576 ∧ ns[i].rl ≤ 1048576 := fun i hi => by
    have h1 := szK_le hi
    unfold szS at hl
    unfold szK at h1
    omega
  obtain ⟨u, eu⟩ : ∃ u, u = w.alloc (.cells #[.slice a ns.length cap] 26) := ⟨_, rfl⟩
  have h0 := hp_new w (.cells #[.slice a ns.length cap] 26)
  have B0 : Below w.heap.size w u := by rw [eu]; exact Go.Joins.below_alloc1 _ _
  rw [← eu] at h0
  have hs : w.heap.size < u.heap.size := by rw [eu]; simp
  have hus : u.heap.size = w.heap.size + 1 := by rw [eu]; simp
  have c0 : u.cell? ⟨w.heap.size, 0, none⟩ = some (.slice a ns.length cap) := (Go.Joins.cell_of_block h0 0).trans rfl
  have HZ := Lib.hid (hz.below B0)
  have HB := Lib.hid B0
  have EU := Lib.hid eu
  have HKL := Lib.hid hkl
  have HL := Lib.hid hl
  have HS := Lib.hid hs
  have HT := Lib.hid h0
  clear hz B0 eu hkl hl h0 hs hus
  by_cases h12 : ns.length ≤ 12
  · go_enter Try.func19, Try.ntmps19
    go_wp2_with (rw [← EU.out])
    go_loopw [3, 4, 5] (fun iv _ _ wr => TsRel ns u iv wr) (fun i _ _ _ => ns.length - (intOf i).toNat)
    case atStart => exact ⟨0, Nat.zero_le _, rfl, fun j _ hj => absurd hj (Nat.not_lt_zero _), Below.refl _ _⟩
    case round =>
      obtain ⟨k, hk, rfl, hgood, hb⟩ := hrel
      have hlo : (0 : Int) ≤ (k : Int) := Int.natCast_nonneg _
      have hT := (hb.block w.heap.size HS.out).trans HT.out
      have ct : wr.cell? ⟨w.heap.size, 0, none⟩ = some (.slice a ns.length cap) := (Go.Joins.cell_of_block hT 0).trans rfl
      clear c0
      by_cases hlt : k < ns.length
      · have hhi : (k : Int) < (ns.length : Int) := by omega
        obtain ⟨b, off, rfl, _, ⟨kv, tv, hrg, ⟨ka, kc, rfl, hki⟩, ⟨ta, tc, rfl, hti⟩⟩⟩ := (HZ.out.below hb).look hlt
        have hnode : nodeB ns k ns[k] = (styOk ns[k].sty && upOk ns k ns[k] && kidsOk ns k ns[k] && conOk ns[k] && depOk ns k) := rfl
        have hbad := tree_bad (ns := ns) hlt
        have hdu := dep_up (ns := ns) hlt
        have hup64 : -9223372036854775808 ≤ ns[k].up ∧ ns[k].up ≤ 9223372036854775807 := (HZ.out.1 _ (List.getElem_mem hlt)).1
        obtain ⟨hkl1, hkl2⟩ := HKL.out k hlt
        have hkbad := fun j => kids_bad (ns := ns) (i := k) (n := ns[k]) (j := j)
        have hkgood := kids_good (ns := ns) (i := k) (n := ns[k])
        obtain ⟨n, en⟩ : ∃ n, ns[k] = n := ⟨_, rfl⟩
        have huo : upOk ns k n = (n.up == 0 || (nIn ns.length n.up && cntZ (ndAt ns n.up).kids ((k : Int) + 1) == 1)) := rfl
        have hco : conOk n = if n.meas = true then (n.kids.isEmpty && tokB n.rules n.rl) else n.rl == 0 := rfl
        rw [en] at hrg hki hti hnode hbad hdu hup64 hkl1 hkl2 hkbad hkgood
        have HEN := Lib.hid en
        -- the node's copy
        obtain ⟨v0, ev0⟩ : ∃ v0, v0 = wr.alloc (.cells nZ 61) := ⟨_, rfl⟩
        have b0 : Below wr.heap.size wr v0 := by rw [ev0]; exact Go.Joins.below_alloc1 _ _
        have hX0 : v0.heap[wr.heap.size]? = some (.cells nZ 61) := by rw [ev0]; exact hp_new wr _
        have RG := Lib.hid hrg
        have T1 := Lib.hid (there_block hX0 0 64 (by show 0 + 64 ≤ nZ.size; rw [nZ, nA_size]; decide))
        obtain ⟨v, ev⟩ : ∃ v, v = v0.setCells wr.heap.size 0 (nL n.up (.slice ka n.kids.length kc) n.sty n.meas (.slice ta n.rl tc)) := ⟨_, rfl⟩
        have hX := hp_puts (nL n.up (.slice ka n.kids.length kc) n.sty n.meas (.slice ta n.rl tc)) 0 _ v0 hX0
        rw [putA_all _ _ (by rw [nL_len]; exact (nA_size ..).symm), ← ev] at hX
        have hX' : v.heap[wr.heap.size]? = some (.cells (nA n.up (.slice ka n.kids.length kc) n.sty n.meas (.slice ta n.rl tc)) 61) := hX
        have bv : Below wr.heap.size wr v := by rw [ev]; exact below_cells (Nat.le_refl _) _ _ _ b0
        have hTv := hp_below hT bv
        have hbv := hb.trans (bv.mono hb.size)
        have EV0 := Lib.hid ev0
        have EV := Lib.hid ev
        have KI := Lib.hid (hki.below bv)
        have TI := Lib.hid (hti.below bv)
        have HX := Lib.hid hX'
        have HTV := Lib.hid hTv
        have HBV := Lib.hid hbv
        have HG := Lib.hid hgood
        have HNO := Lib.hid hnode
        have HBAD := Lib.hid hbad
        have HDU := Lib.hid hdu
        have HUO := Lib.hid huo
        have HCO := Lib.hid hco
        have HKB := Lib.hid hkbad
        have HKG := Lib.hid hkgood
        have RS := Lib.hid (range_styN (range_block hX'))
        clear ev0 ev hki hti hX hX' hTv hbv hgood hnode hbad hdu huo hco hkbad hkgood hX0 b0 hT bv hb hrg en
        have hk1 : (Value.slice ka n.kids.length kc).oneCell' = true := rfl
        have ht1 : (Value.slice ta n.rl tc).oneCell' = true := rfl
        go_upto_region 7 with (first
          | ((with_reducible apply list_load_nd); exact rfl; exact rfl; exact rfl; (with_reducible exact RG.out); simp only [Act.put, List.setIfInBounds_toArray, List.set_cons_succ, List.set_cons_zero])
          | ((with_reducible apply list_alloc_nd); exact rfl; exact rfl; simp only [World.size_alloc, Act.put, List.setIfInBounds_toArray, List.set_cons_succ, List.set_cons_zero])
          | (rw [← EV0.out])
          | ((with_reducible apply list_store_nd); exact rfl; exact rfl; exact rfl; exact rfl; (with_reducible exact T1.out); (with_reducible exact hk1); (with_reducible exact ht1); simp only [Act.put, List.setIfInBounds_toArray, List.set_cons_succ, List.set_cons_zero])
          | (rw [← EV.out])
          | fail)
        go_cut [49] from 10 to 103 (fun c wx => C7Rel ns k n v c wx)
        case first =>
          go_wp2_with (first
            | ((with_reducible apply list_load_styAt); exact rfl; exact rfl; exact rfl; (with_reducible exact RS.out); simp only [Act.put, List.setIfInBounds_toArray, List.set_cons_succ, List.set_cons_zero])
            | fail)
          have VB := Lib.hid (Below.refl v.heap.size v)
          refine (sstyok n.sty _).mono ?_
          rintro e w2 ⟨rfl, b2⟩
          have HTV := Lib.hid (hp_below HTV.out b2)
          have HX := Lib.hid (hp_below HX.out b2)
          have HBV := Lib.hid (HBV.out.trans (b2.mono HBV.out.size))
          have VB := Lib.hid (VB.out.trans (b2.mono VB.out.size))
          clear b2
          by_cases s1 : styOk n.sty = true
          · rw [s1]
            have ct2 : w2.cell? ⟨w.heap.size, 0, none⟩ = some (.slice (some ⟨b, off, none⟩) ns.length cap) := (Go.Joins.cell_of_block HTV.out 0).trans rfl
            clear ct
            dsimp only
            go_wp2_with (fail)
            refine (sdepthof (some ⟨b, off, none⟩) cap ns ((k : Int) + 1) _ (HZ.out.below HBV.out) hnl ⟨by omega, by omega⟩).mono ?_
            rintro e w3 ⟨rfl, b3⟩
            have HTV := Lib.hid (hp_below HTV.out b3)
            have HX := Lib.hid (hp_below HX.out b3)
            have HBV := Lib.hid (HBV.out.trans (b3.mono HBV.out.size))
            have VB := Lib.hid (VB.out.trans (b3.mono VB.out.size))
            clear b3
            dsimp only
            go_wp2_with (fail)
            refine (srng (dpV ns ((k : Int) + 1)) 1 4 _).mono ?_
            rintro e w4 ⟨rfl, rfl⟩
            have hdo : rnB (dpV ns ((k : Int) + 1)) 1 4 = depOk ns k := rfl
            rw [hdo]
            generalize dpV ns ((k : Int) + 1) = dd at *
            clear hdo ct2
            by_cases s2 : depOk ns k = true
            · rw [s2]
              have ct4 : w4.cell? ⟨w.heap.size, 0, none⟩ = some (.slice (some ⟨b, off, none⟩) ns.length cap) := (Go.Joins.cell_of_block HTV.out 0).trans rfl
              have cx0 : w4.cell? ⟨wr.heap.size, 0, none⟩ = some (.int .i64 n.up) := (Go.Joins.cell_of_block HX.out 0).trans rfl
              have hc7 : c7B ns k n = upOk ns k n := by unfold c7B; rw [s1, s2]; rfl
              have HC7 := Lib.hid hc7
              clear hc7 s1
              dsimp only
              by_cases e0 : n.up = 0
              · have hv : upOk ns k n = true := by rw [HUO.out, e0]; rfl
                have HV := Lib.hid hv
                clear hv s2
                go_wp2_with (fail)
                go_meet
                case rel => exact ⟨by rw [HC7.out, HV.out]; rfl, VB.out⟩
              · obtain ⟨b2, off2, q2, kv2, tv2, e2, hzq2, hq2, hgd2, hok2, hrg2, hkv2, htv2⟩ := nd_look (HZ.out.below HBV.out) (HDU.out s2 e0)
                simp only [Option.some.injEq, Addr.mk.injEq, and_true] at e2
                obtain ⟨rfl, rfl⟩ := e2
                have HRG2 := Lib.hid hrg2
                have K2 := Lib.hid hkv2.one
                have T2 := Lib.hid htv2.one
                have HZQ2 := Lib.hid hzq2
                have hin2 := HDU.out s2 e0
                obtain ⟨ka2, kc2, rfl, hki2⟩ := hkv2
                have HKI2 := Lib.hid hki2
                have hl2 : (ndAt ns n.up).kids.length ≤ 1048576 := by
                  have h1 := nIn_iff.1 hin2
                  rw [ndAt_get h1 (by omega)]
                  exact (HKL.out _ _).1
                have huo2 : upOk ns k n = (((cntZ (ndAt ns n.up).kids ((k : Int) + 1) : Nat) : Int) == 1) := by
                  rw [HUO.out, hin2, show (n.up == 0) = false by simpa using e0, Bool.false_or, Bool.true_and, Bool.eq_iff_iff]
                  simp only [beq_iff_eq]
                  omega
                have HU2 := Lib.hid huo2
                clear hgd2 hok2 hrg2 htv2 hzq2 hin2 hki2 huo2 s2
                generalize ndAt ns n.up = m at *
                go_wp2_with (fail)
                refine (sl10nd b off ns.length cap q2 n.up m _ tv2 _ HZQ2.out hq2 hnl HRG2.out K2.out T2.out).mono ?_
                rintro e w5 ⟨rfl, b5⟩
                have hki5 := HKI2.out.below b5
                have HTV := Lib.hid (hp_below HTV.out b5)
                have HX := Lib.hid (hp_below HX.out b5)
                have HBV := Lib.hid (HBV.out.trans (b5.mono HBV.out.size))
                have VB := Lib.hid (VB.out.trans (b5.mono VB.out.size))
                clear b5
                have FF := Lib.hid (fldKids m.up (.slice ka2 m.kids.length kc2) m.sty m.meas tv2 w5)
                have HKI5 := Lib.hid hki5
                clear hki5 ct4 cx0
                dsimp only
                have hne0 : (n.up != 0) = true := by simpa using e0
                have hne1 : (n.up == 0) = false := by simpa using e0
                (try simp only [hne0, hne1, Bool.not_false])
                go_wp2_with (first
                  | ((with_reducible apply list_gfield); exact rfl; exact rfl; exact rfl; (with_reducible exact FF.out); simp only [Act.put, List.setIfInBounds_toArray, List.set_cons_succ, List.set_cons_zero])
                  | fail)
                refine (sl10has ka2 kc2 m.kids ((k : Int) + 1) _ HKI5.out hl2).mono ?_
                rintro e w6 ⟨rfl, rfl⟩
                generalize ((cntZ m.kids ((k : Int) + 1) : Nat) : Int) = cc at *
                by_cases hc1 : cc = 1
                · subst hc1
                  dsimp only
                  go_wp2_with (fail)
                  go_meet
                  case rel => exact ⟨by rw [HC7.out, HU2.out]; rfl, VB.out⟩
                · have hc2 : (cc == 1) = false := by simpa using hc1
                  have HC2 := Lib.hid hc2
                  clear hc2
                  dsimp only
                  go_wp2_with (fail)
                  go_meet
                  case rel => exact ⟨by rw [HC7.out, HU2.out]; rfl, VB.out⟩
            · have s2' : depOk ns k = false := by simpa using s2
              have hc7 : c7B ns k n = false := by unfold c7B; rw [s2', Bool.and_false, Bool.false_and]
              have HC7 := Lib.hid hc7
              rw [s2']
              clear hc7 s1 s2 s2'
              dsimp only
              go_wp2_with (fail)
              go_meet
              case rel => exact ⟨by rw [HC7.out]; rfl, VB.out⟩
          · have s1' : styOk n.sty = false := by simpa using s1
            have hc7 : c7B ns k n = false := by unfold c7B; rw [s1', Bool.false_and, Bool.false_and]
            have HC7 := Lib.hid hc7
            rw [s1']
            clear hc7 s1 s1'
            dsimp only
            go_wp2_with (fail)
            go_meet
            case rel => exact ⟨by rw [HC7.out]; rfl, VB.out⟩
        case rest =>
          obtain ⟨rfl, bc⟩ := hcut
          have HTV := Lib.hid (hp_below HTV.out bc)
          have HX := Lib.hid (hp_below HX.out bc)
          have HBV := Lib.hid (HBV.out.trans (bc.mono HBV.out.size))
          have KI := Lib.hid (KI.out.below bc)
          have TI := Lib.hid (TI.out.below bc)
          clear bc ct
          generalize wr.heap.size = X at *
          by_cases s7 : c7B ns k n = true
          · rw [s7]
            have S7 := Lib.hid s7
            clear s7
            have cx1 : wc.cell? ⟨X, 1, none⟩ = some (.slice ka n.kids.length kc) := (Go.Joins.cell_of_block HX.out 1).trans rfl
            (try dsimp only)
            go_wp2_with (fail)
            go_loopw [5] (fun jv w' => TkRel ns k n wc jv w') (fun j _ => n.kids.length - (intOf j).toNat)
            case atStart => exact ⟨0, Nat.zero_le _, rfl, fun q hq => absurd hq (Nat.not_lt_zero _), Below.refl _ _⟩
            case round =>
              clear cx1
              obtain ⟨j, hj, rfl, hgood, hb2⟩ := hrel
              have HGOOD := Lib.hid hgood
              have hT3 := hp_below HTV.out hb2
              have hX3 := hp_below HX.out hb2
              have ct3 : wr.cell? ⟨w.heap.size, 0, none⟩ = some (.slice (some ⟨b, off, none⟩) ns.length cap) := (Go.Joins.cell_of_block hT3 0).trans rfl
              have hlo2 : (0 : Int) ≤ (j : Int) := Int.natCast_nonneg _
              have HB2 := Lib.hid hb2
              by_cases hlt2 : j < n.kids.length
              · obtain ⟨kb, koff, rfl, _, ck3⟩ := (KI.out.below hb2).look hlt2
                have cx3 : wr.cell? ⟨X, 1, none⟩ = some (.slice (some ⟨kb, koff, none⟩) n.kids.length kc) := (Go.Joins.cell_of_block hX3 1).trans rfl
                have hhi2 : (j : Int) < (n.kids.length : Int) := by omega
                have hbad3 := HKB.out j hlt2
                obtain ⟨z, ez⟩ : ∃ z, n.kids.getD j 0 = z := ⟨_, rfl⟩
                rw [ez] at ck3 hbad3
                have EZ := Lib.hid ez
                have HB3 := Lib.hid hbad3
                have hko : kidOk ns k z = (nIn ns.length z && upZ ns z == (k : Int) + 1) := rfl
                have HKO := Lib.hid hko
                clear hgood hT3 hX3 hb2 ez hbad3 hko
                have hfin : kidOk ns k z = false → treeB ns = false := fun h => HBAD.out (by rw [HNO.out, HB3.out h, Bool.and_false, Bool.false_and, Bool.false_and])
                have HFIN := Lib.hid hfin
                clear hfin
                by_cases hin : nIn ns.length z = true
                · have his : ∀ w', Calls Try.prog 61 #[.agg #[.slice (some ⟨b, off, none⟩) ns.length cap], .int .i64 z] w' fun e w'' => e = .returned (.bool true) ∧ Below w'.heap.size w' w'' := fun w' => by
                    have h := sl10is (some ⟨b, off, none⟩) ns.length cap z w'
                    rwa [hin] at h
                  obtain ⟨b3, off3, q3, kv3, tv3, e3, hzq3, hq3, hgd3, hok3, hrg3, hkv3, htv3⟩ := nd_look (HZ.out.below (HBV.out.trans (HB2.out.mono HBV.out.size))) hin
                  simp only [Option.some.injEq, Addr.mk.injEq, and_true] at e3
                  obtain ⟨rfl, rfl⟩ := e3
                  have hupz : upZ ns z = (ndAt ns z).up := rfl
                  rw [hin, hupz, Bool.true_and] at HKO
                  have HIS := Lib.hid his
                  have hnd : ∀ w', Below wr.heap.size wr w' → Calls Try.prog 62 #[.agg #[.slice (some ⟨b, off, none⟩) ns.length cap], .int .i64 z] w' fun e w'' => e = .returned (.agg (nA (ndAt ns z).up kv3 (ndAt ns z).sty (ndAt ns z).meas tv3)) ∧ Below w'.heap.size w' w'' :=
                    fun w' hw => sl10nd b off ns.length cap q3 z (ndAt ns z) kv3 tv3 w' hzq3 hq3 hnl (rg_below hrg3 hw) hkv3.one htv3.one
                  have HND := Lib.hid hnd
                  clear his hgd3 hok3 hrg3 hkv3 htv3 hzq3 hnd hupz hin
                  generalize ndAt ns z = m at *
                  obtain ⟨u3, ks3, f3, m3, rl3, rs3⟩ := m
                  simp only at HND HKO
                  have FF := Lib.hid (fun w => fldUp u3 kv3 f3 m3 tv3 w)
                  have q0 := fun d os => cell_regrown ct3 d os
                  have q1 := fun d os => cell_regrown cx3 d os
                  have q2 := fun d os => cell_regrown ck3 d os
                  clear ct3 ck3
                  by_cases hy : u3 = (k : Int) + 1
                  · subst hy
                    go_wp2
                    refine wp_region_quiet_below (by kernel_rfl) (by kernel_rfl) ?_
                    (try simp only [List.append_eq, List.cons_append, List.nil_append])
                    repeat (first
                      | (go_big_quiet_want; (with_reducible apply quiet_field); exact rfl; exact rfl; (with_reducible exact FF.out); simp only [Act.put, List.setIfInBounds_toArray, List.set_cons_succ, List.set_cons_zero]; go_big_quiet_on)
                      | go_big_quiet_step (first
                        | (go_at_call 61; exact Calls.regrown_of (HIS.out _))
                        | (go_at_call 62; exact Calls.regrown_of (HND.out _ (below_regrown wr _ _)))
                        | fail))
                    refine wpQuiet_nil ?_
                    intro _ hw'
                    obtain ⟨⟨dq, osq⟩, hw''⟩ := hw'
                    subst hw''
                    clear q0 q1 q2 cx3
                    go_wp2
                    go_roundw
                    case rel =>
                      refine ⟨j + 1, by omega, by go_num, fun q hq => ?_, HB2.out.trans ((below_regrown wr dq osq).mono HB2.out.size)⟩
                      by_cases e : q = j
                      · rw [e, EZ.out, HKO.out]; simp
                      · exact HGOOD.out q (by omega)
                    case measure => simp [intOf]; omega
                  · have hv := HFIN.out (by rw [HKO.out]; simpa using hy)
                    have HV := Lib.hid hv
                    clear hv
                    go_wp2
                    refine wp_region_quiet_below (by kernel_rfl) (by kernel_rfl) ?_
                    (try simp only [List.append_eq, List.cons_append, List.nil_append])
                    repeat (first
                      | (go_big_quiet_want; (with_reducible apply quiet_field); exact rfl; exact rfl; (with_reducible exact FF.out); simp only [Act.put, List.setIfInBounds_toArray, List.set_cons_succ, List.set_cons_zero]; go_big_quiet_on)
                      | go_big_quiet_step (first
                        | (go_at_call 61; exact Calls.regrown_of (HIS.out _))
                        | (go_at_call 62; exact Calls.regrown_of (HND.out _ (below_regrown wr _ _)))
                        | fail))
                    refine wpQuiet_nil ?_
                    intro _ hw'
                    obtain ⟨⟨dq, osq⟩, hw''⟩ := hw'
                    subst hw''
                    clear q0 q1 q2 cx3
                    go_wp2
                    go_ret
                    exact ⟨by rw [HV.out]; rfl, HB.out.trans ((HBV.out.trans ((HB2.out.trans ((below_regrown wr dq osq).mono HB2.out.size)).mono HBV.out.size)).mono HB.out.size)⟩
                · have hin' : nIn ns.length z = false := by simpa using hin
                  have his : ∀ w', Calls Try.prog 61 #[.agg #[.slice (some ⟨b, off, none⟩) ns.length cap], .int .i64 z] w' fun e w'' => e = .returned (.bool false) ∧ Below w'.heap.size w' w'' := fun w' => by
                    have h := sl10is (some ⟨b, off, none⟩) ns.length cap z w'
                    rwa [hin'] at h
                  have hv := HFIN.out (by rw [HKO.out, hin', Bool.false_and])
                  have HV := Lib.hid hv
                  have HIS := Lib.hid his
                  have q0 := fun d os => cell_regrown ct3 d os
                  have q1 := fun d os => cell_regrown cx3 d os
                  have q2 := fun d os => cell_regrown ck3 d os
                  clear ct3 ck3 his hin hin' hv
                  go_wp2
                  refine wp_region_quiet_below (by kernel_rfl) (by kernel_rfl) ?_
                  (try simp only [List.append_eq, List.cons_append, List.nil_append])
                  repeat (go_big_quiet_step (first
                      | (go_at_call 61; exact Calls.regrown_of (HIS.out _))
                      | fail))
                  refine wpQuiet_nil ?_
                  intro _ hw'
                  obtain ⟨⟨dq, osq⟩, hw''⟩ := hw'
                  subst hw''
                  clear q0 q1 q2 cx3
                  go_wp2
                  go_ret
                  exact ⟨by rw [HV.out]; rfl, HB.out.trans ((HBV.out.trans ((HB2.out.trans ((below_regrown wr dq osq).mono HB2.out.size)).mono HBV.out.size)).mono HB.out.size)⟩
              · obtain rfl : j = n.kids.length := by omega
                have hkk := HKG.out hgood
                have hng : conOk n = true → nodeB ns k n = true := fun h => by
                  have h7 := S7.out
                  unfold c7B at h7
                  simp only [Bool.and_eq_true] at h7
                  rw [HNO.out, h7.1.1, h7.2, hkk, h, h7.1.2]; rfl
                have hnb : conOk n = false → treeB ns = false := fun h => HBAD.out (by rw [HNO.out, h, Bool.and_false, Bool.false_and])
                have HNG := Lib.hid hng
                have HNB := Lib.hid hnb
                have TI3 := Lib.hid (TI.out.below hb2)
                have HT3 := Lib.hid hT3
                have HX3 := Lib.hid hX3
                have cx1 : wr.cell? ⟨X, 1, none⟩ = some (.slice ka n.kids.length kc) := (Go.Joins.cell_of_block hX3 1).trans rfl
                have cx62 : wr.cell? ⟨X, 62, none⟩ = some (.bool n.meas) := (Go.Joins.cell_of_block hX3 62).trans (by rw [nA, List.getElem?_toArray]; exact nL_meas)
                have cx63 : wr.cell? ⟨X, 63, none⟩ = some (.slice ta n.rl tc) := (Go.Joins.cell_of_block hX3 63).trans (by rw [nA, List.getElem?_toArray]; exact nL_tab)
                have BT := Lib.hid (HBV.out.trans (hb2.mono HBV.out.size))
                clear hgood hb2 hT3 hX3 ct3 hkk hng hnb
                by_cases hm : n.meas = true
                · rw [hm] at cx62
                  have hco : conOk n = (n.kids.isEmpty && tokB n.rules n.rl) := by rw [HCO.out, if_pos hm]
                  have HCC := Lib.hid hco
                  clear hco hm
                  go_wp2_with (fail)
                  refine (stableok ta n.rl tc n.rules _ TI3.out (by omega)).mono ?_
                  rintro e w8 ⟨rfl, b8⟩
                  have hX8 := hp_below HX3.out b8
                  have BT8 := Lib.hid (BT.out.trans (b8.mono BT.out.size))
                  replace cx1 : w8.cell? ⟨X, 1, none⟩ = some (.slice ka n.kids.length kc) := (Go.Joins.cell_of_block hX8 1).trans rfl
                  replace cx62 : w8.cell? ⟨X, 62, none⟩ = some (.bool true) := (b8.cell (block_lt_of_cell cx62)).trans cx62
                  clear b8 hX8 cx63
                  by_cases ht : tokB n.rules n.rl = true
                  · rw [ht]
                    by_cases hk0 : n.kids.length = 0
                    · have hnn : nodeB ns k n = true := HNG.out (by rw [HCC.out, ht, show n.kids.isEmpty = true by simpa using hk0]; rfl)
                      have HNN := Lib.hid hnn
                      rw [hk0] at cx1
                      clear hnn ht
                      (try dsimp only)
                      go_wp2_with (fail)
                      go_roundw
                      case rel =>
                        refine ⟨k + 1, by omega, by go_num, fun q hq hqk => ?_, BT8.out⟩
                        by_cases e : q = k
                        · subst e; rw [HEN.out]; exact HNN.out
                        · exact HG.out q hq (by omega)
                      case measure => simp [intOf]; omega
                    · have hv : treeB ns = false := HNB.out (by rw [HCC.out, show n.kids.isEmpty = false by cases h : n.kids with | nil => rw [h] at hk0; exact absurd rfl hk0 | cons => rfl, Bool.false_and])
                      have HV := Lib.hid hv
                      have hpos : (0 : Int) < (n.kids.length : Int) := by omega
                      clear hv ht
                      (try dsimp only)
                      go_wp2_with (fail)
                      go_ret
                      exact ⟨by rw [HV.out]; rfl, HB.out.trans (BT8.out.mono HB.out.size)⟩
                  · have ht' : tokB n.rules n.rl = false := by simpa using ht
                    have hv : treeB ns = false := HNB.out (by rw [HCC.out, ht', Bool.and_false])
                    have HV := Lib.hid hv
                    rw [ht']
                    clear hv ht ht'
                    (try dsimp only)
                    go_wp2_with (fail)
                    go_ret
                    exact ⟨by rw [HV.out]; rfl, HB.out.trans (BT8.out.mono HB.out.size)⟩
                · have hm' : n.meas = false := by simpa using hm
                  rw [hm'] at cx62
                  have hco : conOk n = (n.rl == 0) := by rw [HCO.out, if_neg hm]
                  have HCC := Lib.hid hco
                  clear hco hm hm'
                  by_cases hr0 : n.rl = 0
                  · have hnn : nodeB ns k n = true := HNG.out (by rw [HCC.out, hr0]; rfl)
                    have HNN := Lib.hid hnn
                    rw [hr0] at cx63
                    clear hnn
                    go_wp2_with (fail)
                    go_roundw
                    case rel =>
                      refine ⟨k + 1, by omega, by go_num, fun q hq hqk => ?_, BT.out⟩
                      by_cases e : q = k
                      · subst e; rw [HEN.out]; exact HNN.out
                      · exact HG.out q hq (by omega)
                    case measure => simp [intOf]; omega
                  · have hv : treeB ns = false := HNB.out (by rw [HCC.out]; simpa using hr0)
                    have HV := Lib.hid hv
                    have hpos : (0 : Int) < (n.rl : Int) := by omega
                    clear hv
                    go_wp2_with (fail)
                    go_ret
                    exact ⟨by rw [HV.out]; rfl, HB.out.trans (BT.out.mono HB.out.size)⟩
          · have s7' : c7B ns k n = false := by simpa using s7
            have hv : treeB ns = false := HBAD.out (by
              rw [HNO.out]
              unfold c7B at s7'
              cases h1 : styOk n.sty
              · rfl
              · cases h2 : upOk ns k n
                · rfl
                · rw [h1, h2] at s7'
                  have h3 : depOk ns k = false := by simpa using s7'
                  rw [h3, Bool.and_false])
            have HV := Lib.hid hv
            rw [s7']
            clear hv s7 s7'
            (try dsimp only)
            go_wp2_with (fail)
            go_ret
            exact ⟨by rw [HV.out]; rfl, HB.out.trans (HBV.out.mono HB.out.size)⟩
      · obtain rfl : k = ns.length := by omega
        have hv : treeB ns = true := tree_good h12 fun i hi => hgood i hi hi
        have HV := Lib.hid hv
        have HBB := Lib.hid hb
        clear hv hgood hb hT
        go_wp2_with (fail)
        go_ret
        exact ⟨by rw [HV.out]; rfl, HB.out.trans (HBB.out.mono HB.out.size)⟩
  · have hv := tree_len h12
    have hgt : (12 : Int) < (ns.length : Int) := by omega
    have HV := Lib.hid hv
    clear hv
    go_enter Try.func19, Try.ntmps19
    go_wp2_with (rw [← EU.out])
    go_ret
    exact ⟨by rw [HV.out]; rfl, HB.out⟩
end Go.Proofs.Ytjlgcnhjifdgfaa

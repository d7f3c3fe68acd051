import Derived.Test.YtiogjbdaaplhpaaZfAW
import Derived.Test.YtiogjbdaaplhpaaZfBD
section
namespace Go.Proofs.Ytiogjbdaaplhpaa
open Go.ChangeShapes Go.WideShapes Go.ChangeAt Go.RowKit
set_option linter.unusedVariables false
set_option linter.unusedSimpArgs false
set_option maxRecDepth 8000

theorem fldOrd (f : Nat → Int) (w : World) : (Instr.field 41 (.agg (sCells f)) 8).run Try.prog w = .ok (.int .i64 (f 8)) w := by kernel_rfl
def FsRel (ns : List PN) (zs : List Int) (u : World) (v i : Value) (wr : World) : Prop :=
  ∃ k : Nat, k ≤ zs.length ∧ i = .int .i64 k ∧ RowI u.heap.size v (srt (ordK ns) (fK ns 0 (zs.take k))) wr ∧ Below u.heap.size u wr
def FiRel (f : Int → Int) (P : List Int) (y : Int) (w5 : World) (jv : Value) (wr : World) : Prop :=
  ∃ m : Nat, m ≤ P.length ∧ jv = .int .i64 m ∧ insJ f P y P.length = insJ f P y m ∧ Below w5.heap.size w5 wr
theorem list_sl_l {ops : Array Oper} {rest : List Oper} {op : Oper} {a : Act} {w : World} {Q : Exit → Act → World → Prop} {kap : Option Addr} {len kcp m : Nat} (hgd : op.guard = none) (x y : Operand) (ho : op.op = .slice 59 x (some y) none none) (hx : a.eval x = .slice kap len kcp) (hy : a.eval y = .int .i64 (m : Int)) (hm : m ≤ len)
    (h : wpList Try.prog ops Q rest (a.put op.dst (.slice (tailA kap kcp m) (len - m) (kcp - m))) w) : wpList Try.prog ops Q (op :: rest) a w := by
  refine wpList_plain hgd fun K hK => ?_
  have e : (execOp a.eval op).run Try.prog w = .ok (.value (.slice (tailA kap kcp m) (len - m) (kcp - m))) w := by
    have h := run_sl_l kap len kcp m w hm
    unfold execOp
    simp only [ho, Option.map, hx, hy]
    rw [Sem.run_bind, h]
    rfl
  unfold Oper.wp
  rw [e, Oper.upon_value]
  exact hK _ _ h
set_option maxHeartbeats 4000000 in
theorem sflowkids (a : Option Addr) (cap : Nat) (ns : List PN) (z0 : Int) (w : World) (hz : Nds w a ns) (hl : szS ns ≤ 1048576) (hz0 : I64 z0) :
    Calls Try.prog 38 #[.agg #[.slice a ns.length cap], .int .i64 z0] w (OutPost (flV ns z0) w) := by
  obtain ⟨i0, hi, hq0, hq1, hq2⟩ := info_parts info_ap2
  have hnl : ns.length ≤ 1048576 := by unfold szS at hl; omega
  have B0 := bel_alloc w (.cells #[.slice a ns.length cap] 26)
  have h0 := hp_new w (.cells #[.slice a ns.length cap] 26)
  obtain ⟨u, eu⟩ : ∃ u, u = w.alloc (.cells #[.slice a ns.length cap] 26) := ⟨_, rfl⟩
  have hus : w.heap.size < u.heap.size := by rw [eu]; simp
  rw [← eu] at B0 h0
  have hr0 : RowI u.heap.size (.slice (some ⟨u.heap.size, 0, none⟩) 0 0) [] (u.alloc (.cells #[] 3)) := World.ownsRow_lit u #[] 0 (Nat.le_refl _) (by unfold maxLen; omega) rfl
  have hb0 := Go.Joins.below_alloc1 u (.cells #[] 3)
  obtain ⟨x, ex⟩ : ∃ x, x = u.alloc (.cells #[] 3) := ⟨_, rfl⟩
  rw [← ex] at hr0 hb0
  have EU := Lib.hid eu
  have EX := Lib.hid ex
  have HZ := Lib.hid (hz.below B0)
  have HB := Lib.hid B0
  have H0 := Lib.hid h0
  have HR := Lib.hid hr0
  have HBX := Lib.hid hb0
  have KT := Lib.hid (fun w' (h : Below u.heap.size u w') => streeok a cap ns w' (HZ.out.below h) hl)
  have KI := Lib.hid (fun w' => sl10is a ns.length cap z0 w')
  have hc0 := fun w' (h : Below u.heap.size u w') => (Go.Joins.cell_of_block ((h.block w.heap.size hus).trans H0.out) 0).trans (show _ = some (Value.slice a ns.length cap) from rfl)
  have HC := Lib.hid hc0
  have c0 := HC.out x HBX.out
  clear B0 hz eu h0 ex hr0 hb0 hc0
  by_cases hh : (nIn ns.length z0 && treeB ns) = true
  · have hv : flV ns z0 = srt (ordK ns) (fK ns 0 (kidsZ ns z0)) := by unfold flV; rw [if_pos hh]
    have h1 : nIn ns.length z0 = true ∧ treeB ns = true := by simpa using hh
    rw [h1.2] at KT
    rw [h1.1] at KI
    have HV := Lib.hid hv
    have HT := Lib.hid h1.2
    have HIN := Lib.hid h1.1
    clear hv h1 hh
    go_enter Try.func38, Try.ntmps38
    go_wp2_with (first | (rw [← EU.out]) | (rw [← EX.out]))
    refine (KT.out _ HBX.out).mono ?_
    rintro e w1 ⟨rfl, b1⟩
    have HB1 := Lib.hid (HBX.out.trans (b1.mono HBX.out.size))
    have HR1 := Lib.hid (HR.out.below b1)
    replace c0 := HC.out w1 HB1.out
    clear b1
    dsimp only
    go_wp2_with (fail)
    refine (KI.out _).mono ?_
    rintro e w2 ⟨rfl, b2⟩
    have HB2 := Lib.hid (HB1.out.trans (b2.mono HB1.out.size))
    have HR2 := Lib.hid (HR1.out.below b2)
    replace c0 := HC.out w2 HB2.out
    clear b2
    dsimp only
    go_wp2_with (fail)
    obtain ⟨ka, kc, tv, hki, hnd0⟩ := sl10ndK (cap := cap) HZ.out hnl HIN.out
    refine (hnd0 w2 HB2.out).mono ?_
    rintro e w3 ⟨rfl, b3⟩
    have HB3 := Lib.hid (HB2.out.trans (b3.mono HB2.out.size))
    have HR3 := Lib.hid (HR2.out.below b3)
    have F1 := Lib.hid (fldKids (upZ ns z0) (.slice ka (kidsZ ns z0).length kc) (ndAt ns z0).sty (ndAt ns z0).meas tv w3)
    have hkl := kids_len HT.out z0
    have hkat := fun j => kid_at (z := z0) HT.out (j := j)
    have HKA := Lib.hid hkat
    obtain ⟨zs, ezs⟩ : ∃ zs, zs = kidsZ ns z0 := ⟨_, rfl⟩
    rw [← ezs] at hki F1 hkl HKA HV ⊢
    have HKI := Lib.hid hki
    clear b3 c0 hki hkat ezs hnd0
    dsimp only
    go_wp2_with (first
      | ((with_reducible apply list_field); exact rfl; exact rfl; exact rfl; (with_reducible exact F1.out); simp only [Act.put, List.setIfInBounds_toArray, List.set_cons_succ, List.set_cons_zero])
      | fail)
    go_loopw [5, 7, 8, 9, 10] (fun v i _ _ _ wr => FsRel ns zs u v i wr) (fun _ i _ _ _ _ => zs.length - (intOf i).toNat)
    case atStart => exact ⟨0, Nat.zero_le _, rfl, HR3.out, HB3.out⟩
    case round =>
      obtain ⟨k, hk, rfl, ho, hb⟩ := hrel
      have HO := Lib.hid ho
      have HBr := Lib.hid hb
      have hlo : (0 : Int) ≤ (k : Int) := Int.natCast_nonneg _
      have c0 := HC.out wr hb
      by_cases hlt : k < zs.length
      · obtain ⟨kb, koff, rfl, _, ck⟩ := (HKI.out.below hb).look hlt
        have hhi : (k : Int) < (zs.length : Int) := by omega
        have hft := fK_take (ns := ns) (r := 0) hlt
        have hin := HKA.out k hlt
        have hPin : ∀ z ∈ srt (ordK ns) (fK ns 0 (zs.take k)), nIn ns.length z = true := fun z hz => by
          have h1 := List.mem_of_mem_take (List.mem_filter.1 (srt_mem _ _ z hz)).1
          obtain ⟨j, hj, rfl⟩ := List.getElem_of_mem h1
          have := HKA.out j hj
          rwa [List.getD_eq_getElem?_getD, List.getElem?_eq_getElem hj] at this
        have hPl : (srt (ordK ns) (fK ns 0 (zs.take k))).length ≤ 12 := by
          rw [srt_len]
          have h1 := fK_le ns 0 (zs.take k)
          simp at h1
          omega
        generalize zs.getD k 0 = y at *
        obtain ⟨kv, tv', hnd⟩ := sl10ndF (cap := cap) (HZ.out.below hb) hnl hin
        have HND := Lib.hid hnd
        have HFT := Lib.hid hft
        have HPI := Lib.hid hPin
        clear ho hb hnd hft hin hPin
        have er : rlZ (ndAt ns y).sty = if bz ((ndAt ns y).sty 7) = true then 2 else if bz ((ndAt ns y).sty 6) = true then 1 else 0 := rfl
        have hoy : ordK ns y = (ndAt ns y).sty 8 := rfl
        have ER := Lib.hid er
        have HOY := Lib.hid hoy
        have FS := Lib.hid (fun w => fldSty (ndAt ns y).up kv (ndAt ns y).sty (ndAt ns y).meas tv' w)
        clear er hoy
        generalize ndAt ns y = n at *
        go_wp2_with (fail)
        refine region_new 8 7 (obj := .cells (sCells fun _ => 0) 41) (by kernel_rfl) (by kernel_rfl) rfl rfl rfl (fun a' w' => run_alloc_sty rfl) ?_
        apply Exists.intro
        refine ⟨?p0, ?s0⟩
        case p0 =>
          intro W0 hW0
          have q0 := fun d os => cell_regrown (HC.out W0 (HBr.out.trans (hW0.mono HBr.out.size))) d os
          have q1 := fun d os => cell_regrown ((hW0.cell (p := ⟨kb, koff + k, none⟩) (World.block_lt_of_cell? _ _ ck)).trans ck) d os
          simp [blank, nopOf]
          repeat (first
            | (go_big_quiet_want; (with_reducible apply quiet_field); exact rfl; exact rfl; (with_reducible exact FS.out); simp only [Act.put, List.setIfInBounds_toArray, List.set_cons_succ, List.set_cons_zero]; go_big_quiet_on)
            | go_big_quiet_step (first
              | (go_at_call 70; exact Calls.regrown_of (HND.out _ (hW0.trans ((below_regrown W0 _ _).mono hW0.size))))
              | fail))
          exact wpQuiet_nil rfl
        intro g0 w4 hg hb4 hsty
        simp only [List.drop_succ_cons, List.drop_zero]
        obtain ⟨w5, e5⟩ : ∃ w5, w5 = w4.setRow g0 (sCells n.sty) := ⟨_, rfl⟩
        have hs5 := setRow_heap _ _ _ (sCells n.sty) _ _ hsty
        have b5 := below_setRow hb4 hg (sCells n.sty)
        rw [← e5] at hs5 b5
        have HS5 := Lib.hid hs5
        have E5 := Lib.hid e5
        have HB5 := Lib.hid (HBr.out.trans (b5.mono HBr.out.size))
        have HO5 := Lib.hid (HO.out.below b5)
        have HSY := Lib.hid hsty
        have c7 := sty_bool hs5 7 (Or.inr rfl)
        have c6 := sty_bool hs5 6 (Or.inl rfl)
        have c8 := sty_int hs5 8 (by decide)
        have CK5 := Lib.hid ((b5.cell (p := ⟨kb, koff + k, none⟩) (World.block_lt_of_cell? _ _ ck)).trans ck)
        clear hs5 b5 e5 hsty hb4 hg ck c0
        generalize bz (n.sty 7) = h7 at *
        generalize bz (n.sty 6) = h6 at *
        by_cases hap : h7 = false ∧ h6 = false
        · obtain ⟨rfl, rfl⟩ := hap
          have hft := HFT.out
          rw [if_pos (by rw [ER.out]; rfl)] at hft
          have hsn := srt_snoc (ordK ns) (fK ns 0 (zs.take k)) y
          rw [← hft] at hsn
          have HSN := Lib.hid hsn
          clear hft hsn
          obtain ⟨P, eP⟩ : ∃ P, P = srt (ordK ns) (fK ns 0 (zs.take k)) := ⟨_, rfl⟩
          rw [← eP] at HSN HO5 HPI hPl
          clear eP HO
          rw [← HOY.out] at c8
          have hform : ∃ va vc, u5 = .slice va P.length vc := by
            rcases HO5.out.2 with ⟨h1, h2⟩ | ⟨g, cap, cur, h1, _⟩
            · exact ⟨none, 0, by rw [h1, h2]⟩
            · exact ⟨_, cap, h1⟩
          obtain ⟨va, vc, rfl⟩ := hform
          have hPA : AllI P := fun z hz => by
            have h1 := nIn_iff.1 (HPI.out z hz)
            omega
          have HPA := Lib.hid hPA
          have hS5 := HS5.out
          clear hPA
          go_wp2_with (first
            | ((with_reducible apply list_store_sty); exact rfl; exact rfl; exact rfl; exact rfl; (with_reducible exact HSY.out); simp only [World.size_alloc, Act.put, List.setIfInBounds_toArray, List.set_cons_succ, List.set_cons_zero])
            | (rw [← E5.out])
            | fail)
          clear c6 c7 c8 hS5
          go_loopw [9] (fun jv wr => FiRel (ordK ns) P y w5 jv wr) (fun jv _ => (intOf jv).toNat)
          case atStart => exact ⟨P.length, Nat.le_refl _, rfl, rfl, Below.refl _ _⟩
          case round =>
            obtain ⟨m, hmP, rfl, hins, hbj⟩ := hrel
            have hmlo : (0 : Int) ≤ (m : Int) := Int.natCast_nonneg _
            have HIN := Lib.hid hins
            have HBJ := Lib.hid hbj
            have c0 := HC.out wr (HB5.out.trans (hbj.mono HB5.out.size))
            clear hins hbj
            rcases Nat.eq_zero_or_pos m with hm0 | hmp
            · have hd : decide ((0 : Int) < (m : Int)) = false := by rw [hm0]; decide
              have hd2 : decide (0 < m) = false := by rw [hm0]; decide
              have hJ : insJ (ordK ns) P y P.length = m := by rw [HIN.out, hm0]; rfl
              have HJ := Lib.hid hJ
              clear hJ hm0 c0
              go_wp2_with (fail)
              go_quiet (fail)
              rename_i nq
              have hbq := below_drawn wr nq
              have HBQ := Lib.hid (HBJ.out.trans (hbq.mono HBJ.out.size))
              generalize wr.drewN nq = wj at *
              clear hbq
              have ck := (HBQ.out.cell (p := ⟨kb, koff + k, none⟩) (World.block_lt_of_cell? _ _ CK5.out)).trans CK5.out
              have hkbl := World.block_lt_of_cell? _ _ ck
              obtain ⟨va', vc', ev, hri⟩ := RowI.slice (RowI.below HO5.out HBQ.out) HPA.out
              simp at ev
              obtain ⟨rfl, rfl⟩ := ev
              have HRI := Lib.hid hri
              have hcap : P.length ≤ vc := by
                rcases HO5.out.2 with ⟨h1, h2⟩ | ⟨g, cap', cur, h1, _, _, hnc, _⟩
                · omega
                · simp at h1; omega
              clear hri
              go_wp2_with (fail)
              refine reg_key (fun (v65 v69 v74 v75 : Value) w' => RowI wj.heap.size v75 (P.take m ++ [y]) w' ∧ Below wj.heap.size wj w') ?_
              apply Exists.intro
              refine ⟨?pA, ?sA⟩
              case pA =>
                refine wp_region_held_drew (S := fun w' => w'.cell? ⟨kb, koff + k, none⟩ = some (.int .i64 y)) (by kernel_rfl) ck (fun hHeld => ?_)
                refine wpAnyH_take (i := 1) (oi := ⟨some 66, Op.move (Operand.tmp 5), _, _, _, _⟩) (v := .slice va P.length vc) rfl (by kernel_rfl) (by kernel_rfl) (by kernel_rfl) (fun _ _ _ h => by cases h.1) (Or.inl ⟨by rfl, fun W hW => by (try dsimp only at hW); go_simp <;> with_reducible rfl⟩) hHeld ?_
                simp only [World.size_alloc, Act.put, List.setIfInBounds_toArray, List.set_cons_succ, List.set_cons_zero]
                refine wpAnyH_take (i := 2) (oi := ⟨some 67, Op.move (Operand.tmp 9), _, _, _, _⟩) (v := .int .i64 (m : Int)) rfl (by kernel_rfl) (by kernel_rfl) (by kernel_rfl) (fun _ _ _ h => by cases h.1) (Or.inl ⟨by rfl, fun W hW => by (try dsimp only at hW); go_simp <;> with_reducible rfl⟩) hHeld ?_
                simp only [World.size_alloc, Act.put, List.setIfInBounds_toArray, List.set_cons_succ, List.set_cons_zero]
                refine wpAnyH_take (i := 3) (oi := ⟨some 68, Op.slice 59 (Operand.tmp 66) none (some (Operand.tmp 67)) none, _, _, _, _⟩) (v := .slice va m vc) rfl (by kernel_rfl) (by kernel_rfl) (by kernel_rfl) (fun _ _ _ h => by cases h.1) (Or.inl ⟨by rfl, fun W hW => by have h := run_sl_h va P.length vc m W (by omega); unfold execOp; simp only [Sem.run_bind, Option.map]; rw [show (Act.eval _ (Operand.tmp 66)) = Value.slice va P.length vc from rfl, show (Act.eval _ (Operand.tmp 67)) = Value.int .i64 (m : Int) from rfl, h]; rfl⟩) hHeld ?_
                simp only [World.size_alloc, Act.put, List.setIfInBounds_toArray, List.set_cons_succ, List.set_cons_zero]
                refine wpAnyH_take (i := 5) (oi := ⟨some 70, Op.move (Operand.tmp 6), _, _, _, _⟩) (v := .slice (some ⟨kb, koff, none⟩) zs.length kc) rfl (by kernel_rfl) (by kernel_rfl) (by kernel_rfl) (fun _ _ _ h => by cases h.1) (Or.inl ⟨by rfl, fun W hW => by (try dsimp only at hW); go_simp <;> with_reducible rfl⟩) hHeld ?_
                simp only [World.size_alloc, Act.put, List.setIfInBounds_toArray, List.set_cons_succ, List.set_cons_zero]
                refine wpAnyH_take (i := 6) (oi := ⟨some 71, Op.move (Operand.tmp 7), _, _, _, _⟩) (v := .int .i64 (k : Int)) rfl (by kernel_rfl) (by kernel_rfl) (by kernel_rfl) (fun _ _ _ h => by cases h.1) (Or.inl ⟨by rfl, fun W hW => by (try dsimp only at hW); go_simp <;> with_reducible rfl⟩) hHeld ?_
                simp only [World.size_alloc, Act.put, List.setIfInBounds_toArray, List.set_cons_succ, List.set_cons_zero]
                refine wpAnyH_take (i := 7) (oi := ⟨some 72, Op.indexAddr 59 (Operand.tmp 70) (Operand.tmp 71), _, _, _, _⟩) (v := .pointer (some ⟨kb, koff + k, none⟩)) rfl (by kernel_rfl) (by kernel_rfl) (by kernel_rfl) (fun _ _ _ h => by cases h.1) (Or.inl ⟨by rfl, fun W hW => by (try dsimp only at hW); go_simp <;> with_reducible rfl⟩) hHeld ?_
                simp only [World.size_alloc, Act.put, List.setIfInBounds_toArray, List.set_cons_succ, List.set_cons_zero]
                refine wpAnyH_take (i := 8) (oi := ⟨some 73, Op.load 3 (Operand.tmp 72), _, _, _, _⟩) (v := .int .i64 y) rfl (by kernel_rfl) (by kernel_rfl) (by kernel_rfl) (fun _ _ _ h => by cases h.1) (Or.inl ⟨by rfl, fun W hW => by (try dsimp only at hW); go_simp <;> with_reducible rfl⟩) hHeld ?_
                simp only [World.size_alloc, Act.put, List.setIfInBounds_toArray, List.set_cons_succ, List.set_cons_zero]
                obtain ⟨d, ed⟩ : ∃ d, d = wj.drew := ⟨_, rfl⟩
                rw [← ed]
                have hB : Below wj.heap.size wj d := (by rw [ed]; exact (Below.refl wj.heap.size wj).drew)
                clear ed hHeld
                refine anyH_2 0 9 rfl rfl (by kernel_rfl) rfl rfl ?_ ?_
                · go_wp2_with (fail)
                  (try dsimp only)
                  obtain ⟨e1, ev⟩ : ∃ q, q = d.alloc (.cells #[] 3) := ⟨_, rfl⟩
                  rw [← ev]
                  have bX : Below d.heap.size d e1 := (by rw [ev]; exact bel_alloc d _)
                  have ho0 : e1.ownsRow wj.heap.size 3 1 (.slice (some ⟨d.heap.size, 0, none⟩) 0 0) 0 [] := (by rw [ev]; exact ownsRow_lower (World.ownsRow_lit d #[] 0 (Nat.le_refl _) (by unfold maxLen; omega) rfl) hB.size)
                  
                  replace hB := hB.trans (bX.mono hB.size)
                  obtain ⟨q1, eq1⟩ : ∃ q, q = d.heap.size := ⟨_, rfl⟩
                  rw [← eq1] at ho0 ⊢
                  have hq1' := (World.ownsRow.lt ho0 q1 rfl).2
                  
                  clear ev eq1 bX
                  refine ⟨(hB.cell (p := ⟨kb, koff + k, none⟩) hkbl).trans ck, ?_⟩
                  refine anyH_2 4 9 rfl rfl (by kernel_rfl) rfl rfl ?_ ?_
                  · refine wp_append_any _ _ 59 rfl wj.heap.size 3 i0 (.int .i64 0) 1 8 Try.underlying59 hi hq0 hq1 hq2 rfl (by decide) (.slice (some ⟨q1, 0, none⟩) 0 0) 0 [] rfl ho0 va m vc ((P.take m).map (Value.int .i64)) rfl (by simp [hmP]) (ins_src1 (HRI.out.below hB) hmP) (ints_one' _) (by unfold maxLen; omega) (by omega) hB.size ?_
                    intro v1 e2 hown hgr hat
                    rw [Nat.zero_add] at hown
                    obtain ⟨la1, lc1, rfl⟩ := own_form hown
                    replace hB : Below wj.heap.size wj e2 := hB.grown hgr hB.size (fun q hq => by have := (World.ownsRow.lt ho0 q hq).1; omega)
                    have ho1 := hown
                    have hl1 := fun b hb => (World.ownsRow.lt ho1 b hb).2
                    clear hown hgr hat ho0
                    simp only [Act.put, List.setIfInBounds_toArray, List.set_cons_zero, List.set_cons_succ]
                    refine ⟨(hB.cell (p := ⟨kb, koff + k, none⟩) hkbl).trans ck, ?_⟩
                    refine anyH_1 9 rfl (by kernel_rfl) rfl ?_
                    go_wp2_with (fail)
                    (try dsimp only)
                    obtain ⟨e3, ev⟩ : ∃ q, q = e2.alloc (.cells #[.int .i64 y] 3) := ⟨_, rfl⟩
                    rw [← ev]
                    have bX : Below e2.heap.size e2 e3 := (by rw [ev]; exact bel_alloc e2 _)
                    have hq : e3.heap[e2.heap.size]? = some (.cells #[.int .i64 y] 3) := (by rw [ev]; exact hp_new e2 _)
                    replace ho1 := ownsRow_from ho1 (From.of_below bX)
                    replace hB := hB.trans (bX.mono hB.size)
                    obtain ⟨q2, eq2⟩ : ∃ q, q = e2.heap.size := ⟨_, rfl⟩
                    have hr1 : ∀ b, (Value.slice la1 m lc1).ownBlock = some b → b ≠ e2.heap.size := fun b hb => (by have := (hl1 b hb); omega)
                    rw [← eq2] at hr1
                    rw [← eq2] at hq ⊢
                    have hq2' := hp_lt hq
                    clear ev eq2 bX
                    refine ⟨(hB.cell (p := ⟨kb, koff + k, none⟩) hkbl).trans ck, ?_⟩
                    refine anyH_1 10 rfl (by kernel_rfl) rfl ?_
                    have hn := World.news_of_block hq
                    refine wp_append_any _ _ 59 rfl wj.heap.size 3 i0 (.int .i64 0) 1 8 Try.underlying59 hi hq0 hq1 hq2 rfl (by decide) (.slice la1 m lc1) m _ rfl ho1 (some ⟨q2, 0, none⟩) 1 1 [.int .i64 y] rfl rfl (Or.inr ⟨_, rfl, hn⟩) (by simp; rfl) (by unfold maxLen; omega) (by omega) hB.size ?_
                    intro v2 e4 hown hgr _
                    obtain ⟨la2, lc2, rfl⟩ := own_form hown
                    replace hB : Below wj.heap.size wj e4 := hB.grown hgr hB.size (fun q hq => (World.ownsRow.lt ho1 q hq).1)
                    clear hgr hq hn ho1
                    simp only [Act.put, List.setIfInBounds_toArray, List.set_cons_zero, List.set_cons_succ]
                    refine ⟨(hB.cell (p := ⟨kb, koff + k, none⟩) hkbl).trans ck, ?_⟩
                    refine anyH_1 11 rfl (by kernel_rfl) rfl ?_
                    go_wp2_with (fail)
                    (try dsimp only)
                    refine ⟨(hB.cell (p := ⟨kb, koff + k, none⟩) hkbl).trans ck, ?_⟩
                    refine wpAnyH_done (by kernel_rfl) ?_ _
                    have hRI : RowI wj.heap.size (.slice la2 (m + 1) lc2) (P.take m ++ [y]) e4 := (by unfold RowI; simpa [hmP, Nat.min_eq_left hmP] using hown)
                    obtain ⟨v65, e65⟩ : ∃ q, q = Value.slice (some ⟨q1, 0, none⟩) 0 0 := ⟨_, rfl⟩
                    obtain ⟨v69, e69⟩ : ∃ q, q = Value.slice la1 m lc1 := ⟨_, rfl⟩
                    obtain ⟨v74, e74⟩ : ∃ q, q = Value.slice (some ⟨q2, 0, none⟩) 1 1 := ⟨_, rfl⟩
                    obtain ⟨v75, e75⟩ : ∃ q, q = Value.slice la2 (m + 1) lc2 := ⟨_, rfl⟩
                    rw [← e75] at hRI
                    rw [← e65, ← e69, ← e74, ← e75]
                    first | exact ⟨rfl, v65, v69, v74, v75, ⟨hRI, hB⟩, rfl⟩ | exact ⟨rfl, ⟨hRI, hB⟩, v65, v69, v74, v75, rfl⟩
                  · go_wp2_with (fail)
                    (try dsimp only)
                    obtain ⟨e3, ev⟩ : ∃ q, q = e1.alloc (.cells #[.int .i64 y] 3) := ⟨_, rfl⟩
                    rw [← ev]
                    have bX : Below e1.heap.size e1 e3 := (by rw [ev]; exact bel_alloc e1 _)
                    have hq : e3.heap[e1.heap.size]? = some (.cells #[.int .i64 y] 3) := (by rw [ev]; exact hp_new e1 _)
                    replace ho0 := ownsRow_from ho0 (From.of_below bX)
                    replace hB := hB.trans (bX.mono hB.size)
                    obtain ⟨q2, eq2⟩ : ∃ q, q = e1.heap.size := ⟨_, rfl⟩
                    have hne : q1 < e1.heap.size := hq1'
                    rw [← eq2] at hne
                    rw [← eq2] at hq ⊢
                    have hq2' := hp_lt hq
                    clear ev eq2 bX
                    refine ⟨(hB.cell (p := ⟨kb, koff + k, none⟩) hkbl).trans ck, ?_⟩
                    refine anyH_1 4 rfl (by kernel_rfl) rfl ?_
                    refine wp_append_any _ _ 59 rfl wj.heap.size 3 i0 (.int .i64 0) 1 8 Try.underlying59 hi hq0 hq1 hq2 rfl (by decide) (.slice (some ⟨q1, 0, none⟩) 0 0) 0 [] rfl ho0 va m vc ((P.take m).map (Value.int .i64)) rfl (by simp [hmP]) (ins_src1 (HRI.out.below hB) hmP) (ints_one' _) (by unfold maxLen; omega) (by omega) hB.size ?_
                    intro v1 e2 hown hgr hat
                    rw [Nat.zero_add] at hown
                    obtain ⟨la1, lc1, rfl⟩ := own_form hown
                    have hq3 := hp_lt hq
                    replace hq := cp_grown hq hgr (fun e => by simp [Value.ownBlock] at e; omega)
                    have hr1 : ∀ b, (Value.slice la1 m lc1).ownBlock = some b → b ≠ q2 := fun b hb => (by rcases hat with h | h <;> (rw [h] at hb; simp [Value.ownBlock] at hb; omega))
                    replace hB : Below wj.heap.size wj e2 := hB.grown hgr hB.size (fun q hq => by have := (World.ownsRow.lt ho0 q hq).1; omega)
                    have ho1 := hown
                    have hl1 := fun b hb => (World.ownsRow.lt ho1 b hb).2
                    clear hown hgr hat ho0
                    simp only [Act.put, List.setIfInBounds_toArray, List.set_cons_zero, List.set_cons_succ]
                    refine ⟨(hB.cell (p := ⟨kb, koff + k, none⟩) hkbl).trans ck, ?_⟩
                    refine anyH_1 10 rfl (by kernel_rfl) rfl ?_
                    have hn := World.news_of_block hq
                    refine wp_append_any _ _ 59 rfl wj.heap.size 3 i0 (.int .i64 0) 1 8 Try.underlying59 hi hq0 hq1 hq2 rfl (by decide) (.slice la1 m lc1) m _ rfl ho1 (some ⟨q2, 0, none⟩) 1 1 [.int .i64 y] rfl rfl (Or.inr ⟨_, rfl, hn⟩) (by simp; rfl) (by unfold maxLen; omega) (by omega) hB.size ?_
                    intro v2 e4 hown hgr _
                    obtain ⟨la2, lc2, rfl⟩ := own_form hown
                    replace hB : Below wj.heap.size wj e4 := hB.grown hgr hB.size (fun q hq => (World.ownsRow.lt ho1 q hq).1)
                    clear hgr hq hn ho1
                    simp only [Act.put, List.setIfInBounds_toArray, List.set_cons_zero, List.set_cons_succ]
                    refine ⟨(hB.cell (p := ⟨kb, koff + k, none⟩) hkbl).trans ck, ?_⟩
                    refine anyH_1 11 rfl (by kernel_rfl) rfl ?_
                    go_wp2_with (fail)
                    (try dsimp only)
                    refine ⟨(hB.cell (p := ⟨kb, koff + k, none⟩) hkbl).trans ck, ?_⟩
                    refine wpAnyH_done (by kernel_rfl) ?_ _
                    have hRI : RowI wj.heap.size (.slice la2 (m + 1) lc2) (P.take m ++ [y]) e4 := (by unfold RowI; simpa [hmP, Nat.min_eq_left hmP] using hown)
                    obtain ⟨v65, e65⟩ : ∃ q, q = Value.slice (some ⟨q1, 0, none⟩) 0 0 := ⟨_, rfl⟩
                    obtain ⟨v69, e69⟩ : ∃ q, q = Value.slice la1 m lc1 := ⟨_, rfl⟩
                    obtain ⟨v74, e74⟩ : ∃ q, q = Value.slice (some ⟨q2, 0, none⟩) 1 1 := ⟨_, rfl⟩
                    obtain ⟨v75, e75⟩ : ∃ q, q = Value.slice la2 (m + 1) lc2 := ⟨_, rfl⟩
                    rw [← e75] at hRI
                    rw [← e65, ← e69, ← e74, ← e75]
                    first | exact ⟨rfl, v65, v69, v74, v75, ⟨hRI, hB⟩, rfl⟩ | exact ⟨rfl, ⟨hRI, hB⟩, v65, v69, v74, v75, rfl⟩
                · go_wp2_with (fail)
                  (try dsimp only)
                  obtain ⟨e3, ev⟩ : ∃ q, q = d.alloc (.cells #[.int .i64 y] 3) := ⟨_, rfl⟩
                  rw [← ev]
                  have bX : Below d.heap.size d e3 := (by rw [ev]; exact bel_alloc d _)
                  have hq : e3.heap[d.heap.size]? = some (.cells #[.int .i64 y] 3) := (by rw [ev]; exact hp_new d _)
                  replace hB := hB.trans (bX.mono hB.size)
                  obtain ⟨q2, eq2⟩ : ∃ q, q = d.heap.size := ⟨_, rfl⟩
                  rw [← eq2] at hq ⊢
                  have hq2' := hp_lt hq
                  clear ev eq2 bX
                  refine ⟨(hB.cell (p := ⟨kb, koff + k, none⟩) hkbl).trans ck, ?_⟩
                  refine anyH_1 0 rfl (by kernel_rfl) rfl ?_
                  go_wp2_with (fail)
                  (try dsimp only)
                  obtain ⟨e1, ev⟩ : ∃ q, q = e3.alloc (.cells #[] 3) := ⟨_, rfl⟩
                  rw [← ev]
                  have bX : Below e3.heap.size e3 e1 := (by rw [ev]; exact bel_alloc e3 _)
                  have ho0 : e1.ownsRow wj.heap.size 3 1 (.slice (some ⟨e3.heap.size, 0, none⟩) 0 0) 0 [] := (by rw [ev]; exact ownsRow_lower (World.ownsRow_lit e3 #[] 0 (Nat.le_refl _) (by unfold maxLen; omega) rfl) hB.size)
                  replace hq := hp_below hq bX
                  replace hB := hB.trans (bX.mono hB.size)
                  obtain ⟨q1, eq1⟩ : ∃ q, q = e3.heap.size := ⟨_, rfl⟩
                  have hq2l : q2 < e3.heap.size := hq2'
                  rw [← eq1] at ho0 hq2l ⊢
                  have hq1' := (World.ownsRow.lt ho0 q1 rfl).2
                  have hne : q2 ≠ q1 := (by omega)
                  clear ev eq1 bX
                  refine ⟨(hB.cell (p := ⟨kb, koff + k, none⟩) hkbl).trans ck, ?_⟩
                  refine anyH_1 4 rfl (by kernel_rfl) rfl ?_
                  refine wp_append_any _ _ 59 rfl wj.heap.size 3 i0 (.int .i64 0) 1 8 Try.underlying59 hi hq0 hq1 hq2 rfl (by decide) (.slice (some ⟨q1, 0, none⟩) 0 0) 0 [] rfl ho0 va m vc ((P.take m).map (Value.int .i64)) rfl (by simp [hmP]) (ins_src1 (HRI.out.below hB) hmP) (ints_one' _) (by unfold maxLen; omega) (by omega) hB.size ?_
                  intro v1 e2 hown hgr hat
                  rw [Nat.zero_add] at hown
                  obtain ⟨la1, lc1, rfl⟩ := own_form hown
                  have hq3 := hp_lt hq
                  replace hq := cp_grown hq hgr (fun e => by simp [Value.ownBlock] at e; omega)
                  have hr1 : ∀ b, (Value.slice la1 m lc1).ownBlock = some b → b ≠ q2 := fun b hb => (by rcases hat with h | h <;> (rw [h] at hb; simp [Value.ownBlock] at hb; omega))
                  replace hB : Below wj.heap.size wj e2 := hB.grown hgr hB.size (fun q hq => by have := (World.ownsRow.lt ho0 q hq).1; omega)
                  have ho1 := hown
                  have hl1 := fun b hb => (World.ownsRow.lt ho1 b hb).2
                  clear hown hgr hat ho0
                  simp only [Act.put, List.setIfInBounds_toArray, List.set_cons_zero, List.set_cons_succ]
                  refine ⟨(hB.cell (p := ⟨kb, koff + k, none⟩) hkbl).trans ck, ?_⟩
                  refine anyH_1 10 rfl (by kernel_rfl) rfl ?_
                  have hn := World.news_of_block hq
                  refine wp_append_any _ _ 59 rfl wj.heap.size 3 i0 (.int .i64 0) 1 8 Try.underlying59 hi hq0 hq1 hq2 rfl (by decide) (.slice la1 m lc1) m _ rfl ho1 (some ⟨q2, 0, none⟩) 1 1 [.int .i64 y] rfl rfl (Or.inr ⟨_, rfl, hn⟩) (by simp; rfl) (by unfold maxLen; omega) (by omega) hB.size ?_
                  intro v2 e4 hown hgr _
                  obtain ⟨la2, lc2, rfl⟩ := own_form hown
                  replace hB : Below wj.heap.size wj e4 := hB.grown hgr hB.size (fun q hq => (World.ownsRow.lt ho1 q hq).1)
                  clear hgr hq hn ho1
                  simp only [Act.put, List.setIfInBounds_toArray, List.set_cons_zero, List.set_cons_succ]
                  refine ⟨(hB.cell (p := ⟨kb, koff + k, none⟩) hkbl).trans ck, ?_⟩
                  refine anyH_1 11 rfl (by kernel_rfl) rfl ?_
                  go_wp2_with (fail)
                  (try dsimp only)
                  refine ⟨(hB.cell (p := ⟨kb, koff + k, none⟩) hkbl).trans ck, ?_⟩
                  refine wpAnyH_done (by kernel_rfl) ?_ _
                  have hRI : RowI wj.heap.size (.slice la2 (m + 1) lc2) (P.take m ++ [y]) e4 := (by unfold RowI; simpa [hmP, Nat.min_eq_left hmP] using hown)
                  obtain ⟨v65, e65⟩ : ∃ q, q = Value.slice (some ⟨q1, 0, none⟩) 0 0 := ⟨_, rfl⟩
                  obtain ⟨v69, e69⟩ : ∃ q, q = Value.slice la1 m lc1 := ⟨_, rfl⟩
                  obtain ⟨v74, e74⟩ : ∃ q, q = Value.slice (some ⟨q2, 0, none⟩) 1 1 := ⟨_, rfl⟩
                  obtain ⟨v75, e75⟩ : ∃ q, q = Value.slice la2 (m + 1) lc2 := ⟨_, rfl⟩
                  rw [← e75] at hRI
                  rw [← e65, ← e69, ← e74, ← e75]
                  first | exact ⟨rfl, v65, v69, v74, v75, ⟨hRI, hB⟩, rfl⟩ | exact ⟨rfl, ⟨hRI, hB⟩, v65, v69, v74, v75, rfl⟩
              intro v65 v69 v74 v75 w6 hF
              obtain ⟨hR6, hB6⟩ := hF
              have HR6 := Lib.hid hR6
              have HB6 := Lib.hid hB6
              have HRI6 := Lib.hid (HRI.out.below hB6)
              have htl : (P.take m ++ [y]).length = m + 1 := by simp; omega
              clear hR6 hB6 ck
              go_wp2_with (first
                | ((with_reducible apply list_sl_l); exact rfl; exact rfl; exact rfl; exact rfl; exact hmP; simp only [Act.put, List.setIfInBounds_toArray, List.set_cons_succ, List.set_cons_zero])
                | (refine list_append_any rfl _ _ 59 rfl wj.heap.size 3 i0 (.int .i64 0) 1 8 Try.underlying59 hi hq0 hq1 hq2 rfl (by decide) _ _ _ rfl HR6.out _ _ _ ((P.drop m).map (Value.int .i64)) rfl (by simp) (ins_src2 HRI6.out hmP hcap) (ints_one' _) ?c3 ?c4 HB6.out.size ?_)
                | fail)
              case c3 => unfold maxLen; omega
              case c4 => omega
              intro v' w7 hown3 hgr _
              have B7 := Lib.hid (HB5.out.trans ((HBQ.out.trans ((HB6.out.grown hgr HB6.out.size (fun q hq => (World.ownsRow.lt HR6.out q hq).1)).mono HBQ.out.size)).mono HB5.out.size))
              have R7 := Lib.hid (show RowI u.heap.size v' (srt (ordK ns) (fK ns 0 (zs.take (k + 1)))) w7 by
                rw [HSN.out, HJ.out]
                refine ownR_le2 (b := wj.heap.size) ?_ (by have h1 := HBQ.out.size; have h2 := HB5.out.size; omega)
                unfold RowI insA
                simpa [hmP, Nat.min_eq_left hmP, Nat.add_assoc, Nat.add_comm 1] using hown3)
              clear hown3 hgr
              go_wp2
              go_roundw
              case rel => exact ⟨k + 1, by omega, by go_num, R7.out, B7.out⟩
              case measure => simp [intOf]; omega
            · obtain ⟨q, hq⟩ : ∃ q, m = q + 1 := ⟨m - 1, by omega⟩
              have hd : (0 : Int) < (m : Int) := by omega
              have hm1 : (m : Int) - 1 = (q : Int) := by omega
              have hql : (0 : Int) ≤ (q : Int) := Int.natCast_nonneg _
              have hqP : q < P.length := by omega
              have hqh : (q : Int) < (P.length : Int) := by omega
              have hJ0 : insJ (ordK ns) P y m = if ordK ns y < ordK ns (P.getD q 0) then insJ (ordK ns) P y q else m := by rw [hq]; rfl
              have hyin : nIn ns.length (P.getD q 0) = true := by
                rw [List.getD_eq_getElem?_getD, List.getElem?_eq_getElem hqP]
                exact HPI.out _ (List.getElem_mem hqP)
              have hrj := RowI.below HO5.out HBJ.out
              obtain ⟨va', vc', ev, hrs⟩ := RowI.slice hrj HPA.out
              simp at ev
              obtain ⟨rfl, rfl⟩ := ev
              obtain ⟨rb, roff, rfl, _, cp⟩ := hrs.look hqP
              obtain ⟨kv2, tv2, hnd2⟩ := sl10ndF (cap := cap) (HZ.out.below (HB5.out.trans (HBJ.out.mono HB5.out.size))) hnl hyin
              have HND2 := Lib.hid hnd2
              have c8 := sty_int (hp_below HS5.out HBJ.out) 8 (by decide)
              have hox : ordK ns (P.getD q 0) = (ndAt ns (P.getD q 0)).sty 8 := rfl
              generalize P.getD q 0 = x at *
              have FS2 := Lib.hid (fun w => fldSty (ndAt ns x).up kv2 (ndAt ns x).sty (ndAt ns x).meas tv2 w)
              have FO2 := Lib.hid (fun w => fldOrd (ndAt ns x).sty w)
              rw [← hox] at FO2
              rw [← HOY.out] at c8
              have HJ0 := Lib.hid hJ0
              have r0 := fun d os => cell_regrown c0 d os
              have r1 := fun d os => cell_regrown cp d os
              have r2 := fun d os => cell_regrown c8 d os
              clear hrj hrs hnd2 hyin hox hJ0 c0 cp c8 hq
              generalize ordK ns x = ox at *
              generalize ordK ns y = oy at *
              by_cases hlt2 : oy < ox
              · have hJ1 := HJ0.out
                rw [if_pos hlt2] at hJ1
                have HJ1 := Lib.hid hJ1
                clear hJ1
                go_wp2_with (fail)
                refine wp_region_quiet_below (by kernel_rfl) (by kernel_rfl) ?_
                (try simp only [List.append_eq, List.cons_append, List.nil_append])
                repeat (first
                  | (go_big_quiet_want; (with_reducible apply quiet_field); exact rfl; exact rfl; (with_reducible exact FS2.out); simp only [Act.put, List.setIfInBounds_toArray, List.set_cons_succ, List.set_cons_zero]; go_big_quiet_on)
                  | (go_big_quiet_want; (with_reducible apply quiet_field); exact rfl; exact rfl; (with_reducible exact FO2.out); simp only [Act.put, List.setIfInBounds_toArray, List.set_cons_succ, List.set_cons_zero]; go_big_quiet_on)
                  | go_big_quiet_step (first
                    | (go_at_call 70; exact Calls.regrown_of (HND2.out _ (below_regrown wr _ _)))
                    | fail))
                refine wpQuiet_nil ?_
                intro _ hw'
                obtain ⟨⟨dq, osq⟩, hw''⟩ := hw'
                subst hw''
                have hbq := below_regrown wr dq osq
                have HBQ := Lib.hid (HBJ.out.trans (hbq.mono HBJ.out.size))
                generalize Sort.grow (redrawn wr dq) osq = wj at *
                clear hbq r0 r1 r2
                go_wp2
                go_roundw
                case rel => exact ⟨q, by omega, rfl, by rw [HIN.out]; exact HJ1.out, HBQ.out⟩
                case measure => simp [intOf] <;> omega
              · have hJ1 := HJ0.out
                rw [if_neg hlt2] at hJ1
                have HJ := Lib.hid (HIN.out.trans hJ1)
                have hle2 : ox ≤ oy := by omega
                clear hJ1 hlt2
                go_wp2_with (fail)
                refine wp_region_quiet_below (by kernel_rfl) (by kernel_rfl) ?_
                (try simp only [List.append_eq, List.cons_append, List.nil_append])
                repeat (first
                  | (go_big_quiet_want; (with_reducible apply quiet_field); exact rfl; exact rfl; (with_reducible exact FS2.out); simp only [Act.put, List.setIfInBounds_toArray, List.set_cons_succ, List.set_cons_zero]; go_big_quiet_on)
                  | (go_big_quiet_want; (with_reducible apply quiet_field); exact rfl; exact rfl; (with_reducible exact FO2.out); simp only [Act.put, List.setIfInBounds_toArray, List.set_cons_succ, List.set_cons_zero]; go_big_quiet_on)
                  | go_big_quiet_step (first
                    | (go_at_call 70; exact Calls.regrown_of (HND2.out _ (below_regrown wr _ _)))
                    | fail))
                refine wpQuiet_nil ?_
                intro _ hw'
                obtain ⟨⟨dq, osq⟩, hw''⟩ := hw'
                subst hw''
                have hbq := below_regrown wr dq osq
                have HBQ := Lib.hid (HBJ.out.trans (hbq.mono HBJ.out.size))
                generalize Sort.grow (redrawn wr dq) osq = wj at *
                clear hbq r0 r1 r2
                have ck := (HBQ.out.cell (p := ⟨kb, koff + k, none⟩) (World.block_lt_of_cell? _ _ CK5.out)).trans CK5.out
                have hkbl := World.block_lt_of_cell? _ _ ck
                obtain ⟨va', vc', ev, hri⟩ := RowI.slice (RowI.below HO5.out HBQ.out) HPA.out
                simp at ev
                obtain ⟨rfl, rfl⟩ := ev
                have HRI := Lib.hid hri
                have hcap : P.length ≤ vc := by
                  rcases HO5.out.2 with ⟨h1, h2⟩ | ⟨g, cap', cur, h1, _, _, hnc, _⟩
                  · omega
                  · simp at h1; omega
                clear hri
                go_wp2_with (fail)
                refine reg_key (fun (v65 v69 v74 v75 : Value) w' => RowI wj.heap.size v75 (P.take m ++ [y]) w' ∧ Below wj.heap.size wj w') ?_
                apply Exists.intro
                refine ⟨?pB, ?sB⟩
                case pB =>
                  refine wp_region_held_drew (S := fun w' => w'.cell? ⟨kb, koff + k, none⟩ = some (.int .i64 y)) (by kernel_rfl) ck (fun hHeld => ?_)
                  refine wpAnyH_take (i := 1) (oi := ⟨some 66, Op.move (Operand.tmp 5), _, _, _, _⟩) (v := .slice (some ⟨rb, roff, none⟩) P.length vc) rfl (by kernel_rfl) (by kernel_rfl) (by kernel_rfl) (fun _ _ _ h => by cases h.1) (Or.inl ⟨by rfl, fun W hW => by (try dsimp only at hW); go_simp <;> with_reducible rfl⟩) hHeld ?_
                  simp only [World.size_alloc, Act.put, List.setIfInBounds_toArray, List.set_cons_succ, List.set_cons_zero]
                  refine wpAnyH_take (i := 2) (oi := ⟨some 67, Op.move (Operand.tmp 9), _, _, _, _⟩) (v := .int .i64 (m : Int)) rfl (by kernel_rfl) (by kernel_rfl) (by kernel_rfl) (fun _ _ _ h => by cases h.1) (Or.inl ⟨by rfl, fun W hW => by (try dsimp only at hW); go_simp <;> with_reducible rfl⟩) hHeld ?_
                  simp only [World.size_alloc, Act.put, List.setIfInBounds_toArray, List.set_cons_succ, List.set_cons_zero]
                  refine wpAnyH_take (i := 3) (oi := ⟨some 68, Op.slice 59 (Operand.tmp 66) none (some (Operand.tmp 67)) none, _, _, _, _⟩) (v := .slice (some ⟨rb, roff, none⟩) m vc) rfl (by kernel_rfl) (by kernel_rfl) (by kernel_rfl) (fun _ _ _ h => by cases h.1) (Or.inl ⟨by rfl, fun W hW => by have h := run_sl_h (some ⟨rb, roff, none⟩) P.length vc m W (by omega); unfold execOp; simp only [Sem.run_bind, Option.map]; rw [show (Act.eval _ (Operand.tmp 66)) = Value.slice (some ⟨rb, roff, none⟩) P.length vc from rfl, show (Act.eval _ (Operand.tmp 67)) = Value.int .i64 (m : Int) from rfl, h]; rfl⟩) hHeld ?_
                  simp only [World.size_alloc, Act.put, List.setIfInBounds_toArray, List.set_cons_succ, List.set_cons_zero]
                  refine wpAnyH_take (i := 5) (oi := ⟨some 70, Op.move (Operand.tmp 6), _, _, _, _⟩) (v := .slice (some ⟨kb, koff, none⟩) zs.length kc) rfl (by kernel_rfl) (by kernel_rfl) (by kernel_rfl) (fun _ _ _ h => by cases h.1) (Or.inl ⟨by rfl, fun W hW => by (try dsimp only at hW); go_simp <;> with_reducible rfl⟩) hHeld ?_
                  simp only [World.size_alloc, Act.put, List.setIfInBounds_toArray, List.set_cons_succ, List.set_cons_zero]
                  refine wpAnyH_take (i := 6) (oi := ⟨some 71, Op.move (Operand.tmp 7), _, _, _, _⟩) (v := .int .i64 (k : Int)) rfl (by kernel_rfl) (by kernel_rfl) (by kernel_rfl) (fun _ _ _ h => by cases h.1) (Or.inl ⟨by rfl, fun W hW => by (try dsimp only at hW); go_simp <;> with_reducible rfl⟩) hHeld ?_
                  simp only [World.size_alloc, Act.put, List.setIfInBounds_toArray, List.set_cons_succ, List.set_cons_zero]
                  refine wpAnyH_take (i := 7) (oi := ⟨some 72, Op.indexAddr 59 (Operand.tmp 70) (Operand.tmp 71), _, _, _, _⟩) (v := .pointer (some ⟨kb, koff + k, none⟩)) rfl (by kernel_rfl) (by kernel_rfl) (by kernel_rfl) (fun _ _ _ h => by cases h.1) (Or.inl ⟨by rfl, fun W hW => by (try dsimp only at hW); go_simp <;> with_reducible rfl⟩) hHeld ?_
                  simp only [World.size_alloc, Act.put, List.setIfInBounds_toArray, List.set_cons_succ, List.set_cons_zero]
                  refine wpAnyH_take (i := 8) (oi := ⟨some 73, Op.load 3 (Operand.tmp 72), _, _, _, _⟩) (v := .int .i64 y) rfl (by kernel_rfl) (by kernel_rfl) (by kernel_rfl) (fun _ _ _ h => by cases h.1) (Or.inl ⟨by rfl, fun W hW => by (try dsimp only at hW); go_simp <;> with_reducible rfl⟩) hHeld ?_
                  simp only [World.size_alloc, Act.put, List.setIfInBounds_toArray, List.set_cons_succ, List.set_cons_zero]
                  obtain ⟨d, ed⟩ : ∃ d, d = wj.drew := ⟨_, rfl⟩
                  rw [← ed]
                  have hB : Below wj.heap.size wj d := (by rw [ed]; exact (Below.refl wj.heap.size wj).drew)
                  clear ed hHeld
                  refine anyH_2 0 9 rfl rfl (by kernel_rfl) rfl rfl ?_ ?_
                  · go_wp2_with (fail)
                    (try dsimp only)
                    obtain ⟨e1, ev⟩ : ∃ q, q = d.alloc (.cells #[] 3) := ⟨_, rfl⟩
                    rw [← ev]
                    have bX : Below d.heap.size d e1 := (by rw [ev]; exact bel_alloc d _)
                    have ho0 : e1.ownsRow wj.heap.size 3 1 (.slice (some ⟨d.heap.size, 0, none⟩) 0 0) 0 [] := (by rw [ev]; exact ownsRow_lower (World.ownsRow_lit d #[] 0 (Nat.le_refl _) (by unfold maxLen; omega) rfl) hB.size)
                    
                    replace hB := hB.trans (bX.mono hB.size)
                    obtain ⟨q1, eq1⟩ : ∃ q, q = d.heap.size := ⟨_, rfl⟩
                    rw [← eq1] at ho0 ⊢
                    have hq1' := (World.ownsRow.lt ho0 q1 rfl).2
                    
                    clear ev eq1 bX
                    refine ⟨(hB.cell (p := ⟨kb, koff + k, none⟩) hkbl).trans ck, ?_⟩
                    refine anyH_2 4 9 rfl rfl (by kernel_rfl) rfl rfl ?_ ?_
                    · refine wp_append_any _ _ 59 rfl wj.heap.size 3 i0 (.int .i64 0) 1 8 Try.underlying59 hi hq0 hq1 hq2 rfl (by decide) (.slice (some ⟨q1, 0, none⟩) 0 0) 0 [] rfl ho0 (some ⟨rb, roff, none⟩) m vc ((P.take m).map (Value.int .i64)) rfl (by simp [hmP]) (ins_src1 (HRI.out.below hB) hmP) (ints_one' _) (by unfold maxLen; omega) (by omega) hB.size ?_
                      intro v1 e2 hown hgr hat
                      rw [Nat.zero_add] at hown
                      obtain ⟨la1, lc1, rfl⟩ := own_form hown
                      replace hB : Below wj.heap.size wj e2 := hB.grown hgr hB.size (fun q hq => by have := (World.ownsRow.lt ho0 q hq).1; omega)
                      have ho1 := hown
                      have hl1 := fun b hb => (World.ownsRow.lt ho1 b hb).2
                      clear hown hgr hat ho0
                      simp only [Act.put, List.setIfInBounds_toArray, List.set_cons_zero, List.set_cons_succ]
                      refine ⟨(hB.cell (p := ⟨kb, koff + k, none⟩) hkbl).trans ck, ?_⟩
                      refine anyH_1 9 rfl (by kernel_rfl) rfl ?_
                      go_wp2_with (fail)
                      (try dsimp only)
                      obtain ⟨e3, ev⟩ : ∃ q, q = e2.alloc (.cells #[.int .i64 y] 3) := ⟨_, rfl⟩
                      rw [← ev]
                      have bX : Below e2.heap.size e2 e3 := (by rw [ev]; exact bel_alloc e2 _)
                      have hq : e3.heap[e2.heap.size]? = some (.cells #[.int .i64 y] 3) := (by rw [ev]; exact hp_new e2 _)
                      replace ho1 := ownsRow_from ho1 (From.of_below bX)
                      replace hB := hB.trans (bX.mono hB.size)
                      obtain ⟨q2, eq2⟩ : ∃ q, q = e2.heap.size := ⟨_, rfl⟩
                      have hr1 : ∀ b, (Value.slice la1 m lc1).ownBlock = some b → b ≠ e2.heap.size := fun b hb => (by have := (hl1 b hb); omega)
                      rw [← eq2] at hr1
                      rw [← eq2] at hq ⊢
                      have hq2' := hp_lt hq
                      clear ev eq2 bX
                      refine ⟨(hB.cell (p := ⟨kb, koff + k, none⟩) hkbl).trans ck, ?_⟩
                      refine anyH_1 10 rfl (by kernel_rfl) rfl ?_
                      have hn := World.news_of_block hq
                      refine wp_append_any _ _ 59 rfl wj.heap.size 3 i0 (.int .i64 0) 1 8 Try.underlying59 hi hq0 hq1 hq2 rfl (by decide) (.slice la1 m lc1) m _ rfl ho1 (some ⟨q2, 0, none⟩) 1 1 [.int .i64 y] rfl rfl (Or.inr ⟨_, rfl, hn⟩) (by simp; rfl) (by unfold maxLen; omega) (by omega) hB.size ?_
                      intro v2 e4 hown hgr _
                      obtain ⟨la2, lc2, rfl⟩ := own_form hown
                      replace hB : Below wj.heap.size wj e4 := hB.grown hgr hB.size (fun q hq => (World.ownsRow.lt ho1 q hq).1)
                      clear hgr hq hn ho1
                      simp only [Act.put, List.setIfInBounds_toArray, List.set_cons_zero, List.set_cons_succ]
                      refine ⟨(hB.cell (p := ⟨kb, koff + k, none⟩) hkbl).trans ck, ?_⟩
                      refine anyH_1 11 rfl (by kernel_rfl) rfl ?_
                      go_wp2_with (fail)
                      (try dsimp only)
                      refine ⟨(hB.cell (p := ⟨kb, koff + k, none⟩) hkbl).trans ck, ?_⟩
                      refine wpAnyH_done (by kernel_rfl) ?_ _
                      have hRI : RowI wj.heap.size (.slice la2 (m + 1) lc2) (P.take m ++ [y]) e4 := (by unfold RowI; simpa [hmP, Nat.min_eq_left hmP] using hown)
                      obtain ⟨v65, e65⟩ : ∃ q, q = Value.slice (some ⟨q1, 0, none⟩) 0 0 := ⟨_, rfl⟩
                      obtain ⟨v69, e69⟩ : ∃ q, q = Value.slice la1 m lc1 := ⟨_, rfl⟩
                      obtain ⟨v74, e74⟩ : ∃ q, q = Value.slice (some ⟨q2, 0, none⟩) 1 1 := ⟨_, rfl⟩
                      obtain ⟨v75, e75⟩ : ∃ q, q = Value.slice la2 (m + 1) lc2 := ⟨_, rfl⟩
                      rw [← e75] at hRI
                      rw [← e65, ← e69, ← e74, ← e75]
                      first | exact ⟨rfl, v65, v69, v74, v75, ⟨hRI, hB⟩, rfl⟩ | exact ⟨rfl, ⟨hRI, hB⟩, v65, v69, v74, v75, rfl⟩
                    · go_wp2_with (fail)
                      (try dsimp only)
                      obtain ⟨e3, ev⟩ : ∃ q, q = e1.alloc (.cells #[.int .i64 y] 3) := ⟨_, rfl⟩
                      rw [← ev]
                      have bX : Below e1.heap.size e1 e3 := (by rw [ev]; exact bel_alloc e1 _)
                      have hq : e3.heap[e1.heap.size]? = some (.cells #[.int .i64 y] 3) := (by rw [ev]; exact hp_new e1 _)
                      replace ho0 := ownsRow_from ho0 (From.of_below bX)
                      replace hB := hB.trans (bX.mono hB.size)
                      obtain ⟨q2, eq2⟩ : ∃ q, q = e1.heap.size := ⟨_, rfl⟩
                      have hne : q1 < e1.heap.size := hq1'
                      rw [← eq2] at hne
                      rw [← eq2] at hq ⊢
                      have hq2' := hp_lt hq
                      clear ev eq2 bX
                      refine ⟨(hB.cell (p := ⟨kb, koff + k, none⟩) hkbl).trans ck, ?_⟩
                      refine anyH_1 4 rfl (by kernel_rfl) rfl ?_
                      refine wp_append_any _ _ 59 rfl wj.heap.size 3 i0 (.int .i64 0) 1 8 Try.underlying59 hi hq0 hq1 hq2 rfl (by decide) (.slice (some ⟨q1, 0, none⟩) 0 0) 0 [] rfl ho0 (some ⟨rb, roff, none⟩) m vc ((P.take m).map (Value.int .i64)) rfl (by simp [hmP]) (ins_src1 (HRI.out.below hB) hmP) (ints_one' _) (by unfold maxLen; omega) (by omega) hB.size ?_
                      intro v1 e2 hown hgr hat
                      rw [Nat.zero_add] at hown
                      obtain ⟨la1, lc1, rfl⟩ := own_form hown
                      have hq3 := hp_lt hq
                      replace hq := cp_grown hq hgr (fun e => by simp [Value.ownBlock] at e; omega)
                      have hr1 : ∀ b, (Value.slice la1 m lc1).ownBlock = some b → b ≠ q2 := fun b hb => (by rcases hat with h | h <;> (rw [h] at hb; simp [Value.ownBlock] at hb; omega))
                      replace hB : Below wj.heap.size wj e2 := hB.grown hgr hB.size (fun q hq => by have := (World.ownsRow.lt ho0 q hq).1; omega)
                      have ho1 := hown
                      have hl1 := fun b hb => (World.ownsRow.lt ho1 b hb).2
                      clear hown hgr hat ho0
                      simp only [Act.put, List.setIfInBounds_toArray, List.set_cons_zero, List.set_cons_succ]
                      refine ⟨(hB.cell (p := ⟨kb, koff + k, none⟩) hkbl).trans ck, ?_⟩
                      refine anyH_1 10 rfl (by kernel_rfl) rfl ?_
                      have hn := World.news_of_block hq
                      refine wp_append_any _ _ 59 rfl wj.heap.size 3 i0 (.int .i64 0) 1 8 Try.underlying59 hi hq0 hq1 hq2 rfl (by decide) (.slice la1 m lc1) m _ rfl ho1 (some ⟨q2, 0, none⟩) 1 1 [.int .i64 y] rfl rfl (Or.inr ⟨_, rfl, hn⟩) (by simp; rfl) (by unfold maxLen; omega) (by omega) hB.size ?_
                      intro v2 e4 hown hgr _
                      obtain ⟨la2, lc2, rfl⟩ := own_form hown
                      replace hB : Below wj.heap.size wj e4 := hB.grown hgr hB.size (fun q hq => (World.ownsRow.lt ho1 q hq).1)
                      clear hgr hq hn ho1
                      simp only [Act.put, List.setIfInBounds_toArray, List.set_cons_zero, List.set_cons_succ]
                      refine ⟨(hB.cell (p := ⟨kb, koff + k, none⟩) hkbl).trans ck, ?_⟩
                      refine anyH_1 11 rfl (by kernel_rfl) rfl ?_
                      go_wp2_with (fail)
                      (try dsimp only)
                      refine ⟨(hB.cell (p := ⟨kb, koff + k, none⟩) hkbl).trans ck, ?_⟩
                      refine wpAnyH_done (by kernel_rfl) ?_ _
                      have hRI : RowI wj.heap.size (.slice la2 (m + 1) lc2) (P.take m ++ [y]) e4 := (by unfold RowI; simpa [hmP, Nat.min_eq_left hmP] using hown)
                      obtain ⟨v65, e65⟩ : ∃ q, q = Value.slice (some ⟨q1, 0, none⟩) 0 0 := ⟨_, rfl⟩
                      obtain ⟨v69, e69⟩ : ∃ q, q = Value.slice la1 m lc1 := ⟨_, rfl⟩
                      obtain ⟨v74, e74⟩ : ∃ q, q = Value.slice (some ⟨q2, 0, none⟩) 1 1 := ⟨_, rfl⟩
                      obtain ⟨v75, e75⟩ : ∃ q, q = Value.slice la2 (m + 1) lc2 := ⟨_, rfl⟩
                      rw [← e75] at hRI
                      rw [← e65, ← e69, ← e74, ← e75]
                      first | exact ⟨rfl, v65, v69, v74, v75, ⟨hRI, hB⟩, rfl⟩ | exact ⟨rfl, ⟨hRI, hB⟩, v65, v69, v74, v75, rfl⟩
                  · go_wp2_with (fail)
                    (try dsimp only)
                    obtain ⟨e3, ev⟩ : ∃ q, q = d.alloc (.cells #[.int .i64 y] 3) := ⟨_, rfl⟩
                    rw [← ev]
                    have bX : Below d.heap.size d e3 := (by rw [ev]; exact bel_alloc d _)
                    have hq : e3.heap[d.heap.size]? = some (.cells #[.int .i64 y] 3) := (by rw [ev]; exact hp_new d _)
                    replace hB := hB.trans (bX.mono hB.size)
                    obtain ⟨q2, eq2⟩ : ∃ q, q = d.heap.size := ⟨_, rfl⟩
                    rw [← eq2] at hq ⊢
                    have hq2' := hp_lt hq
                    clear ev eq2 bX
                    refine ⟨(hB.cell (p := ⟨kb, koff + k, none⟩) hkbl).trans ck, ?_⟩
                    refine anyH_1 0 rfl (by kernel_rfl) rfl ?_
                    go_wp2_with (fail)
                    (try dsimp only)
                    obtain ⟨e1, ev⟩ : ∃ q, q = e3.alloc (.cells #[] 3) := ⟨_, rfl⟩
                    rw [← ev]
                    have bX : Below e3.heap.size e3 e1 := (by rw [ev]; exact bel_alloc e3 _)
                    have ho0 : e1.ownsRow wj.heap.size 3 1 (.slice (some ⟨e3.heap.size, 0, none⟩) 0 0) 0 [] := (by rw [ev]; exact ownsRow_lower (World.ownsRow_lit e3 #[] 0 (Nat.le_refl _) (by unfold maxLen; omega) rfl) hB.size)
                    replace hq := hp_below hq bX
                    replace hB := hB.trans (bX.mono hB.size)
                    obtain ⟨q1, eq1⟩ : ∃ q, q = e3.heap.size := ⟨_, rfl⟩
                    have hq2l : q2 < e3.heap.size := hq2'
                    rw [← eq1] at ho0 hq2l ⊢
                    have hq1' := (World.ownsRow.lt ho0 q1 rfl).2
                    have hne : q2 ≠ q1 := (by omega)
                    clear ev eq1 bX
                    refine ⟨(hB.cell (p := ⟨kb, koff + k, none⟩) hkbl).trans ck, ?_⟩
                    refine anyH_1 4 rfl (by kernel_rfl) rfl ?_
                    refine wp_append_any _ _ 59 rfl wj.heap.size 3 i0 (.int .i64 0) 1 8 Try.underlying59 hi hq0 hq1 hq2 rfl (by decide) (.slice (some ⟨q1, 0, none⟩) 0 0) 0 [] rfl ho0 (some ⟨rb, roff, none⟩) m vc ((P.take m).map (Value.int .i64)) rfl (by simp [hmP]) (ins_src1 (HRI.out.below hB) hmP) (ints_one' _) (by unfold maxLen; omega) (by omega) hB.size ?_
                    intro v1 e2 hown hgr hat
                    rw [Nat.zero_add] at hown
                    obtain ⟨la1, lc1, rfl⟩ := own_form hown
                    have hq3 := hp_lt hq
                    replace hq := cp_grown hq hgr (fun e => by simp [Value.ownBlock] at e; omega)
                    have hr1 : ∀ b, (Value.slice la1 m lc1).ownBlock = some b → b ≠ q2 := fun b hb => (by rcases hat with h | h <;> (rw [h] at hb; simp [Value.ownBlock] at hb; omega))
                    replace hB : Below wj.heap.size wj e2 := hB.grown hgr hB.size (fun q hq => by have := (World.ownsRow.lt ho0 q hq).1; omega)
                    have ho1 := hown
                    have hl1 := fun b hb => (World.ownsRow.lt ho1 b hb).2
                    clear hown hgr hat ho0
                    simp only [Act.put, List.setIfInBounds_toArray, List.set_cons_zero, List.set_cons_succ]
                    refine ⟨(hB.cell (p := ⟨kb, koff + k, none⟩) hkbl).trans ck, ?_⟩
                    refine anyH_1 10 rfl (by kernel_rfl) rfl ?_
                    have hn := World.news_of_block hq
                    refine wp_append_any _ _ 59 rfl wj.heap.size 3 i0 (.int .i64 0) 1 8 Try.underlying59 hi hq0 hq1 hq2 rfl (by decide) (.slice la1 m lc1) m _ rfl ho1 (some ⟨q2, 0, none⟩) 1 1 [.int .i64 y] rfl rfl (Or.inr ⟨_, rfl, hn⟩) (by simp; rfl) (by unfold maxLen; omega) (by omega) hB.size ?_
                    intro v2 e4 hown hgr _
                    obtain ⟨la2, lc2, rfl⟩ := own_form hown
                    replace hB : Below wj.heap.size wj e4 := hB.grown hgr hB.size (fun q hq => (World.ownsRow.lt ho1 q hq).1)
                    clear hgr hq hn ho1
                    simp only [Act.put, List.setIfInBounds_toArray, List.set_cons_zero, List.set_cons_succ]
                    refine ⟨(hB.cell (p := ⟨kb, koff + k, none⟩) hkbl).trans ck, ?_⟩
                    refine anyH_1 11 rfl (by kernel_rfl) rfl ?_
                    go_wp2_with (fail)
                    (try dsimp only)
                    refine ⟨(hB.cell (p := ⟨kb, koff + k, none⟩) hkbl).trans ck, ?_⟩
                    refine wpAnyH_done (by kernel_rfl) ?_ _
                    have hRI : RowI wj.heap.size (.slice la2 (m + 1) lc2) (P.take m ++ [y]) e4 := (by unfold RowI; simpa [hmP, Nat.min_eq_left hmP] using hown)
                    obtain ⟨v65, e65⟩ : ∃ q, q = Value.slice (some ⟨q1, 0, none⟩) 0 0 := ⟨_, rfl⟩
                    obtain ⟨v69, e69⟩ : ∃ q, q = Value.slice la1 m lc1 := ⟨_, rfl⟩
                    obtain ⟨v74, e74⟩ : ∃ q, q = Value.slice (some ⟨q2, 0, none⟩) 1 1 := ⟨_, rfl⟩
                    obtain ⟨v75, e75⟩ : ∃ q, q = Value.slice la2 (m + 1) lc2 := ⟨_, rfl⟩
                    rw [← e75] at hRI
                    rw [← e65, ← e69, ← e74, ← e75]
                    first | exact ⟨rfl, v65, v69, v74, v75, ⟨hRI, hB⟩, rfl⟩ | exact ⟨rfl, ⟨hRI, hB⟩, v65, v69, v74, v75, rfl⟩
                intro v65 v69 v74 v75 w6 hF
                obtain ⟨hR6, hB6⟩ := hF
                have HR6 := Lib.hid hR6
                have HB6 := Lib.hid hB6
                have HRI6 := Lib.hid (HRI.out.below hB6)
                have htl : (P.take m ++ [y]).length = m + 1 := by simp; omega
                clear hR6 hB6 ck
                go_wp2_with (first
                  | ((with_reducible apply list_sl_l); exact rfl; exact rfl; exact rfl; exact rfl; exact hmP; simp only [Act.put, List.setIfInBounds_toArray, List.set_cons_succ, List.set_cons_zero])
                  | (refine list_append_any rfl _ _ 59 rfl wj.heap.size 3 i0 (.int .i64 0) 1 8 Try.underlying59 hi hq0 hq1 hq2 rfl (by decide) _ _ _ rfl HR6.out _ _ _ ((P.drop m).map (Value.int .i64)) rfl (by simp) (ins_src2 HRI6.out hmP hcap) (ints_one' _) ?c5 ?c6 HB6.out.size ?_)
                  | fail)
                case c5 => unfold maxLen; omega
                case c6 => omega
                intro v' w7 hown3 hgr _
                have B7 := Lib.hid (HB5.out.trans ((HBQ.out.trans ((HB6.out.grown hgr HB6.out.size (fun q hq => (World.ownsRow.lt HR6.out q hq).1)).mono HBQ.out.size)).mono HB5.out.size))
                have R7 := Lib.hid (show RowI u.heap.size v' (srt (ordK ns) (fK ns 0 (zs.take (k + 1)))) w7 by
                  rw [HSN.out, HJ.out]
                  refine ownR_le2 (b := wj.heap.size) ?_ (by have h1 := HBQ.out.size; have h2 := HB5.out.size; omega)
                  unfold RowI insA
                  simpa [hmP, Nat.min_eq_left hmP, Nat.add_assoc, Nat.add_comm 1] using hown3)
                clear hown3 hgr
                go_wp2
                go_roundw
                case rel => exact ⟨k + 1, by omega, by go_num, R7.out, B7.out⟩
                case measure => simp [intOf]; omega
        · have hft := HFT.out
          rw [if_neg (by rw [ER.out]; cases h7 <;> cases h6 <;> simp_all)] at hft
          have R5 := Lib.hid (show RowI u.heap.size u5 (srt (ordK ns) (fK ns 0 (zs.take (k + 1)))) w5 by rw [hft]; exact HO5.out)
          clear hft c8
          cases h7 <;> cases h6 <;> (try exact absurd ⟨rfl, rfl⟩ hap)
          all_goals
            go_wp2_with (first
              | ((with_reducible apply list_store_sty); exact rfl; exact rfl; exact rfl; exact rfl; (with_reducible exact HSY.out); simp only [World.size_alloc, Act.put, List.setIfInBounds_toArray, List.set_cons_succ, List.set_cons_zero])
              | (rw [← E5.out])
              | fail)
            go_roundw
            case rel => exact ⟨k + 1, by omega, by go_num, R5.out, HB5.out⟩
            case measure => simp [intOf]; omega
      · obtain rfl : k = zs.length := by omega
        rw [List.take_length] at HO
        clear ho hb
        go_wp2
        go_ret
        exact ⟨_, rfl, by rw [HV.out]; exact ownR_le2 HO.out (by omega), HB.out.trans (HBr.out.mono HB.out.size)⟩
  · have hv : flV ns z0 = [] := by unfold flV; rw [if_neg hh]
    have HV := Lib.hid hv
    have hh' : treeB ns = true → nIn ns.length z0 = false := fun h => by rw [h] at hh; simpa using hh
    clear hv hh
    generalize treeB ns = t at *
    generalize nIn ns.length z0 = q at *
    cases t
    · clear hh'
      go_enter Try.func38, Try.ntmps38
      go_wp2_with (first | (rw [← EU.out]) | (rw [← EX.out]))
      refine (KT.out _ HBX.out).mono ?_
      rintro e w1 ⟨rfl, b1⟩
      have HR1 := Lib.hid (HR.out.below b1)
      dsimp only
      go_wp2_with (fail)
      go_ret
      exact ⟨_, rfl, by rw [HV.out]; exact ownR_le2 HR1.out (by omega), HB.out.trans ((HBX.out.trans (b1.mono HBX.out.size)).mono HB.out.size)⟩
    · obtain rfl := hh' rfl
      clear hh'
      go_enter Try.func38, Try.ntmps38
      go_wp2_with (first | (rw [← EU.out]) | (rw [← EX.out]))
      refine (KT.out _ HBX.out).mono ?_
      rintro e w1 ⟨rfl, b1⟩
      have HB1 := Lib.hid (HBX.out.trans (b1.mono HBX.out.size))
      have HR1 := Lib.hid (HR.out.below b1)
      replace c0 := HC.out w1 HB1.out
      clear b1
      dsimp only
      go_wp2_with (fail)
      refine (KI.out _).mono ?_
      rintro e w2 ⟨rfl, b2⟩
      have HR2 := Lib.hid (HR1.out.below b2)
      dsimp only
      go_wp2_with (fail)
      go_ret
      exact ⟨_, rfl, by rw [HV.out]; exact ownR_le2 HR2.out (by omega), HB.out.trans ((HB1.out.trans (b2.mono HB1.out.size)).mono HB.out.size)⟩
end Go.Proofs.Ytiogjbdaaplhpaa
end

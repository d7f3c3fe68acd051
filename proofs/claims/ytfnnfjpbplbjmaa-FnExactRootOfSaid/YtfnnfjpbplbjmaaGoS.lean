/-
  The contracts of the model's IsGone and RootOf. Conditions: no list of more than 1048576.
-/
import Derived.Test.YtfnnfjpbplbjmaaGoR
namespace Go.Proofs.Ytfnnfjpbplbjmaa
open Go.ChangeShapes Go.WideShapes Go.ChangeAt Go.RowKit
set_option linter.unusedVariables false
set_option linter.unusedSimpArgs false
set_option maxRecDepth 8000

theorem fldSty (u : Int) (k : Value) (f : Nat → Int) (m : Bool) (t : Value) (w : World) : (Instr.field 61 (.agg (nA u k f m t)) 2).run Try.prog w = .ok (.agg (sCells f)) w := by kernel_rfl
theorem fldHid (f : Nat → Int) (w : World) : (Instr.field 41 (.agg (sCells f)) 7).run Try.prog w = .ok (.bool (bz (f 7))) w := by kernel_rfl
/-- The model's node z, read out of the tree that a box holds. -/
theorem sl10ndZ (a : Option Addr) (cap : Nat) (ns : List PN) (z : Int) (w : World) (hz : Nds w a ns) (hl : ns.length ≤ 1048576) (hin : nIn ns.length z = true) :
    Calls Try.prog 70 #[.agg #[.slice a ns.length cap], .int .i64 z] w fun e w' => Below w.heap.size w w' ∧ ∃ ka kc tv, e = .returned (.agg (nA (upZ ns z) (.slice ka (kidsZ ns z).length kc) (ndAt ns z).sty (ndAt ns z).meas tv)) ∧ Ints w' ka (kidsZ ns z).length (kidsZ ns z) := by
  obtain ⟨b, off, q, kv, tv, rfl, hzq, hq, hgd, hok, hrg, hkv, htv⟩ := nd_look hz hin
  have k1 := hkv.one
  have t1 := htv.one
  have ek : kidsZ ns z = (ndAt ns z).kids := by unfold kidsZ; rw [if_pos hin]
  obtain ⟨ka, kc, rfl, hki⟩ := hkv
  refine (sl10nd b off ns.length cap q z (ndAt ns z) _ tv w hzq hq hl hrg k1 t1).mono ?_
  rintro e w' ⟨rfl, b⟩
  rw [ek]
  exact ⟨b, ka, kc, tv, rfl, hki.below b⟩
def SgRel (F : List PN → Nat → Int → Bool) (ns : List PN) (z0 : Int) (w0 : World) (n : Value) (wr : World) : Prop :=
  ∃ (d f : Nat) (z : Int), n = .int .i64 z ∧ d ≤ f ∧ F ns 4 z0 = F ns f z ∧ Below w0.heap.size w0 wr ∧ dpR ns z d
theorem dpR_in {ns : List PN} {z : Int} {d : Nat} (h : dpR ns z d) (hz : z ≠ 0) : nIn ns.length z = true ∧ ∃ d', d = d' + 1 := by
  cases d with
  | zero => exact absurd h.1 hz
  | succ d => exact ⟨(dpR_up h).1, d, rfl⟩
theorem dpR_I64 {ns : List PN} {z : Int} {d : Nat} (h : dpR ns z d) (hl : ns.length ≤ 1048576) : I64 z := by
  by_cases hz : z = 0
  · subst hz; exact ⟨by omega, by omega⟩
  · have := nIn_iff.1 (dpR_in h hz).1
    exact ⟨by omega, by omega⟩
set_option maxHeartbeats 2000000 in
theorem sisgone (a : Option Addr) (cap : Nat) (ns : List PN) (z0 : Int) (w : World) (hz : Nds w a ns) (hl : szS ns ≤ 1048576) (hz0 : I64 z0) :
    Calls Try.prog 43 #[.agg #[.slice a ns.length cap], .int .i64 z0] w fun e w' => e = .returned (.bool (goB ns z0)) ∧ Below w.heap.size w w' := by
  have hnl : ns.length ≤ 1048576 := by unfold szS at hl; omega
  have B0 := bel_alloc w (.cells #[.slice a ns.length cap] 26)
  have h0 := hp_new w (.cells #[.slice a ns.length cap] 26)
  obtain ⟨u, eu⟩ : ∃ u, u = w.alloc (.cells #[.slice a ns.length cap] 26) := ⟨_, rfl⟩
  have hus : w.heap.size < u.heap.size := by rw [eu]; simp
  rw [← eu] at B0 h0
  have EU := Lib.hid eu
  have HZ := Lib.hid (hz.below B0)
  have HB := Lib.hid B0
  have H0 := Lib.hid h0
  have KT := Lib.hid (streeok a cap ns u HZ.out hl)
  have KI := Lib.hid (fun w' => sl10is a ns.length cap z0 w')
  have c0 := Go.Joins.cell_of_block h0 0
  simp at c0
  clear B0 hz eu h0
  by_cases hh : (nIn ns.length z0 && treeB ns) = true
  · have hv : goB ns z0 = goF ns 4 z0 := by unfold goB; rw [if_pos hh]
    have h1 : nIn ns.length z0 = true ∧ treeB ns = true := by simpa using hh
    have hd0 := dep_of h1.2 h1.1
    rw [h1.2] at KT
    rw [h1.1] at KI
    have HV := Lib.hid hv
    have HD0 := Lib.hid hd0
    clear hv hd0 h1 hh
    go_enter Try.func43, Try.ntmps43
    go_wp2_with (rw [← EU.out])
    refine KT.out.mono ?_
    rintro e w1 ⟨rfl, b1⟩
    have H1 := hp_below H0.out b1
    replace c0 := Go.Joins.cell_of_block H1 0
    simp at c0
    have HB1 := Lib.hid b1
    clear b1 H1
    dsimp only
    go_wp2_with (fail)
    refine (KI.out _).mono ?_
    rintro e w2 ⟨rfl, b2⟩
    have HB2 := Lib.hid (HB1.out.trans (b2.mono HB1.out.size))
    clear b2 c0
    dsimp only
    go_wp2_with (fail)
    go_loopw [1] (fun n wr => SgRel goF ns z0 u n wr) (fun n _ => (dpV ns (intOf n)).toNat)
    case atStart =>
      obtain ⟨d, h1, h2, h3⟩ := HD0.out
      exact ⟨d, 4, z0, rfl, h3, rfl, HB2.out, h1⟩
    case round =>
      obtain ⟨d, f, z, rfl, hdf, hg, hb, hd⟩ := hrel
      have HG := Lib.hid hg
      have HBr := Lib.hid hb
      have hi := dpR_I64 hd hnl
      have hi1 := hi.1
      have hi2 := hi.2
      clear hg hb hi
      by_cases e0 : z = 0
      · subst e0
        have hv : goB ns z0 = false := by rw [HV.out, HG.out, goF_zero]
        have HVV := Lib.hid hv
        clear hv
        go_wp2
        go_ret
        exact ⟨by rw [HVV.out]; rfl, HB.out.trans (HBr.out.mono HB.out.size)⟩
      · obtain ⟨hin, d', rfl⟩ := dpR_in hd e0
        obtain ⟨f', rfl⟩ : ∃ f', f = f' + 1 := ⟨f - 1, by omega⟩
        have hst : goF ns (f' + 1) z = if hidZ ns z = true then true else goF ns f' (upZ ns z) := by rw [goF, if_neg e0]
        have HST := Lib.hid hst
        have HD := Lib.hid (dpR_up hd).2
        have HPD := Lib.hid (dpV_of hd)
        have HIN := Lib.hid hin
        have HHZ := Lib.hid (show hidZ ns z = bz ((ndAt ns z).sty 7) from rfl)
        have H1 := (HBr.out.block w.heap.size hus).trans H0.out
        have c0 := Go.Joins.cell_of_block H1 0
        simp at c0
        clear hst hd hin
        go_wp2_with (fail)
        refine (sl10ndZ a cap ns z wr (HZ.out.below HBr.out) hnl HIN.out).mono ?_
        rintro e w3 ⟨b3, ka, kc, tv, rfl, _⟩
        have HB3 := Lib.hid (HBr.out.trans (b3.mono HBr.out.size))
        replace H1 := hp_below H1 b3
        replace c0 := Go.Joins.cell_of_block H1 0
        simp at c0
        have F1 := Lib.hid (fldSty (upZ ns z) (.slice ka (kidsZ ns z).length kc) (ndAt ns z).sty (ndAt ns z).meas tv w3)
        have F2 := Lib.hid (fldHid (ndAt ns z).sty w3)
        clear b3
        generalize bz ((ndAt ns z).sty 7) = hb7 at *
        cases hb7
        · have hv : goF ns 4 z0 = goF ns f' (upZ ns z) := by rw [HG.out, HST.out, if_neg (by rw [HHZ.out]; decide)]
          have HVV := Lib.hid hv
          clear hv
          dsimp only
          go_wp2_with (first
            | ((with_reducible apply list_field); exact rfl; exact rfl; exact rfl; (with_reducible exact F1.out); simp only [Act.put, List.setIfInBounds_toArray, List.set_cons_succ, List.set_cons_zero])
            | ((with_reducible apply list_field); exact rfl; exact rfl; exact rfl; (with_reducible exact F2.out); simp only [Act.put, List.setIfInBounds_toArray, List.set_cons_succ, List.set_cons_zero])
            | fail)
          refine (sl10ndZ a cap ns z w3 (HZ.out.below HB3.out) hnl HIN.out).mono ?_
          rintro e w4 ⟨b4, ka', kc', tv', rfl, _⟩
          have HB4 := Lib.hid (HB3.out.trans (b4.mono HB3.out.size))
          have F3 := Lib.hid (fldUp (upZ ns z) (.slice ka' (kidsZ ns z).length kc') (ndAt ns z).sty (ndAt ns z).meas tv' w4)
          clear b4
          obtain ⟨y, ey⟩ : ∃ y, y = upZ ns z := ⟨_, rfl⟩
          rw [← ey] at HVV HD F3
          have hyy := dpR_I64 HD.out hnl
          rw [← ey]
          have hy1 := hyy.1
          have hy2 := hyy.2
          clear ey hyy
          dsimp only
          go_wp2_with (first
            | ((with_reducible apply list_field); exact rfl; exact rfl; exact rfl; (with_reducible exact F3.out); simp only [Act.put, List.setIfInBounds_toArray, List.set_cons_succ, List.set_cons_zero])
            | fail)
          go_roundw
          case rel => exact ⟨d', f', y, rfl, by omega, HVV.out, HB4.out, HD.out⟩
          case measure =>
            simp only [intOf]
            rw [HPD.out, dpV_of HD.out]
            omega
        · have hv : goB ns z0 = true := by rw [HV.out, HG.out, HST.out, if_pos HHZ.out]
          have HVV := Lib.hid hv
          clear hv
          dsimp only
          go_wp2_with (first
            | ((with_reducible apply list_field); exact rfl; exact rfl; exact rfl; (with_reducible exact F1.out); simp only [Act.put, List.setIfInBounds_toArray, List.set_cons_succ, List.set_cons_zero])
            | ((with_reducible apply list_field); exact rfl; exact rfl; exact rfl; (with_reducible exact F2.out); simp only [Act.put, List.setIfInBounds_toArray, List.set_cons_succ, List.set_cons_zero])
            | fail)
          go_ret
          exact ⟨by rw [HVV.out]; rfl, HB.out.trans (HB3.out.mono HB.out.size)⟩
  · have hv : goB ns z0 = true := by unfold goB; rw [if_neg hh]
    have HV := Lib.hid hv
    have hh' : treeB ns = true → nIn ns.length z0 = false := fun h => by rw [h] at hh; simpa using hh
    clear hv hh
    generalize treeB ns = t at *
    generalize nIn ns.length z0 = q at *
    cases t
    · clear hh'
      go_enter Try.func43, Try.ntmps43
      go_wp2_with (rw [← EU.out])
      refine KT.out.mono ?_
      rintro e w1 ⟨rfl, b1⟩
      dsimp only
      go_wp2_with (fail)
      go_ret
      exact ⟨by rw [HV.out]; rfl, HB.out.trans (b1.mono HB.out.size)⟩
    · obtain rfl := hh' rfl
      clear hh'
      go_enter Try.func43, Try.ntmps43
      go_wp2_with (rw [← EU.out])
      refine KT.out.mono ?_
      rintro e w1 ⟨rfl, b1⟩
      have H1 := hp_below H0.out b1
      replace c0 := Go.Joins.cell_of_block H1 0
      simp at c0
      dsimp only
      go_wp2_with (fail)
      refine (KI.out _).mono ?_
      rintro e w2 ⟨rfl, b2⟩
      dsimp only
      go_wp2_with (fail)
      go_ret
      exact ⟨by rw [HV.out]; rfl, HB.out.trans ((b1.trans (b2.mono b1.size)).mono HB.out.size)⟩
def RsRel (ns : List PN) (z0 : Int) (w0 : World) (n : Value) (wr : World) : Prop :=
  ∃ (d f : Nat) (z : Int), n = .int .i64 z ∧ d ≤ f ∧ rtF ns 4 z0 = rtF ns f z ∧ Below w0.heap.size w0 wr ∧ dpR ns z d ∧ nIn ns.length z = true
set_option maxHeartbeats 2000000 in
theorem srootof (a : Option Addr) (cap : Nat) (ns : List PN) (z0 : Int) (w : World) (hz : Nds w a ns) (hl : szS ns ≤ 1048576) (hz0 : I64 z0) :
    Calls Try.prog 45 #[.agg #[.slice a ns.length cap], .int .i64 z0] w fun e w' => e = .returned (.int .i64 (rtZ ns z0)) ∧ Below w.heap.size w w' := by
  have hnl : ns.length ≤ 1048576 := by unfold szS at hl; omega
  have B0 := bel_alloc w (.cells #[.slice a ns.length cap] 26)
  have h0 := hp_new w (.cells #[.slice a ns.length cap] 26)
  obtain ⟨u, eu⟩ : ∃ u, u = w.alloc (.cells #[.slice a ns.length cap] 26) := ⟨_, rfl⟩
  have hus : w.heap.size < u.heap.size := by rw [eu]; simp
  rw [← eu] at B0 h0
  have EU := Lib.hid eu
  have HZ := Lib.hid (hz.below B0)
  have HB := Lib.hid B0
  have H0 := Lib.hid h0
  have KT := Lib.hid (streeok a cap ns u HZ.out hl)
  have KI := Lib.hid (fun w' => sl10is a ns.length cap z0 w')
  have c0 := Go.Joins.cell_of_block h0 0
  simp at c0
  clear B0 hz eu h0
  by_cases hh : (nIn ns.length z0 && treeB ns) = true
  · have hv : rtZ ns z0 = rtF ns 4 z0 := by unfold rtZ; rw [if_pos hh]
    have h1 : nIn ns.length z0 = true ∧ treeB ns = true := by simpa using hh
    have hd0 := dep_of h1.2 h1.1
    rw [h1.2] at KT
    rw [h1.1] at KI
    have HV := Lib.hid hv
    have HD0 := Lib.hid hd0
    have HI0 := Lib.hid h1.1
    clear hv hd0 h1 hh
    go_enter Try.func45, Try.ntmps45
    go_wp2_with (rw [← EU.out])
    refine KT.out.mono ?_
    rintro e w1 ⟨rfl, b1⟩
    have H1 := hp_below H0.out b1
    replace c0 := Go.Joins.cell_of_block H1 0
    simp at c0
    have HB1 := Lib.hid b1
    clear b1 H1
    dsimp only
    go_wp2_with (fail)
    refine (KI.out _).mono ?_
    rintro e w2 ⟨rfl, b2⟩
    have HB2 := Lib.hid (HB1.out.trans (b2.mono HB1.out.size))
    clear b2 c0
    dsimp only
    go_wp2_with (fail)
    go_loopw [1] (fun n wr => RsRel ns z0 u n wr) (fun n _ => (dpV ns (intOf n)).toNat)
    case atStart =>
      obtain ⟨d, h1, h2, h3⟩ := HD0.out
      exact ⟨d, 4, z0, rfl, h3, rfl, HB2.out, h1, HI0.out⟩
    case round =>
      obtain ⟨d, f, z, rfl, hdf, hg, hb, hd, hin⟩ := hrel
      have HG := Lib.hid hg
      have HBr := Lib.hid hb
      have hi := dpR_I64 hd hnl
      have hi1 := hi.1
      have hi2 := hi.2
      clear hg hb hi
      obtain ⟨_, d', rfl⟩ := dpR_in hd (nIn_ne hin)
      obtain ⟨f', rfl⟩ : ∃ f', f = f' + 1 := ⟨f - 1, by omega⟩
      have hst : rtF ns (f' + 1) z = if upZ ns z = 0 then z else rtF ns f' (upZ ns z) := by rw [rtF]
      have HST := Lib.hid hst
      have HD := Lib.hid (dpR_up hd).2
      have HPD := Lib.hid (dpV_of hd)
      have HIN := Lib.hid hin
      have H1 := (HBr.out.block w.heap.size hus).trans H0.out
      have c0 := Go.Joins.cell_of_block H1 0
      simp at c0
      clear hst hd hin
      go_wp2_with (fail)
      refine (sl10ndZ a cap ns z wr (HZ.out.below HBr.out) hnl HIN.out).mono ?_
      rintro e w3 ⟨b3, ka, kc, tv, rfl, _⟩
      have HB3 := Lib.hid (HBr.out.trans (b3.mono HBr.out.size))
      replace H1 := hp_below H1 b3
      replace c0 := Go.Joins.cell_of_block H1 0
      simp at c0
      have F3 := Lib.hid (fldUp (upZ ns z) (.slice ka (kidsZ ns z).length kc) (ndAt ns z).sty (ndAt ns z).meas tv w3)
      clear b3
      by_cases ey0 : upZ ns z = 0
      · have hv : rtZ ns z0 = z := by rw [HV.out, HG.out, HST.out, if_pos ey0]
        have HVV := Lib.hid hv
        rw [ey0] at F3 ⊢
        clear hv ey0
        dsimp only
        go_wp2_with (first
          | ((with_reducible apply list_field); exact rfl; exact rfl; exact rfl; (with_reducible exact F3.out); simp only [Act.put, List.setIfInBounds_toArray, List.set_cons_succ, List.set_cons_zero])
          | fail)
        go_ret
        exact ⟨by rw [HVV.out]; rfl, HB.out.trans (HB3.out.mono HB.out.size)⟩
      · have hv : rtF ns 4 z0 = rtF ns f' (upZ ns z) := by rw [HG.out, HST.out, if_neg ey0]
        have HVV := Lib.hid hv
        have HIN2 := Lib.hid (dpR_in HD.out ey0).1
        clear hv
        obtain ⟨y, ey⟩ : ∃ y, y = upZ ns z := ⟨_, rfl⟩
        rw [← ey] at HVV HD F3 ey0 HIN2
        have hyy := dpR_I64 HD.out hnl
        have KN := Lib.hid (sl10ndZ a cap ns z w3 (HZ.out.below HB3.out) hnl HIN.out)
        rw [← ey] at KN ⊢
        have hy1 := hyy.1
        have hy2 := hyy.2
        clear ey hyy
        dsimp only
        go_wp2_with (first
          | ((with_reducible apply list_field); exact rfl; exact rfl; exact rfl; (with_reducible exact F3.out); simp only [Act.put, List.setIfInBounds_toArray, List.set_cons_succ, List.set_cons_zero])
          | fail)
        refine KN.out.mono ?_
        rintro e w4 ⟨b4, ka', kc', tv', rfl, _⟩
        have HB4 := Lib.hid (HB3.out.trans (b4.mono HB3.out.size))
        have F4 := Lib.hid (fldUp y (.slice ka' (kidsZ ns z).length kc') (ndAt ns z).sty (ndAt ns z).meas tv' w4)
        clear b4
        dsimp only
        go_wp2_with (first
          | ((with_reducible apply list_field); exact rfl; exact rfl; exact rfl; (with_reducible exact F4.out); simp only [Act.put, List.setIfInBounds_toArray, List.set_cons_succ, List.set_cons_zero])
          | fail)
        go_roundw
        case rel => exact ⟨d', f', y, rfl, by omega, HVV.out, HB4.out, HD.out, HIN2.out⟩
        case measure =>
          simp only [intOf]
          rw [HPD.out, dpV_of HD.out]
          omega
  · have hv : rtZ ns z0 = 0 := by unfold rtZ; rw [if_neg hh]
    have HV := Lib.hid hv
    have hh' : treeB ns = true → nIn ns.length z0 = false := fun h => by rw [h] at hh; simpa using hh
    clear hv hh
    generalize treeB ns = t at *
    generalize nIn ns.length z0 = q at *
    cases t
    · clear hh'
      go_enter Try.func45, Try.ntmps45
      go_wp2_with (rw [← EU.out])
      refine KT.out.mono ?_
      rintro e w1 ⟨rfl, b1⟩
      dsimp only
      go_wp2_with (fail)
      go_ret
      exact ⟨by rw [HV.out]; rfl, HB.out.trans (b1.mono HB.out.size)⟩
    · obtain rfl := hh' rfl
      clear hh'
      go_enter Try.func45, Try.ntmps45
      go_wp2_with (rw [← EU.out])
      refine KT.out.mono ?_
      rintro e w1 ⟨rfl, b1⟩
      have H1 := hp_below H0.out b1
      replace c0 := Go.Joins.cell_of_block H1 0
      simp at c0
      dsimp only
      go_wp2_with (fail)
      refine (KI.out _).mono ?_
      rintro e w2 ⟨rfl, b2⟩
      dsimp only
      go_wp2_with (fail)
      go_ret
      exact ⟨by rw [HV.out]; rfl, HB.out.trans ((b1.trans (b2.mono b1.size)).mono HB.out.size)⟩
end Go.Proofs.Ytfnnfjpbplbjmaa

import Derived.Maps.AppendAt
import Derived.OwnWalk
import Derived.Deep.QuietTactic
import Derived.BigQuiet
import Derived.Test.YtiogjbdaaplhpaaZfAE
import Derived.Test.YtiogjbdaaplhpaaZfAQ
import Derived.Test.YtiogjbdaaplhpaaZfBC
section
namespace Go.Proofs.Ytiogjbdaaplhpaa
open Go.ChangeShapes Go.WideShapes Go.ChangeAt Go.RowKit
set_option linter.unusedVariables false
set_option linter.unusedSimpArgs false
set_option maxRecDepth 8000

theorem fldSty (u : Int) (k : Value) (f : Nat → Int) (m : Bool) (t : Value) (w : World) : (Instr.field 61 (.agg (nA u k f m t)) 2).run Try.prog w = .ok (.agg (sCells f)) w := by kernel_rfl
theorem fldHid (f : Nat → Int) (w : World) : (Instr.field 41 (.agg (sCells f)) 7).run Try.prog w = .ok (.bool (bz (f 7))) w := by kernel_rfl
/-- The model's node z, read out of the tree that a box holds. -/
theorem sl10ndZ (a : Option Addr) (cap : Nat) (ns : List PN) (z : Int) (w : World) (hz : Nds w a ns) (hl : ns.length ≤ 1048576) (hin : nIn ns.length z = true) :
    Calls Try.prog 70 #[.agg #[.slice a ns.length cap], .int .i64 z] w fun e w' => Below w.heap.size w w' ∧ ∃ ka kc tv, e = .returned (.agg (nA (upZ ns z) (.slice ka (kidsZ ns z).length kc) (ndAt ns z).sty (ndAt ns z).meas tv)) ∧ Ints w' ka (kidsZ ns z).length (kidsZ ns z) := by
  obtain ⟨b, off, q, kv, tv, rfl, hzq, hq, hgd, hok, hrg, hkv, htv⟩ := nd_look hz hin
  have k1 := hkv.one
  have t1 := htv.one
  have ek : kidsZ ns z = (ndAt ns z).kids := by unfold kidsZ; rw [if_pos hin]
  obtain ⟨ka, kc, rfl, hki⟩ := hkv
  refine (sl10nd b off ns.length cap q z (ndAt ns z) _ tv w hzq hq hl hrg k1 t1).mono ?_
  rintro e w' ⟨rfl, b⟩
  rw [ek]
  exact ⟨b, ka, kc, tv, rfl, hki.below b⟩
def SgRel (F : List PN → Nat → Int → Bool) (ns : List PN) (z0 : Int) (w0 : World) (n : Value) (wr : World) : Prop :=
  ∃ (d f : Nat) (z : Int), n = .int .i64 z ∧ d ≤ f ∧ F ns 4 z0 = F ns f z ∧ Below w0.heap.size w0 wr ∧ dpR ns z d
theorem dpR_in {ns : List PN} {z : Int} {d : Nat} (h : dpR ns z d) (hz : z ≠ 0) : nIn ns.length z = true ∧ ∃ d', d = d' + 1 := by
  cases d with
  | zero => exact absurd h.1 hz
  | succ d => exact ⟨(dpR_up h).1, d, rfl⟩
theorem dpR_I64 {ns : List PN} {z : Int} {d : Nat} (h : dpR ns z d) (hl : ns.length ≤ 1048576) : I64 z := by
  by_cases hz : z = 0
  · subst hz; exact ⟨by omega, by omega⟩
  · have := nIn_iff.1 (dpR_in h hz).1
    exact ⟨by omega, by omega⟩
set_option maxHeartbeats 2000000 in
theorem sisgone (a : Option Addr) (cap : Nat) (ns : List PN) (z0 : Int) (w : World) (hz : Nds w a ns) (hl : szS ns ≤ 1048576) (hz0 : I64 z0) :
    Calls Try.prog 43 #[.agg #[.slice a ns.length cap], .int .i64 z0] w fun e w' => e = .returned (.bool (goB ns z0)) ∧ Below w.heap.size w w' := by
  have hnl : ns.length ≤ 1048576 := by unfold szS at hl; omega
  have B0 := bel_alloc w (.cells #[.slice a ns.length cap] 26)
  have h0 := hp_new w (.cells #[.slice a ns.length cap] 26)
  obtain ⟨u, eu⟩ : ∃ u, u = w.alloc (.cells #[.slice a ns.length cap] 26) := ⟨_, rfl⟩
  have hus : w.heap.size < u.heap.size := by rw [eu]; simp
  rw [← eu] at B0 h0
  have EU := Lib.hid eu
  have HZ := Lib.hid (hz.below B0)
  have HB := Lib.hid B0
  have H0 := Lib.hid h0
  have KT := Lib.hid (streeok a cap ns u HZ.out hl)
  have KI := Lib.hid (fun w' => sl10is a ns.length cap z0 w')
  have c0 := Go.Joins.cell_of_block h0 0
  simp at c0
  clear B0 hz eu h0
  by_cases hh : (nIn ns.length z0 && treeB ns) = true
  · have hv : goB ns z0 = goF ns 4 z0 := by unfold goB; rw [if_pos hh]
    have h1 : nIn ns.length z0 = true ∧ treeB ns = true := by simpa using hh
    have hd0 := dep_of h1.2 h1.1
    rw [h1.2] at KT
    rw [h1.1] at KI
    have HV := Lib.hid hv
    have HD0 := Lib.hid hd0
    clear hv hd0 h1 hh
    go_enter Try.func43, Try.ntmps43
    go_wp2_with (rw [← EU.out])
    refine KT.out.mono ?_
    rintro e w1 ⟨rfl, b1⟩
    have H1 := hp_below H0.out b1
    replace c0 := Go.Joins.cell_of_block H1 0
    simp at c0
    have HB1 := Lib.hid b1
    clear b1 H1
    dsimp only
    go_wp2_with (fail)
    refine (KI.out _).mono ?_
    rintro e w2 ⟨rfl, b2⟩
    have HB2 := Lib.hid (HB1.out.trans (b2.mono HB1.out.size))
    clear b2 c0
    dsimp only
    go_wp2_with (fail)
    go_loopw [1] (fun n wr => SgRel goF ns z0 u n wr) (fun n _ => (dpV ns (intOf n)).toNat)
    case atStart =>
      obtain ⟨d, h1, h2, h3⟩ := HD0.out
      exact ⟨d, 4, z0, rfl, h3, rfl, HB2.out, h1⟩
    case round =>
      obtain ⟨d, f, z, rfl, hdf, hg, hb, hd⟩ := hrel
      have HG := Lib.hid hg
      have HBr := Lib.hid hb
      have hi := dpR_I64 hd hnl
      have hi1 := hi.1
      have hi2 := hi.2
      clear hg hb hi
      by_cases e0 : z = 0
      · subst e0
        have hv : goB ns z0 = false := by rw [HV.out, HG.out, goF_zero]
        have HVV := Lib.hid hv
        clear hv
        go_wp2
        go_ret
        exact ⟨by rw [HVV.out]; rfl, HB.out.trans (HBr.out.mono HB.out.size)⟩
      · obtain ⟨hin, d', rfl⟩ := dpR_in hd e0
        obtain ⟨f', rfl⟩ : ∃ f', f = f' + 1 := ⟨f - 1, by omega⟩
        have hst : goF ns (f' + 1) z = if hidZ ns z = true then true else goF ns f' (upZ ns z) := by rw [goF, if_neg e0]
        have HST := Lib.hid hst
        have HD := Lib.hid (dpR_up hd).2
        have HPD := Lib.hid (dpV_of hd)
        have HIN := Lib.hid hin
        have HHZ := Lib.hid (show hidZ ns z = bz ((ndAt ns z).sty 7) from rfl)
        have H1 := (HBr.out.block w.heap.size hus).trans H0.out
        have c0 := Go.Joins.cell_of_block H1 0
        simp at c0
        clear hst hd hin
        go_wp2_with (fail)
        refine (sl10ndZ a cap ns z wr (HZ.out.below HBr.out) hnl HIN.out).mono ?_
        rintro e w3 ⟨b3, ka, kc, tv, rfl, _⟩
        have HB3 := Lib.hid (HBr.out.trans (b3.mono HBr.out.size))
        replace H1 := hp_below H1 b3
        replace c0 := Go.Joins.cell_of_block H1 0
        simp at c0
        have F1 := Lib.hid (fldSty (upZ ns z) (.slice ka (kidsZ ns z).length kc) (ndAt ns z).sty (ndAt ns z).meas tv w3)
        have F2 := Lib.hid (fldHid (ndAt ns z).sty w3)
        clear b3
        generalize bz ((ndAt ns z).sty 7) = hb7 at *
        cases hb7
        · have hv : goF ns 4 z0 = goF ns f' (upZ ns z) := by rw [HG.out, HST.out, if_neg (by rw [HHZ.out]; decide)]
          have HVV := Lib.hid hv
          clear hv
          dsimp only
          go_wp2_with (first
            | ((with_reducible apply list_field); exact rfl; exact rfl; exact rfl; (with_reducible exact F1.out); simp only [Act.put, List.setIfInBounds_toArray, List.set_cons_succ, List.set_cons_zero])
            | ((with_reducible apply list_field); exact rfl; exact rfl; exact rfl; (with_reducible exact F2.out); simp only [Act.put, List.setIfInBounds_toArray, List.set_cons_succ, List.set_cons_zero])
            | fail)
          refine (sl10ndZ a cap ns z w3 (HZ.out.below HB3.out) hnl HIN.out).mono ?_
          rintro e w4 ⟨b4, ka', kc', tv', rfl, _⟩
          have HB4 := Lib.hid (HB3.out.trans (b4.mono HB3.out.size))
          have F3 := Lib.hid (fldUp (upZ ns z) (.slice ka' (kidsZ ns z).length kc') (ndAt ns z).sty (ndAt ns z).meas tv' w4)
          clear b4
          obtain ⟨y, ey⟩ : ∃ y, y = upZ ns z := ⟨_, rfl⟩
          rw [← ey] at HVV HD F3
          have hyy := dpR_I64 HD.out hnl
          rw [← ey]
          have hy1 := hyy.1
          have hy2 := hyy.2
          clear ey hyy
          dsimp only
          go_wp2_with (first
            | ((with_reducible apply list_field); exact rfl; exact rfl; exact rfl; (with_reducible exact F3.out); simp only [Act.put, List.setIfInBounds_toArray, List.set_cons_succ, List.set_cons_zero])
            | fail)
          go_roundw
          case rel => exact ⟨d', f', y, rfl, by omega, HVV.out, HB4.out, HD.out⟩
          case measure =>
            simp only [intOf]
            rw [HPD.out, dpV_of HD.out]
            omega
        · have hv : goB ns z0 = true := by rw [HV.out, HG.out, HST.out, if_pos HHZ.out]
          have HVV := Lib.hid hv
          clear hv
          dsimp only
          go_wp2_with (first
            | ((with_reducible apply list_field); exact rfl; exact rfl; exact rfl; (with_reducible exact F1.out); simp only [Act.put, List.setIfInBounds_toArray, List.set_cons_succ, List.set_cons_zero])
            | ((with_reducible apply list_field); exact rfl; exact rfl; exact rfl; (with_reducible exact F2.out); simp only [Act.put, List.setIfInBounds_toArray, List.set_cons_succ, List.set_cons_zero])
            | fail)
          go_ret
          exact ⟨by rw [HVV.out]; rfl, HB.out.trans (HB3.out.mono HB.out.size)⟩
  · have hv : goB ns z0 = true := by unfold goB; rw [if_neg hh]
    have HV := Lib.hid hv
    have hh' : treeB ns = true → nIn ns.length z0 = false := fun h => by rw [h] at hh; simpa using hh
    clear hv hh
    generalize treeB ns = t at *
    generalize nIn ns.length z0 = q at *
    cases t
    · clear hh'
      go_enter Try.func43, Try.ntmps43
      go_wp2_with (rw [← EU.out])
      refine KT.out.mono ?_
      rintro e w1 ⟨rfl, b1⟩
      dsimp only
      go_wp2_with (fail)
      go_ret
      exact ⟨by rw [HV.out]; rfl, HB.out.trans (b1.mono HB.out.size)⟩
    · obtain rfl := hh' rfl
      clear hh'
      go_enter Try.func43, Try.ntmps43
      go_wp2_with (rw [← EU.out])
      refine KT.out.mono ?_
      rintro e w1 ⟨rfl, b1⟩
      have H1 := hp_below H0.out b1
      replace c0 := Go.Joins.cell_of_block H1 0
      simp at c0
      dsimp only
      go_wp2_with (fail)
      refine (KI.out _).mono ?_
      rintro e w2 ⟨rfl, b2⟩
      dsimp only
      go_wp2_with (fail)
      go_ret
      exact ⟨by rw [HV.out]; rfl, HB.out.trans ((b1.trans (b2.mono b1.size)).mono HB.out.size)⟩
def RsRel (ns : List PN) (z0 : Int) (w0 : World) (n : Value) (wr : World) : Prop :=
  ∃ (d f : Nat) (z : Int), n = .int .i64 z ∧ d ≤ f ∧ rtF ns 4 z0 = rtF ns f z ∧ Below w0.heap.size w0 wr ∧ dpR ns z d ∧ nIn ns.length z = true
set_option maxHeartbeats 2000000 in
theorem srootof (a : Option Addr) (cap : Nat) (ns : List PN) (z0 : Int) (w : World) (hz : Nds w a ns) (hl : szS ns ≤ 1048576) (hz0 : I64 z0) :
    Calls Try.prog 45 #[.agg #[.slice a ns.length cap], .int .i64 z0] w fun e w' => e = .returned (.int .i64 (rtZ ns z0)) ∧ Below w.heap.size w w' := by
  have hnl : ns.length ≤ 1048576 := by unfold szS at hl; omega
  have B0 := bel_alloc w (.cells #[.slice a ns.length cap] 26)
  have h0 := hp_new w (.cells #[.slice a ns.length cap] 26)
  obtain ⟨u, eu⟩ : ∃ u, u = w.alloc (.cells #[.slice a ns.length cap] 26) := ⟨_, rfl⟩
  have hus : w.heap.size < u.heap.size := by rw [eu]; simp
  rw [← eu] at B0 h0
  have EU := Lib.hid eu
  have HZ := Lib.hid (hz.below B0)
  have HB := Lib.hid B0
  have H0 := Lib.hid h0
  have KT := Lib.hid (streeok a cap ns u HZ.out hl)
  have KI := Lib.hid (fun w' => sl10is a ns.length cap z0 w')
  have c0 := Go.Joins.cell_of_block h0 0
  simp at c0
  clear B0 hz eu h0
  by_cases hh : (nIn ns.length z0 && treeB ns) = true
  · have hv : rtZ ns z0 = rtF ns 4 z0 := by unfold rtZ; rw [if_pos hh]
    have h1 : nIn ns.length z0 = true ∧ treeB ns = true := by simpa using hh
    have hd0 := dep_of h1.2 h1.1
    rw [h1.2] at KT
    rw [h1.1] at KI
    have HV := Lib.hid hv
    have HD0 := Lib.hid hd0
    have HI0 := Lib.hid h1.1
    clear hv hd0 h1 hh
    go_enter Try.func45, Try.ntmps45
    go_wp2_with (rw [← EU.out])
    refine KT.out.mono ?_
    rintro e w1 ⟨rfl, b1⟩
    have H1 := hp_below H0.out b1
    replace c0 := Go.Joins.cell_of_block H1 0
    simp at c0
    have HB1 := Lib.hid b1
    clear b1 H1
    dsimp only
    go_wp2_with (fail)
    refine (KI.out _).mono ?_
    rintro e w2 ⟨rfl, b2⟩
    have HB2 := Lib.hid (HB1.out.trans (b2.mono HB1.out.size))
    clear b2 c0
    dsimp only
    go_wp2_with (fail)
    go_loopw [1] (fun n wr => RsRel ns z0 u n wr) (fun n _ => (dpV ns (intOf n)).toNat)
    case atStart =>
      obtain ⟨d, h1, h2, h3⟩ := HD0.out
      exact ⟨d, 4, z0, rfl, h3, rfl, HB2.out, h1, HI0.out⟩
    case round =>
      obtain ⟨d, f, z, rfl, hdf, hg, hb, hd, hin⟩ := hrel
      have HG := Lib.hid hg
      have HBr := Lib.hid hb
      have hi := dpR_I64 hd hnl
      have hi1 := hi.1
      have hi2 := hi.2
      clear hg hb hi
      obtain ⟨_, d', rfl⟩ := dpR_in hd (nIn_ne hin)
      obtain ⟨f', rfl⟩ : ∃ f', f = f' + 1 := ⟨f - 1, by omega⟩
      have hst : rtF ns (f' + 1) z = if upZ ns z = 0 then z else rtF ns f' (upZ ns z) := by rw [rtF]
      have HST := Lib.hid hst
      have HD := Lib.hid (dpR_up hd).2
      have HPD := Lib.hid (dpV_of hd)
      have HIN := Lib.hid hin
      have H1 := (HBr.out.block w.heap.size hus).trans H0.out
      have c0 := Go.Joins.cell_of_block H1 0
      simp at c0
      clear hst hd hin
      go_wp2_with (fail)
      refine (sl10ndZ a cap ns z wr (HZ.out.below HBr.out) hnl HIN.out).mono ?_
      rintro e w3 ⟨b3, ka, kc, tv, rfl, _⟩
      have HB3 := Lib.hid (HBr.out.trans (b3.mono HBr.out.size))
      replace H1 := hp_below H1 b3
      replace c0 := Go.Joins.cell_of_block H1 0
      simp at c0
      have F3 := Lib.hid (fldUp (upZ ns z) (.slice ka (kidsZ ns z).length kc) (ndAt ns z).sty (ndAt ns z).meas tv w3)
      clear b3
      by_cases ey0 : upZ ns z = 0
      · have hv : rtZ ns z0 = z := by rw [HV.out, HG.out, HST.out, if_pos ey0]
        have HVV := Lib.hid hv
        rw [ey0] at F3 ⊢
        clear hv ey0
        dsimp only
        go_wp2_with (first
          | ((with_reducible apply list_field); exact rfl; exact rfl; exact rfl; (with_reducible exact F3.out); simp only [Act.put, List.setIfInBounds_toArray, List.set_cons_succ, List.set_cons_zero])
          | fail)
        go_ret
        exact ⟨by rw [HVV.out]; rfl, HB.out.trans (HB3.out.mono HB.out.size)⟩
      · have hv : rtF ns 4 z0 = rtF ns f' (upZ ns z) := by rw [HG.out, HST.out, if_neg ey0]
        have HVV := Lib.hid hv
        have HIN2 := Lib.hid (dpR_in HD.out ey0).1
        clear hv
        obtain ⟨y, ey⟩ : ∃ y, y = upZ ns z := ⟨_, rfl⟩
        rw [← ey] at HVV HD F3 ey0 HIN2
        have hyy := dpR_I64 HD.out hnl
        have KN := Lib.hid (sl10ndZ a cap ns z w3 (HZ.out.below HB3.out) hnl HIN.out)
        rw [← ey] at KN ⊢
        have hy1 := hyy.1
        have hy2 := hyy.2
        clear ey hyy
        dsimp only
        go_wp2_with (first
          | ((with_reducible apply list_field); exact rfl; exact rfl; exact rfl; (with_reducible exact F3.out); simp only [Act.put, List.setIfInBounds_toArray, List.set_cons_succ, List.set_cons_zero])
          | fail)
        refine KN.out.mono ?_
        rintro e w4 ⟨b4, ka', kc', tv', rfl, _⟩
        have HB4 := Lib.hid (HB3.out.trans (b4.mono HB3.out.size))
        have F4 := Lib.hid (fldUp y (.slice ka' (kidsZ ns z).length kc') (ndAt ns z).sty (ndAt ns z).meas tv' w4)
        clear b4
        dsimp only
        go_wp2_with (first
          | ((with_reducible apply list_field); exact rfl; exact rfl; exact rfl; (with_reducible exact F4.out); simp only [Act.put, List.setIfInBounds_toArray, List.set_cons_succ, List.set_cons_zero])
          | fail)
        go_roundw
        case rel => exact ⟨d', f', y, rfl, by omega, HVV.out, HB4.out, HD.out, HIN2.out⟩
        case measure =>
          simp only [intOf]
          rw [HPD.out, dpV_of HD.out]
          omega
  · have hv : rtZ ns z0 = 0 := by unfold rtZ; rw [if_neg hh]
    have HV := Lib.hid hv
    have hh' : treeB ns = true → nIn ns.length z0 = false := fun h => by rw [h] at hh; simpa using hh
    clear hv hh
    generalize treeB ns = t at *
    generalize nIn ns.length z0 = q at *
    cases t
    · clear hh'
      go_enter Try.func45, Try.ntmps45
      go_wp2_with (rw [← EU.out])
      refine KT.out.mono ?_
      rintro e w1 ⟨rfl, b1⟩
      dsimp only
      go_wp2_with (fail)
      go_ret
      exact ⟨by rw [HV.out]; rfl, HB.out.trans (b1.mono HB.out.size)⟩
    · obtain rfl := hh' rfl
      clear hh'
      go_enter Try.func45, Try.ntmps45
      go_wp2_with (rw [← EU.out])
      refine KT.out.mono ?_
      rintro e w1 ⟨rfl, b1⟩
      have H1 := hp_below H0.out b1
      replace c0 := Go.Joins.cell_of_block H1 0
      simp at c0
      dsimp only
      go_wp2_with (fail)
      refine (KI.out _).mono ?_
      rintro e w2 ⟨rfl, b2⟩
      dsimp only
      go_wp2_with (fail)
      go_ret
      exact ⟨by rw [HV.out]; rfl, HB.out.trans ((b1.trans (b2.mono b1.size)).mono HB.out.size)⟩
set_option linter.unusedVariables false
set_option linter.unusedSimpArgs false
set_option maxRecDepth 8000

theorem info_ap2 : (Try.prog.info? 3).map (fun i => (i.zero, i.size, i.bytes)) = some (some (.int .i64 0), 1, 8) := by kernel_rfl
theorem ownR_le2 {b b' : Nat} {v : Value} {xs : List Int} {w : World} (h : RowI b v xs w) (hb : b' ≤ b) : RowI b' v xs w :=
  ⟨h.1, h.2.imp id fun ⟨g, cap, cur, h1, h2, h3⟩ => ⟨g, cap, cur, h1, by omega, h3⟩⟩
theorem sl10ndF {a : Option Addr} {cap : Nat} {ns : List PN} {z : Int} {w : World} (hz : Nds w a ns) (hl : ns.length ≤ 1048576) (hin : nIn ns.length z = true) :
    ∃ kv tv, ∀ w', Below w.heap.size w w' → Calls Try.prog 70 #[.agg #[.slice a ns.length cap], .int .i64 z] w' fun e w'' => e = .returned (.agg (nA (ndAt ns z).up kv (ndAt ns z).sty (ndAt ns z).meas tv)) ∧ Below w'.heap.size w' w'' := by
  obtain ⟨b, off, q, kv, tv, rfl, hzq, hq, hgd, hok, hrg, hkv, htv⟩ := nd_look hz hin
  exact ⟨kv, tv, fun w' hw => sl10nd b off ns.length cap q z (ndAt ns z) kv tv w' hzq hq hl (rg_below hrg hw) hkv.one htv.one⟩
theorem sl10ndK {a : Option Addr} {cap : Nat} {ns : List PN} {z : Int} {w : World} (hz : Nds w a ns) (hl : ns.length ≤ 1048576) (hin : nIn ns.length z = true) :
    ∃ ka kc tv, Ints w ka (kidsZ ns z).length (kidsZ ns z) ∧ ∀ w', Below w.heap.size w w' → Calls Try.prog 70 #[.agg #[.slice a ns.length cap], .int .i64 z] w' fun e w'' => e = .returned (.agg (nA (upZ ns z) (.slice ka (kidsZ ns z).length kc) (ndAt ns z).sty (ndAt ns z).meas tv)) ∧ Below w'.heap.size w' w'' := by
  obtain ⟨b, off, q, kv, tv, rfl, hzq, hq, hgd, hok, hrg, hkv, htv⟩ := nd_look hz hin
  have k1 := hkv.one
  have t1 := htv.one
  have ek : kidsZ ns z = (ndAt ns z).kids := by unfold kidsZ; rw [if_pos hin]
  obtain ⟨ka, kc, rfl, hki⟩ := hkv
  rw [ek]
  exact ⟨ka, kc, tv, hki, fun w' hw => sl10nd b off ns.length cap q z (ndAt ns z) _ tv w' hzq hq hl (rg_below hrg hw) k1 t1⟩
def ApRel (ns : List PN) (zs : List Int) (u : World) (v i : Value) (wr : World) : Prop :=
  ∃ k : Nat, k ≤ zs.length ∧ i = .int .i64 k ∧ RowI u.heap.size v (fK ns 1 (zs.take k)) wr ∧ Below u.heap.size u wr
set_option maxHeartbeats 4000000 in
theorem sapartkids (a : Option Addr) (cap : Nat) (ns : List PN) (z0 : Int) (w : World) (hz : Nds w a ns) (hl : szS ns ≤ 1048576) (hz0 : I64 z0) :
    Calls Try.prog 39 #[.agg #[.slice a ns.length cap], .int .i64 z0] w (OutPost (apV ns z0) w) := by
  obtain ⟨i0, hi, hq0, hq1, hq2⟩ := info_parts info_ap2
  have hnl : ns.length ≤ 1048576 := by unfold szS at hl; omega
  have B0 := bel_alloc w (.cells #[.slice a ns.length cap] 26)
  have h0 := hp_new w (.cells #[.slice a ns.length cap] 26)
  obtain ⟨u, eu⟩ : ∃ u, u = w.alloc (.cells #[.slice a ns.length cap] 26) := ⟨_, rfl⟩
  have hus : w.heap.size < u.heap.size := by rw [eu]; simp
  rw [← eu] at B0 h0
  have hr0 : RowI u.heap.size (.slice (some ⟨u.heap.size, 0, none⟩) 0 0) [] (u.alloc (.cells #[] 3)) := World.ownsRow_lit u #[] 0 (Nat.le_refl _) (by unfold maxLen; omega) rfl
  have hb0 := Go.Joins.below_alloc1 u (.cells #[] 3)
  obtain ⟨x, ex⟩ : ∃ x, x = u.alloc (.cells #[] 3) := ⟨_, rfl⟩
  rw [← ex] at hr0 hb0
  have EU := Lib.hid eu
  have EX := Lib.hid ex
  have HZ := Lib.hid (hz.below B0)
  have HB := Lib.hid B0
  have H0 := Lib.hid h0
  have HR := Lib.hid hr0
  have HBX := Lib.hid hb0
  have KT := Lib.hid (fun w' (h : Below u.heap.size u w') => streeok a cap ns w' (HZ.out.below h) hl)
  have KI := Lib.hid (fun w' => sl10is a ns.length cap z0 w')
  have hc0 := fun w' (h : Below u.heap.size u w') => (Go.Joins.cell_of_block ((h.block w.heap.size hus).trans H0.out) 0).trans (show _ = some (Value.slice a ns.length cap) from rfl)
  have HC := Lib.hid hc0
  have c0 := HC.out x HBX.out
  clear B0 hz eu h0 ex hr0 hb0 hc0
  by_cases hh : (nIn ns.length z0 && treeB ns) = true
  · have hv : apV ns z0 = fK ns 1 (kidsZ ns z0) := by unfold apV; rw [if_pos hh]
    have h1 : nIn ns.length z0 = true ∧ treeB ns = true := by simpa using hh
    rw [h1.2] at KT
    rw [h1.1] at KI
    have HV := Lib.hid hv
    have HT := Lib.hid h1.2
    have HIN := Lib.hid h1.1
    clear hv h1 hh
    go_enter Try.func39, Try.ntmps39
    go_wp2_with (first | (rw [← EU.out]) | (rw [← EX.out]))
    refine (KT.out _ HBX.out).mono ?_
    rintro e w1 ⟨rfl, b1⟩
    have HB1 := Lib.hid (HBX.out.trans (b1.mono HBX.out.size))
    have HR1 := Lib.hid (HR.out.below b1)
    replace c0 := HC.out w1 HB1.out
    clear b1
    dsimp only
    go_wp2_with (fail)
    refine (KI.out _).mono ?_
    rintro e w2 ⟨rfl, b2⟩
    have HB2 := Lib.hid (HB1.out.trans (b2.mono HB1.out.size))
    have HR2 := Lib.hid (HR1.out.below b2)
    replace c0 := HC.out w2 HB2.out
    clear b2
    dsimp only
    go_wp2_with (fail)
    obtain ⟨ka, kc, tv, hki, hnd0⟩ := sl10ndK (cap := cap) HZ.out hnl HIN.out
    refine (hnd0 w2 HB2.out).mono ?_
    rintro e w3 ⟨rfl, b3⟩
    have HB3 := Lib.hid (HB2.out.trans (b3.mono HB2.out.size))
    have HR3 := Lib.hid (HR2.out.below b3)
    have F1 := Lib.hid (fldKids (upZ ns z0) (.slice ka (kidsZ ns z0).length kc) (ndAt ns z0).sty (ndAt ns z0).meas tv w3)
    have hkl := kids_len HT.out z0
    have hkat := fun j => kid_at (z := z0) HT.out (j := j)
    have HKA := Lib.hid hkat
    obtain ⟨zs, ezs⟩ : ∃ zs, zs = kidsZ ns z0 := ⟨_, rfl⟩
    rw [← ezs] at hki F1 hkl HKA HV ⊢
    have HKI := Lib.hid hki
    clear b3 c0 hki hkat ezs hnd0
    dsimp only
    go_wp2_with (first
      | ((with_reducible apply list_field); exact rfl; exact rfl; exact rfl; (with_reducible exact F1.out); simp only [Act.put, List.setIfInBounds_toArray, List.set_cons_succ, List.set_cons_zero])
      | fail)
    go_loopw [5, 7, 8] (fun v i _ wr => ApRel ns zs u v i wr) (fun _ i _ _ => zs.length - (intOf i).toNat)
    case atStart => exact ⟨0, Nat.zero_le _, rfl, HR3.out, HB3.out⟩
    case round =>
      obtain ⟨k, hk, rfl, ho, hb⟩ := hrel
      have HO := Lib.hid ho
      have HBr := Lib.hid hb
      have hlo : (0 : Int) ≤ (k : Int) := Int.natCast_nonneg _
      have c0 := HC.out wr hb
      by_cases hlt : k < zs.length
      · obtain ⟨kb, koff, rfl, _, ck⟩ := (HKI.out.below hb).look hlt
        have hhi : (k : Int) < (zs.length : Int) := by omega
        have hft := fK_take (ns := ns) (r := 1) hlt
        have hin := HKA.out k hlt
        generalize zs.getD k 0 = y at *
        obtain ⟨kv, tv', hnd⟩ := sl10ndF (cap := cap) (HZ.out.below hb) hnl hin
        have HND := Lib.hid hnd
        have HFT := Lib.hid hft
        clear ho hb hnd hft hin
        have er : rlZ (ndAt ns y).sty = if bz ((ndAt ns y).sty 7) = true then 2 else if bz ((ndAt ns y).sty 6) = true then 1 else 0 := rfl
        have ER := Lib.hid er
        have FS := Lib.hid (fun w => fldSty (ndAt ns y).up kv (ndAt ns y).sty (ndAt ns y).meas tv' w)
        clear er
        generalize ndAt ns y = n at *
        go_wp2_with (fail)
        refine region_new 8 7 (obj := .cells (sCells fun _ => 0) 41) (by kernel_rfl) (by kernel_rfl) rfl rfl rfl (fun a' w' => run_alloc_sty rfl) ?_
        apply Exists.intro
        refine ⟨?p0, ?s0⟩
        case p0 =>
          intro W0 hW0
          have q0 := fun d os => cell_regrown (HC.out W0 (HBr.out.trans (hW0.mono HBr.out.size))) d os
          have q1 := fun d os => cell_regrown ((hW0.cell (p := ⟨kb, koff + k, none⟩) (World.block_lt_of_cell? _ _ ck)).trans ck) d os
          simp [blank, nopOf]
          repeat (first
            | (go_big_quiet_want; (with_reducible apply quiet_field); exact rfl; exact rfl; (with_reducible exact FS.out); simp only [Act.put, List.setIfInBounds_toArray, List.set_cons_succ, List.set_cons_zero]; go_big_quiet_on)
            | go_big_quiet_step (first
              | (go_at_call 70; exact Calls.regrown_of (HND.out _ (hW0.trans ((below_regrown W0 _ _).mono hW0.size))))
              | fail))
          exact wpQuiet_nil rfl
        intro g0 w4 hg hb4 hsty
        simp only [List.drop_succ_cons, List.drop_zero]
        obtain ⟨w5, e5⟩ : ∃ w5, w5 = w4.setRow g0 (sCells n.sty) := ⟨_, rfl⟩
        have hs5 := setRow_heap _ _ _ (sCells n.sty) _ _ hsty
        have b5 := below_setRow hb4 hg (sCells n.sty)
        rw [← e5] at hs5 b5
        have HS5 := Lib.hid hs5
        have E5 := Lib.hid e5
        have HB5 := Lib.hid (HBr.out.trans (b5.mono HBr.out.size))
        have HO5 := Lib.hid (HO.out.below b5)
        have HSY := Lib.hid hsty
        have c7 := sty_bool hs5 7 (Or.inr rfl)
        have c6 := sty_bool hs5 6 (Or.inl rfl)
        have ck5 := (b5.cell (p := ⟨kb, koff + k, none⟩) (World.block_lt_of_cell? _ _ ck)).trans ck
        clear hs5 b5 e5 hsty hb4 hg ck c0
        generalize bz (n.sty 7) = h7 at *
        generalize bz (n.sty 6) = h6 at *
        by_cases hap : h7 = false ∧ h6 = true
        · obtain ⟨rfl, rfl⟩ := hap
          have hft := HFT.out
          rw [if_pos (by rw [ER.out]; rfl)] at hft
          have HF2 := Lib.hid hft
          clear hft
          have hfl := fK_le ns 1 (zs.take k)
          have htl : (zs.take k).length = k := by simp; omega
          go_wp2_with (first
            | ((with_reducible apply list_store_sty); exact rfl; exact rfl; exact rfl; exact rfl; (with_reducible exact HSY.out); simp only [World.size_alloc, Act.put, List.setIfInBounds_toArray, List.set_cons_succ, List.set_cons_zero])
            | (rw [← E5.out])
            | (at_builtin; refine wpList_append_own _ rfl _ _ 59 rfl u.heap.size 3 i0 (.int .i64 0) 1 8 Try.underlying59 hi hq0 hq1 hq2 rfl (by decide) _ _ _ rfl (World.ownsRow.alloc HO5.out _) ⟨w5.heap.size, 0, none⟩ 1 1 [.int .i64 y] rfl rfl (cell_one_new _ _ _) ?c2 ?c3 ?c4 ?c5 ?_)
            | fail)
          case c2 => first | rfl | (intro u hu; simp at hu; subst hu; rfl)
          case c3 => unfold maxLen; omega
          case c4 => omega
          case c5 => have := HB5.out.size; simp; omega
          intro v' w6 hown3 hgr _
          have HRA := World.ownsRow.alloc HO5.out (.cells #[Value.int .i64 y] 3)
          have B6 := Lib.hid (below_row (HB5.out.alloc HB5.out.size _) HRA (Nat.le_trans HB5.out.size (by simp)) hgr)
          have R6 := Lib.hid (show RowI u.heap.size v' (fK ns 1 (zs.take (k + 1))) w6 by rw [HF2.out]; unfold RowI; simpa using hown3)
          clear hown3 hgr HRA HO5 c6 c7 ck5
          go_wp2
          go_roundw
          case rel => exact ⟨k + 1, by omega, by go_num, R6.out, B6.out⟩
          case measure => simp [intOf]; omega
        · have hft := HFT.out
          rw [if_neg (by rw [ER.out]; cases h7 <;> cases h6 <;> simp_all)] at hft
          have R5 := Lib.hid (show RowI u.heap.size u5 (fK ns 1 (zs.take (k + 1))) w5 by rw [hft]; exact HO5.out)
          clear hft
          cases h7 <;> cases h6 <;> (try exact absurd ⟨rfl, rfl⟩ hap)
          all_goals
            go_wp2_with (first
              | ((with_reducible apply list_store_sty); exact rfl; exact rfl; exact rfl; exact rfl; (with_reducible exact HSY.out); simp only [World.size_alloc, Act.put, List.setIfInBounds_toArray, List.set_cons_succ, List.set_cons_zero])
              | (rw [← E5.out])
              | fail)
            go_roundw
            case rel => exact ⟨k + 1, by omega, by go_num, R5.out, HB5.out⟩
            case measure => simp [intOf]; omega
      · obtain rfl : k = zs.length := by omega
        rw [List.take_length] at HO
        clear ho hb
        go_wp2
        go_ret
        exact ⟨_, rfl, by rw [HV.out]; exact ownR_le2 HO.out (by omega), HB.out.trans (HBr.out.mono HB.out.size)⟩
  · have hv : apV ns z0 = [] := by unfold apV; rw [if_neg hh]
    have HV := Lib.hid hv
    have hh' : treeB ns = true → nIn ns.length z0 = false := fun h => by rw [h] at hh; simpa using hh
    clear hv hh
    generalize treeB ns = t at *
    generalize nIn ns.length z0 = q at *
    cases t
    · clear hh'
      go_enter Try.func39, Try.ntmps39
      go_wp2_with (first | (rw [← EU.out]) | (rw [← EX.out]))
      refine (KT.out _ HBX.out).mono ?_
      rintro e w1 ⟨rfl, b1⟩
      have HR1 := Lib.hid (HR.out.below b1)
      dsimp only
      go_wp2_with (fail)
      go_ret
      exact ⟨_, rfl, by rw [HV.out]; exact ownR_le2 HR1.out (by omega), HB.out.trans ((HBX.out.trans (b1.mono HBX.out.size)).mono HB.out.size)⟩
    · obtain rfl := hh' rfl
      clear hh'
      go_enter Try.func39, Try.ntmps39
      go_wp2_with (first | (rw [← EU.out]) | (rw [← EX.out]))
      refine (KT.out _ HBX.out).mono ?_
      rintro e w1 ⟨rfl, b1⟩
      have HB1 := Lib.hid (HBX.out.trans (b1.mono HBX.out.size))
      have HR1 := Lib.hid (HR.out.below b1)
      replace c0 := HC.out w1 HB1.out
      clear b1
      dsimp only
      go_wp2_with (fail)
      refine (KI.out _).mono ?_
      rintro e w2 ⟨rfl, b2⟩
      have HR2 := Lib.hid (HR1.out.below b2)
      dsimp only
      go_wp2_with (fail)
      go_ret
      exact ⟨_, rfl, by rw [HV.out]; exact ownR_le2 HR2.out (by omega), HB.out.trans ((HB1.out.trans (b2.mono HB1.out.size)).mono HB.out.size)⟩
end Go.Proofs.Ytiogjbdaaplhpaa
end

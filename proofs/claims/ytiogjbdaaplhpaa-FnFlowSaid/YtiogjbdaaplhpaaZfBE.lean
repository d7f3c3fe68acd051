import Derived.Test.YtiogjbdaaplhpaaZfAW
import Derived.Test.YtiogjbdaaplhpaaZfBA
import Derived.Test.YtiogjbdaaplhpaaZfBD
section
namespace Go.Proofs.Ytiogjbdaaplhpaa
open Go.ChangeShapes Go.WideShapes Go.ChangeAt Go.RowKit
set_option linter.unusedVariables false
set_option linter.unusedSimpArgs false
set_option maxRecDepth 8000

def AuRel (ns : List PN) (f : Nat) (z : Int) (zs : List Int) (u : World) (v i : Value) (wr : World) : Prop :=
  ∃ k : Nat, k ≤ zs.length ∧ i = .int .i64 k ∧ RowI u.heap.size v (z :: (zs.take k).flatMap (auF ns f)) wr ∧ Below u.heap.size u wr
set_option maxHeartbeats 4000000 in
theorem sunder (a : Option Addr) (cap : Nat) (ns : List PN) (ht : treeB ns = true) (hl : szS ns ≤ 1048576) :
    ∀ (f : Nat), f ≤ 4 → ∀ (z0 : Int) (w : World), Nds w a ns → nIn ns.length z0 = true → hOk ns f z0 →
    Calls Try.prog 41 #[.agg #[.slice a ns.length cap], .int .i64 z0] w (OutPost (auF ns f z0) w)
  | 0, _, z0, w, _, _, h => h.elim
  | f + 1, hf, z0, w, hz, hin, hok => by
    have IH := Lib.hid (sunder a cap ns ht hl f (by omega))
    obtain ⟨i0, hi, hq0, hq1, hq2⟩ := info_parts info_ap2
    have hnl : ns.length ≤ 1048576 := by unfold szS at hl; omega
    have B0 := bel_alloc w (.cells #[.slice a ns.length cap] 26)
    have h0 := hp_new w (.cells #[.slice a ns.length cap] 26)
    obtain ⟨u, eu⟩ : ∃ u, u = w.alloc (.cells #[.slice a ns.length cap] 26) := ⟨_, rfl⟩
    have hus : w.heap.size < u.heap.size := by rw [eu]; simp
    rw [← eu] at B0 h0
    have hr0 : RowI u.heap.size (.slice (some ⟨u.heap.size, 0, none⟩) 0 0) [] (u.alloc (.cells #[] 3)) := World.ownsRow_lit u #[] 0 (Nat.le_refl _) (by unfold maxLen; omega) rfl
    have hb0 := Go.Joins.below_alloc1 u (.cells #[] 3)
    obtain ⟨x, ex⟩ : ∃ x, x = u.alloc (.cells #[] 3) := ⟨_, rfl⟩
    rw [← ex] at hr0 hb0
    have EU := Lib.hid eu
    have EX := Lib.hid ex
    have HZ := Lib.hid (hz.below B0)
    have HB := Lib.hid B0
    have H0 := Lib.hid h0
    have HR := Lib.hid hr0
    have HBX := Lib.hid hb0
    have KT := Lib.hid (fun w' (h : Below u.heap.size u w') => streeok a cap ns w' (HZ.out.below h) hl)
    have KI := Lib.hid (fun w' => sl10is a ns.length cap z0 w')
    have hc0 := fun w' (h : Below u.heap.size u w') => (Go.Joins.cell_of_block ((h.block w.heap.size hus).trans H0.out) 0).trans (show _ = some (Value.slice a ns.length cap) from rfl)
    have HC := Lib.hid hc0
    have c0 := HC.out x HBX.out
    clear B0 hz eu h0 ex hr0 hb0 hc0
    rw [ht] at KT
    rw [hin] at KI
    have HT := Lib.hid ht
    have HIN := Lib.hid hin
    go_enter Try.func41, Try.ntmps41
    go_wp2_with (first | (rw [← EU.out]) | (rw [← EX.out]))
    refine (KT.out _ HBX.out).mono ?_
    rintro e w1 ⟨rfl, b1⟩
    have HB1 := Lib.hid (HBX.out.trans (b1.mono HBX.out.size))
    have HR1 := Lib.hid (HR.out.below b1)
    replace c0 := HC.out w1 HB1.out
    clear b1
    dsimp only
    go_wp2_with (fail)
    refine (KI.out _).mono ?_
    rintro e w2 ⟨rfl, b2⟩
    have HB2 := Lib.hid (HB1.out.trans (b2.mono HB1.out.size))
    have HR2 := Lib.hid (HR1.out.below b2)
    replace c0 := HC.out w2 HB2.out
    clear b2
    obtain ⟨ve, eve⟩ : ∃ q, q = Value.slice (some ⟨u.heap.size, 0, none⟩) 0 0 := ⟨_, rfl⟩
    rw [← eve] at HR2 ⊢
    clear eve HR1 HR
    dsimp only
    -- the node itself
    go_wp2_with (first
      | (at_builtin; refine wpList_append_own _ rfl _ _ 59 rfl u.heap.size 3 i0 (.int .i64 0) 1 8 Try.underlying59 hi hq0 hq1 hq2 rfl (by decide) _ _ _ rfl (World.ownsRow.alloc HR2.out _) ⟨w2.heap.size, 0, none⟩ 1 1 [.int .i64 z0] rfl rfl (cell_one_new _ _ _) ?c2 ?c3 ?c4 ?c5 ?_)
      | fail)
    case c2 => first | rfl | (intro u hu; simp at hu; subst hu; rfl)
    case c3 => unfold maxLen; simp
    case c4 => simp
    case c5 => have := HB2.out.size; simp; omega
    intro v0 w3 hown3 hgr _
    have HRA := World.ownsRow.alloc HR2.out (.cells #[Value.int .i64 z0] 3)
    have HB3 := Lib.hid (below_row (HB2.out.alloc HB2.out.size _) HRA (Nat.le_trans HB2.out.size (by simp)) hgr)
    have HR3 := Lib.hid (show RowI u.heap.size v0 [z0] w3 by unfold RowI; simpa using hown3)
    clear hown3 hgr HRA
    have c0 := HC.out w3 HB3.out
    obtain ⟨ka, kc, tv, hki, hnd0⟩ := sl10ndK (cap := cap) HZ.out hnl HIN.out
    have HND0 := Lib.hid (hnd0 w3 HB3.out)
    clear hnd0
    go_wp2_with (fail)
    refine HND0.out.mono ?_
    rintro e w4 ⟨rfl, b4⟩
    have HB4 := Lib.hid (HB3.out.trans (b4.mono HB3.out.size))
    have HR4 := Lib.hid (HR3.out.below b4)
    have F1 := Lib.hid (fldKids (upZ ns z0) (.slice ka (kidsZ ns z0).length kc) (ndAt ns z0).sty (ndAt ns z0).meas tv w4)
    have hkl := kids_len HT.out z0
    have HKA := Lib.hid (fun j => kid_at (z := z0) HT.out (j := j))
    have hokz : ∀ k ∈ kidsZ ns z0, hOk ns f k := hok
    have HV := Lib.hid (show auF ns (f + 1) z0 = z0 :: (kidsZ ns z0).flatMap (auF ns f) from rfl)
    have hfl : ∀ k, ((kidsZ ns z0).take k).length * 13 ^ f ≤ 12 * 13 ^ f := fun k => Nat.mul_le_mul_right _ (by simp; omega)
    have hpw : 13 ^ f ≤ 2197 := by
      have : 13 ^ f ≤ 13 ^ 3 := Nat.pow_le_pow_right (by decide) (by omega)
      simpa using this
    obtain ⟨zs, ezs⟩ : ∃ zs, zs = kidsZ ns z0 := ⟨_, rfl⟩
    rw [← ezs] at hki F1 hkl HKA HV hokz hfl ⊢
    have HKI := Lib.hid hki
    have HOKZ := Lib.hid hokz
    have HFL := Lib.hid hfl
    clear b4 c0 hki ezs hokz hfl hok
    dsimp only
    go_wp2_with (first
      | ((with_reducible apply list_field); exact rfl; exact rfl; exact rfl; (with_reducible exact F1.out); simp only [Act.put, List.setIfInBounds_toArray, List.set_cons_succ, List.set_cons_zero])
      | fail)
    go_loopw [5, 7] (fun v i wr => AuRel ns f z0 zs u v i wr) (fun _ i _ => zs.length - (intOf i).toNat)
    case atStart => exact ⟨0, Nat.zero_le _, rfl, HR4.out, HB4.out⟩
    case round =>
      obtain ⟨k, hk, rfl, ho, hb⟩ := hrel
      have HO := Lib.hid ho
      have HBr := Lib.hid hb
      have hlo : (0 : Int) ≤ (k : Int) := Int.natCast_nonneg _
      have c0 := HC.out wr hb
      by_cases hlt : k < zs.length
      · obtain ⟨kb, koff, rfl, _, ck⟩ := (HKI.out.below hb).look hlt
        have hhi : (k : Int) < (zs.length : Int) := by omega
        have hin' := HKA.out k hlt
        have hgk : zs.getD k 0 = zs[k] := by rw [List.getD_eq_getElem?_getD, List.getElem?_eq_getElem hlt]; rfl
        have hoky : hOk ns f (zs.getD k 0) := by rw [hgk]; exact HOKZ.out _ (List.getElem_mem hlt)
        have htk : z0 :: (zs.take (k + 1)).flatMap (auF ns f) = (z0 :: (zs.take k).flatMap (auF ns f)) ++ auF ns f (zs.getD k 0) := by
          rw [List.take_succ_eq_append_getElem hlt, List.flatMap_append, hgk]
          simp
        have hlen : (z0 :: (zs.take k).flatMap (auF ns f)).length ≤ 26365 := by
          have h1 := flat_len (auF_len HT.out f) (zs.take k)
          have h2 := HFL.out k
          rw [List.length_cons]
          omega
        have hyl := auF_len HT.out f (zs.getD k 0)
        have hyA : AllI (auF ns f (zs.getD k 0)) := fun q hq => by
          have h1 := nIn_iff.1 (auF_in HT.out f _ hin' q hq)
          have h2 := treeB_len HT.out
          omega
        have KA := Lib.hid (fun w' (h : Below u.heap.size u w') => IH.out (zs.getD k 0) w' (HZ.out.below h) hin' hoky)
        have CKA := Lib.hid (fun w' (h : Below u.heap.size u w') => (show w'.cell? ⟨kb, koff + k, none⟩ = some (.int .i64 (zs.getD k 0)) from by
          obtain ⟨b', o', e, _, hc⟩ := (HKI.out.below h).look hlt
          simp at e
          obtain ⟨rfl, rfl⟩ := e
          exact hc))
        have HTK := Lib.hid htk
        have HYA := Lib.hid hyA
        clear htk hyA hoky hin' ho hb hgk
        generalize zs.getD k 0 = y at *
        generalize z0 :: (zs.take k).flatMap (auF ns f) = R at *
        have hyl' : (auF ns f y).length ≤ 2197 := by omega
        clear hyl
        generalize auF ns f y = Y at *
        obtain ⟨va, vc, rfl⟩ := own_form HO.out
        go_wp2_with (fail)
        refine wp_region_held_drew (S := fun w' => w'.cell? ⟨w.heap.size, 0, none⟩ = some (.slice a ns.length cap) ∧ w'.cell? ⟨kb, koff + k, none⟩ = some (.int .i64 y)) (by kernel_rfl) ⟨c0, ck⟩ (fun hHeld => ?_)
        refine wpAnyH_take (i := 0) (oi := ⟨some 33, Op.move (Operand.tmp 5), _, _, _, _⟩) (v := .slice va R.length vc) rfl (by kernel_rfl) (by kernel_rfl) (by kernel_rfl) (fun _ _ _ h => h) (Or.inl ⟨by rfl, fun W hW => by (try dsimp only at hW); obtain ⟨hW1, hW2⟩ := hW; go_simp <;> with_reducible rfl⟩) hHeld ?_
        simp only [World.size_alloc, Act.put, List.setIfInBounds_toArray, List.set_cons_succ, List.set_cons_zero]
        refine wpAnyH_take (i := 1) (oi := ⟨some 34, Op.load 26 (Operand.tmp 2), _, _, _, _⟩) (v := .agg #[.slice a ns.length cap]) rfl (by kernel_rfl) (by kernel_rfl) (by kernel_rfl) (fun _ _ _ h => h) (Or.inl ⟨by rfl, fun W hW => by (try dsimp only at hW); obtain ⟨hW1, hW2⟩ := hW; go_simp <;> with_reducible rfl⟩) hHeld ?_
        simp only [World.size_alloc, Act.put, List.setIfInBounds_toArray, List.set_cons_succ, List.set_cons_zero]
        refine wpAnyH_take (i := 2) (oi := ⟨some 35, Op.move (Operand.tmp 6), _, _, _, _⟩) (v := .slice (some ⟨kb, koff, none⟩) zs.length kc) rfl (by kernel_rfl) (by kernel_rfl) (by kernel_rfl) (fun _ _ _ h => h) (Or.inl ⟨by rfl, fun W hW => by (try dsimp only at hW); obtain ⟨hW1, hW2⟩ := hW; go_simp <;> with_reducible rfl⟩) hHeld ?_
        simp only [World.size_alloc, Act.put, List.setIfInBounds_toArray, List.set_cons_succ, List.set_cons_zero]
        refine wpAnyH_take (i := 3) (oi := ⟨some 36, Op.move (Operand.tmp 7), _, _, _, _⟩) (v := .int .i64 (k : Int)) rfl (by kernel_rfl) (by kernel_rfl) (by kernel_rfl) (fun _ _ _ h => h) (Or.inl ⟨by rfl, fun W hW => by (try dsimp only at hW); obtain ⟨hW1, hW2⟩ := hW; go_simp <;> with_reducible rfl⟩) hHeld ?_
        simp only [World.size_alloc, Act.put, List.setIfInBounds_toArray, List.set_cons_succ, List.set_cons_zero]
        refine wpAnyH_take (i := 4) (oi := ⟨some 37, Op.indexAddr 59 (Operand.tmp 35) (Operand.tmp 36), _, _, _, _⟩) (v := .pointer (some ⟨kb, koff + k, none⟩)) rfl (by kernel_rfl) (by kernel_rfl) (by kernel_rfl) (fun _ _ _ h => h) (Or.inl ⟨by rfl, fun W hW => by (try dsimp only at hW); obtain ⟨hW1, hW2⟩ := hW; go_simp <;> with_reducible rfl⟩) hHeld ?_
        simp only [World.size_alloc, Act.put, List.setIfInBounds_toArray, List.set_cons_succ, List.set_cons_zero]
        refine wpAnyH_take (i := 5) (oi := ⟨some 38, Op.load 3 (Operand.tmp 37), _, _, _, _⟩) (v := .int .i64 y) rfl (by kernel_rfl) (by kernel_rfl) (by kernel_rfl) (fun _ _ _ h => h) (Or.inl ⟨by rfl, fun W hW => by (try dsimp only at hW); obtain ⟨hW1, hW2⟩ := hW; go_simp <;> with_reducible rfl⟩) hHeld ?_
        simp only [World.size_alloc, Act.put, List.setIfInBounds_toArray, List.set_cons_succ, List.set_cons_zero]
        obtain ⟨d, ed⟩ : ∃ d, d = wr.drew := ⟨_, rfl⟩
        rw [← ed]
        have bd : Below wr.heap.size wr d := (by rw [ed]; exact (Below.refl wr.heap.size wr).drew)
        have HBD := Lib.hid (HBr.out.trans (bd.mono HBr.out.size))
        have HOD := Lib.hid (HO.out.below bd)
        clear ed hHeld c0
        refine anyH_1 6 rfl (by kernel_rfl) rfl ?_
        go_wp2_with (fail)
        refine (KA.out d HBD.out).mono ?_
        rintro e w5 ⟨v2, rfl, hr2, b5⟩
        have HB5 := Lib.hid (HBD.out.trans (b5.mono HBD.out.size))
        have HO5 := Lib.hid (HOD.out.below b5)
        obtain ⟨ya, yc, rfl, hys⟩ := RowI.slice hr2 HYA.out
        have ck5 := ((bd.trans (b5.mono bd.size)).cell (p := ⟨kb, koff + k, none⟩) (World.block_lt_of_cell? _ _ ck)).trans ck
        clear hr2 b5 bd
        (try dsimp only)
        first | refine ⟨⟨HC.out w5 HB5.out, ck5⟩, ?_⟩ | refine ⟨HC.out w5 HB5.out, ck5, ?_⟩
        refine anyH_1 7 rfl (by kernel_rfl) rfl ?_
        refine wp_append_any _ _ 59 rfl u.heap.size 3 i0 (.int .i64 0) 1 8 Try.underlying59 hi hq0 hq1 hq2 rfl (by decide) (.slice va R.length vc) R.length (R.map (Value.int .i64)) rfl HO5.out ya Y.length yc (Y.map (Value.int .i64)) rfl (by simp) (ints_news hys) (ints_one' _) (by unfold maxLen; omega) (by omega) HB5.out.size ?_
        intro v3 w6 hown hgr _
        obtain ⟨a3, c3, rfl⟩ := own_form hown
        have HB6 := Lib.hid (HB5.out.grown hgr HB5.out.size (fun q hq => (World.ownsRow.lt HO5.out q hq).1))
        have HR6 := Lib.hid (show RowI u.heap.size (.slice a3 (R.length + Y.length) c3) (z0 :: (zs.take (k + 1)).flatMap (auF ns f)) w6 by rw [HTK.out]; unfold RowI; rw [List.length_append, List.map_append]; exact hown)
        have ck6 := CKA.out w6 HB6.out
        clear hown hgr
        simp only [Act.put, List.setIfInBounds_toArray, List.set_cons_zero, List.set_cons_succ]
        first | refine ⟨⟨HC.out w6 HB6.out, ck6⟩, ?_⟩ | refine ⟨HC.out w6 HB6.out, ck6, ?_⟩
        refine anyH_1 8 rfl (by kernel_rfl) rfl ?_
        go_wp2_with (fail)
        (try dsimp only)
        refine ⟨HC.out w6 HB6.out, by kernel_rfl, ?_⟩
        clear ck ck5 ck6
        go_wp2
        go_roundw
        case rel => exact ⟨k + 1, by omega, by go_num, HR6.out, HB6.out⟩
        case measure => simp [intOf]; omega
      · obtain rfl : k = zs.length := by omega
        rw [List.take_length] at HO
        clear ho hb
        go_wp2
        go_ret
        exact ⟨_, rfl, by rw [HV.out]; exact ownR_le2 HO.out (by omega), HB.out.trans (HBr.out.mono HB.out.size)⟩
set_option maxHeartbeats 4000000 in
theorem sallunder (a : Option Addr) (cap : Nat) (ns : List PN) (z0 : Int) (w : World) (hz : Nds w a ns) (hl : szS ns ≤ 1048576) (hz0 : I64 z0) :
    Calls Try.prog 41 #[.agg #[.slice a ns.length cap], .int .i64 z0] w (OutPost (auV ns z0) w) := by
  have HZW := Lib.hid hz
  obtain ⟨i0, hi, hq0, hq1, hq2⟩ := info_parts info_ap2
  have hnl : ns.length ≤ 1048576 := by unfold szS at hl; omega
  have B0 := bel_alloc w (.cells #[.slice a ns.length cap] 26)
  have h0 := hp_new w (.cells #[.slice a ns.length cap] 26)
  obtain ⟨u, eu⟩ : ∃ u, u = w.alloc (.cells #[.slice a ns.length cap] 26) := ⟨_, rfl⟩
  have hus : w.heap.size < u.heap.size := by rw [eu]; simp
  rw [← eu] at B0 h0
  have hr0 : RowI u.heap.size (.slice (some ⟨u.heap.size, 0, none⟩) 0 0) [] (u.alloc (.cells #[] 3)) := World.ownsRow_lit u #[] 0 (Nat.le_refl _) (by unfold maxLen; omega) rfl
  have hb0 := Go.Joins.below_alloc1 u (.cells #[] 3)
  obtain ⟨x, ex⟩ : ∃ x, x = u.alloc (.cells #[] 3) := ⟨_, rfl⟩
  rw [← ex] at hr0 hb0
  have EU := Lib.hid eu
  have EX := Lib.hid ex
  have HZ := Lib.hid (hz.below B0)
  have HB := Lib.hid B0
  have H0 := Lib.hid h0
  have HR := Lib.hid hr0
  have HBX := Lib.hid hb0
  have KT := Lib.hid (fun w' (h : Below u.heap.size u w') => streeok a cap ns w' (HZ.out.below h) hl)
  have KI := Lib.hid (fun w' => sl10is a ns.length cap z0 w')
  have hc0 := fun w' (h : Below u.heap.size u w') => (Go.Joins.cell_of_block ((h.block w.heap.size hus).trans H0.out) 0).trans (show _ = some (Value.slice a ns.length cap) from rfl)
  have HC := Lib.hid hc0
  have c0 := HC.out x HBX.out
  clear B0 hz eu h0 ex hr0 hb0 hc0
  by_cases hh : (nIn ns.length z0 && treeB ns) = true
  · have hv : auV ns z0 = auF ns 4 z0 := by unfold auV; rw [if_pos hh]
    have h1 : nIn ns.length z0 = true ∧ treeB ns = true := by simpa using hh
    rw [hv]
    exact sunder a cap ns h1.2 hl 4 (Nat.le_refl _) z0 w HZW.out h1.1 (au_ok h1.2 h1.1)
  · have hv : auV ns z0 = [] := by unfold auV; rw [if_neg hh]
    have HV := Lib.hid hv
    have hh' : treeB ns = true → nIn ns.length z0 = false := fun h => by rw [h] at hh; simpa using hh
    clear hv hh
    generalize treeB ns = t at *
    generalize nIn ns.length z0 = q at *
    cases t
    · clear hh'
      go_enter Try.func41, Try.ntmps41
      go_wp2_with (first | (rw [← EU.out]) | (rw [← EX.out]))
      refine (KT.out _ HBX.out).mono ?_
      rintro e w1 ⟨rfl, b1⟩
      have HR1 := Lib.hid (HR.out.below b1)
      dsimp only
      go_wp2_with (fail)
      go_ret
      exact ⟨_, rfl, by rw [HV.out]; exact ownR_le2 HR1.out (by omega), HB.out.trans ((HBX.out.trans (b1.mono HBX.out.size)).mono HB.out.size)⟩
    · obtain rfl := hh' rfl
      clear hh'
      go_enter Try.func41, Try.ntmps41
      go_wp2_with (first | (rw [← EU.out]) | (rw [← EX.out]))
      refine (KT.out _ HBX.out).mono ?_
      rintro e w1 ⟨rfl, b1⟩
      have HB1 := Lib.hid (HBX.out.trans (b1.mono HBX.out.size))
      have HR1 := Lib.hid (HR.out.below b1)
      replace c0 := HC.out w1 HB1.out
      clear b1
      dsimp only
      go_wp2_with (fail)
      refine (KI.out _).mono ?_
      rintro e w2 ⟨rfl, b2⟩
      have HR2 := Lib.hid (HR1.out.below b2)
      dsimp only
      go_wp2_with (fail)
      go_ret
      exact ⟨_, rfl, by rw [HV.out]; exact ownR_le2 HR2.out (by omega), HB.out.trans ((HB1.out.trans (b2.mono HB1.out.size)).mono HB.out.size)⟩
end Go.Proofs.Ytiogjbdaaplhpaa
end

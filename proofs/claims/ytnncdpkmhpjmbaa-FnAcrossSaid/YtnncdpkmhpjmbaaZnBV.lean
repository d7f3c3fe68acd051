import Derived.Test.YtnncdpkmhpjmbaaZnBO
import Derived.Test.YtnncdpkmhpjmbaaZnBU
section
namespace Go.Proofs.Ytnncdpkmhpjmbaa
open Go.ChangeShapes Go.WideShapes Go.ChangeAt Go.RowKit
set_option linter.unusedVariables false
set_option linter.unusedSimpArgs false
set_option maxRecDepth 8000

set_option maxHeartbeats 4000000 in
theorem sstretch (b : Option Addr) (len cap2 : Nat) (zs : List Int) (gap inner ct : Int) (w : World) (hs : Ints w b len zs) (hsl : len ≤ 1048576) :
    Calls Try.prog 17 #[.slice b len cap2, .int .i64 gap, .int .i64 inner, .int .i64 ct] w (OutPost (stV16 zs gap inner ct) w) := by
  obtain ⟨i0, hi, hz0, hz1, hz2⟩ := info_parts info_intK
  have hzl : zs.length = len := hs.1
  subst hzl
  have HS := Lib.hid hs
  have b1 := Go.Joins.below_alloc1 w (.cells #[] 3)
  have hown : (w.alloc (.cells #[] 3)).ownsRow w.heap.size 3 1 (.slice (some ⟨w.heap.size, 0, none⟩) 0 0) 0 [] := World.ownsRow_lit w #[] 0 (Nat.le_refl _) (by unfold maxLen; omega) rfl
  have HO := Lib.hid hown
  have HN := Lib.hid (ints_news (hs.below b1))
  have HB1 := Lib.hid b1
  have KO := Lib.hid (fun w' (h : Below w.heap.size w w') => sacok b zs.length cap2 zs gap inner w' (hs.below h) hsl)
  clear hs hown b1
  go_enter Try.func17, Try.ntmps17
  go_wp2_with (first
    | (at_builtin; refine list_append_any rfl _ _ 24 rfl w.heap.size 3 i0 (.int .i64 0) 1 8 Try.underlying24 hi hz0 hz1 hz2 rfl (by decide) _ 0 [] rfl HO.out b zs.length cap2 (zs.map (Value.int .i64)) rfl (by simp) HN.out (ints_one' zs) (by unfold maxLen; omega) (by omega) (by simp) ?_)
    | fail)
  intro v' w3 hown3 hgr _
  have hk : RowI w.heap.size v' zs w3 := by unfold RowI; simpa using hown3
  have hb : Below w.heap.size w w3 := (HB1.out.grown hgr HB1.out.size (fun k hk => by simp [Value.ownBlock] at hk; omega))
  have R3 := Lib.hid hk
  have B3 := Lib.hid hb
  clear hown3 hgr HO HN HB1 hk hb
  (try dsimp only)
  go_wp2_with (fail)
  refine (KO.out w3 B3.out).mono ?_
  rintro e w4 ⟨rfl, b4⟩
  have R4 := Lib.hid (R3.out.below b4)
  have B4 := Lib.hid (B3.out.trans (b4.mono B3.out.size))
  clear b4 KO R3 B3
  cases hok : acOk zs gap inner with
  | false =>
    have hv : stV16 zs gap inner ct = zs := by unfold stV16; rw [if_neg (fun h => by rw [hok] at h; exact absurd h.2 (by decide))]
    have HV := Lib.hid hv
    clear hv
    (try dsimp only)
    go_wp2
    go_ret
    exact ⟨_, rfl, by rw [HV.out]; exact R4.out, B4.out⟩
  | true =>
    have hF := ac_of hok
    have hcb := cr_bd hF
    have hib := hF.inner
    have h12 := hF.n12
    have HLS := Lib.hid hF.ls
    have KX := Lib.hid (scrtot b zs.length cap2 zs gap w4 (HS.out.below B4.out) hsl)
    have hw1 : IntKind.i64.wrap (inner - crV zs gap) = inner - crV zs gap := IntWalk.i64_in _ (by omega)
    by_cases hc : ct = 1 ∧ 0 < inner - crV zs gap
    · obtain ⟨rfl, hpos⟩ := hc
      have hv : stV16 zs gap inner 1 = adK zs (crG zs gap inner) zs.length := by unfold stV16; rw [if_pos ⟨rfl, hok⟩]
      have HV := Lib.hid hv
      clear hv
      have hgl := crG_len (zs := zs) (by omega) gap inner
      have hgb := crG_bd zs gap inner
      have hga : AllI (crG zs gap inner) := evn_all _ _
      have KE := Lib.hid (fun w' => sev_any (inner - crV zs gap) zs.length w')
      have hG : evnL (inner - crV zs gap) zs.length = crG zs gap inner := by unfold crG; rw [if_neg (by omega)]
      rw [hG] at KE
      have hnn : ¬ inner - crV zs gap ≤ 0 := by omega
      generalize crG zs gap inner = G at *
      generalize crV zs gap = X at *
      clear hG hF
      (try dsimp only)
      go_wp2_with (fail)
      refine KX.out.mono ?_
      rintro e w5 ⟨rfl, b5⟩
      have R5 := Lib.hid (R4.out.below b5)
      have B5 := Lib.hid (B4.out.trans (b5.mono B4.out.size))
      clear b5 KX R4 B4
      (try dsimp only)
      go_wp2_with (fail)
      refine (KE.out w5).mono ?_
      rintro e w6 ⟨v2, rfl, r6, b6⟩
      obtain ⟨a2, c2, rfl, hi2⟩ := r6.slice hga
      have R6 := Lib.hid (R5.out.below b6)
      have B6 := Lib.hid (B5.out.trans (b6.mono B5.out.size))
      have hap : ∀ k, (Value.slice a2 G.length c2).ownBlock = some k → w5.heap.size ≤ k := fun k hk => (World.ownsRow.lt r6 k hk).1
      have HI2 := Lib.hid r6
      clear b6 r6 hi2 KE
      rcases R6.out.form with ⟨rfl, hnil⟩ | ⟨g, c, rfl⟩
      · have hn0 : zs.length = 0 := by rw [hnil]; rfl
        subst hnil
        (try dsimp only)
        go_wp2
        go_loopw [12] (fun i wr => i = .int .i64 0 ∧ wr = w6) (fun i _ => 0)
        case atStart => exact ⟨rfl, rfl⟩
        case round =>
          obtain ⟨rfl, rfl⟩ := hrel
          go_wp2
          go_ret
          exact ⟨_, rfl, by rw [HV.out]; exact R6.out, B6.out⟩
      · have hgw := (World.ownsRow.lt R5.out g rfl).2
        have hne : (Value.slice a2 G.length c2).ownBlock = none ∨ (Value.slice a2 G.length c2).ownBlock ≠ some g := by
          cases hv : (Value.slice a2 G.length c2).ownBlock with
          | none => exact Or.inl rfl
          | some q => exact Or.inr (fun e => by injection e with e; have := hap q hv; omega)
        have HNE := Lib.hid hne
        have R7 := Lib.hid (show RowI w.heap.size (.slice (some ⟨g, 0, none⟩) zs.length c) (adK zs G 0 ++ zs.drop 0) w6 from R6.out)
        clear hne hap R5 R6
        (try dsimp only)
        go_wp2
        go_loopw [12] (StRel w w6 zs G g c) (fun i _ => zs.length - (intOf i).toNat)
        case atStart => exact ⟨0, Nat.zero_le _, rfl, R7.out, World.grownBy.refl _ _, B6.out⟩
        case round =>
          clear R7 B6
          obtain ⟨k, hk, rfl, ho, hg, hb⟩ := hrel
          by_cases hlt : k < zs.length
          · have hlo : (0 : Int) ≤ (k : Int) := Int.natCast_nonneg _
            have hhi : (k : Int) < (zs.length : Int) := by omega
            have hhg : (k : Int) < (G.length : Int) := by omega
            have hll : (adK zs G k ++ zs.drop k).length = zs.length := by rw [List.length_append, adK_len, List.length_drop]; omega
            have hr2 := RowI.kept HI2.out hg HNE.out
            obtain ⟨a3, c3, e3, hi3⟩ := hr2.slice hga
            injection e3 with e31 e32 e33
            subst e31
            obtain ⟨bg, og, rfl, hbg, hcg⟩ := hi3.look (k := k) (by omega)
            have hcz := ho.cell hll hlt
            rw [adK_get hlt] at hcz
            have hz1 := HLS.out k
            have hg1 := hgb k
            have HB := Lib.hid hb
            have HG := Lib.hid hg
            have HOO := Lib.hid ho
            have HSETK := Lib.hid (adK_set (zs := zs) (G := G) hlt)
            have HLL := Lib.hid hll
            clear hr2 hi3 hg hb ho e32 e33 hll
            have D1 := fun d os => cell_regrown hcz d os
            have D2 := fun d os => cell_regrown hcg d os
            have HPUT := Lib.hid (fun (w9 : World) (h : RowI w.heap.size (.slice (some ⟨g, 0, none⟩) zs.length c) (adK zs G k ++ zs.drop k) w9) => h.put HLL.out hlt (zs.getD k 0 + G.getD k 0))
            generalize zs.getD k 0 = z at *
            generalize G.getD k 0 = y at *
            have hwr : IntKind.i64.wrap (z + y) = z + y := IntWalk.i64_in _ (by omega)
            go_wp2_with (fail)
            refine region_qtail 12 (by kernel_rfl) (by kernel_rfl) ?_
            simp only [blank, nopOf, Nat.reduceAdd, Nat.reduceEqDiff, Nat.reduceLeDiff, or_self, or_true, false_or, or_false, true_or, ↓reduceIte]
            repeat (go_big_quiet_step (fail))
            refine wpQuiet_nil ?_
            intro w9 hw
            have bd := below_of hw
            have HO9 := HOO.out.below bd
            clear hw D1 D2 hcz hcg
            obtain ⟨hq, fq, hput⟩ := HPUT.out w9 HO9
            rw [HSETK.out] at hput
            have hge := (World.ownsRow.lt HO9 g rfl).1
            have R3 := Lib.hid hput
            have G3 := Lib.hid ((HG.out.trans (⟨bd.os, bd.tape, bd.output, bd.size, fun k hk _ => bd.block k hk⟩ : wr.grownBy w9 (some g))).trans (gr_setC w9 g k (.int .i64 (z + y))))
            have B3 := Lib.hid (bl_set (HB.out.trans (bd.mono HB.out.size)) (g := g) k hge (.int .i64 (z + y)))
            obtain ⟨q2, cq⟩ := hq
            clear hput bd HO9
            simp only [List.drop_succ_cons, List.drop_zero]
            (try dsimp only)
            go_wp2
            go_roundw
            case rel => exact ⟨k + 1, by omega, by go_num, R3.out, G3.out, B3.out⟩
            case measure => simp [intOf]; omega
          · obtain rfl : k = zs.length := by omega
            have R3 := Lib.hid (show RowI w.heap.size (.slice (some ⟨g, 0, none⟩) zs.length c) (adK zs G zs.length) wr by
              rw [List.drop_length, List.append_nil] at ho; exact ho)
            have B3 := Lib.hid hb
            clear ho hg hb
            go_wp2
            go_ret
            exact ⟨_, rfl, by rw [HV.out]; exact R3.out, B3.out⟩
    · have hv : stV16 zs gap inner ct = zs := by
        unfold stV16
        split
        · rename_i h
          rw [crG_zero (by omega) (by omega)]
          exact adK_zero
        · rfl
      have HV := Lib.hid hv
      clear hv
      generalize crV zs gap = X at *
      clear hF
      by_cases h1 : ct = 1
      · subst h1
        have hle : inner - X ≤ 0 := by omega
        (try dsimp only)
        go_wp2_with (fail)
        refine KX.out.mono ?_
        rintro e w5 ⟨rfl, b5⟩
        have R5 := Lib.hid (R4.out.below b5)
        have B5 := Lib.hid (B4.out.trans (b5.mono B4.out.size))
        clear b5 KX R4 B4
        (try dsimp only)
        go_wp2
        go_ret
        exact ⟨_, rfl, by rw [HV.out]; exact R5.out, B5.out⟩
      · (try dsimp only)
        go_wp2_with (fail)
        refine KX.out.mono ?_
        rintro e w5 ⟨rfl, b5⟩
        have R5 := Lib.hid (R4.out.below b5)
        have B5 := Lib.hid (B4.out.trans (b5.mono B4.out.size))
        clear b5 KX R4 B4
        (try dsimp only)
        go_wp2
        go_ret
        exact ⟨_, rfl, by rw [HV.out]; exact R5.out, B5.out⟩
theorem sjust16 (ct : Int) (w : World) : Calls Try.prog 46 #[.int .i64 ct] w fun e w' => e = .returned (.int .i64 (jsV ct)) ∧ w' = w := by
  by_cases h3 : ct = 3 <;> by_cases h4 : ct = 4 <;> by_cases h5 : ct = 5 <;> by_cases h6 : ct = 6 <;> (try omega) <;>
    (go_enter Try.func46, Try.ntmps46
     go_wp2
     go_ret
     exact ⟨ret_int (by unfold jsV; (repeat' split) <;> omega), rfl⟩)
theorem scV_bd {free : Int} {n : Nat} {js : Int} (h0 : -1048576 ≤ free) (h1 : free ≤ 1048576) (j : Nat) : -2097154 ≤ (scV free n js).getD j 0 ∧ (scV free n js).getD j 0 ≤ 2097154 := by
  by_cases hj : j + 1 < n
  · rw [scV_at hj]; exact sp_bd h0 h1 _
  · have : (scV free n js).getD j 0 = 0 := by
      unfold scV
      rw [List.getD_eq_getElem?_getD, List.getElem?_append_right (by rw [spcK_len]; omega), List.getElem?_drop, List.getElem?_replicate]
      split <;> rfl
    rw [this]; exact ⟨by decide, by decide⟩
theorem ints_keptC {w w' : World} {a : Option Addr} {len lo hi : Nat} {zs : List Int} {v : Value} (h : Ints w a len zs) (hg : w.grownBy w' v.ownBlock) (hv : ∀ b, v.ownBlock = some b → b = lo ∨ hi ≤ b) (ha : ∀ b off, a = some ⟨b, off, none⟩ → lo < b ∧ b < hi) : Ints w' a len zs := by
  refine ⟨h.1, h.2.1, ?_⟩
  rcases h.2.2 with h0 | ⟨b, off, e, hlt, hc⟩
  · exact Or.inl h0
  · exact Or.inr ⟨b, off, e, Nat.lt_of_lt_of_le hlt hg.size, fun i hi => hg.cell (hc i hi) (fun e2 => by
      have h1 := ha b off e
      have h2 := hv b e2.symm
      omega)⟩
def PlRel16 (w w5 : World) (zs SP : List Int) (gap s0 : Int) (sa : Option Addr) (v t i : Value) (wr : World) : Prop :=
  ∃ k : Nat, k ≤ zs.length ∧ i = .int .i64 k ∧ t = .int .i64 (atK zs SP gap s0 k) ∧ RowI w.heap.size v (atL zs SP gap s0 k) wr ∧ (∀ b, v.ownBlock = some b → b = w.heap.size ∨ w5.heap.size ≤ b) ∧ Below w.heap.size w wr ∧ Ints wr sa zs.length SP ∧ w5.heap.size ≤ wr.heap.size
set_option maxHeartbeats 4000000 in
theorem splacelines (b : Option Addr) (len cap2 : Nat) (zs : List Int) (gap inner ct : Int) (w : World) (hs : Ints w b len zs) (hsl : len ≤ 1048576) :
    Calls Try.prog 18 #[.slice b len cap2, .int .i64 gap, .int .i64 inner, .int .i64 ct] w (OutPost (acV zs gap inner ct) w) := by
  obtain ⟨i0, hi, hz0, hz1, hz2⟩ := info_parts info_intK
  have hzl : zs.length = len := hs.1
  subst hzl
  have HS := Lib.hid hs
  have b1 := Go.Joins.below_alloc1 w (.cells #[] 3)
  have hown : (w.alloc (.cells #[] 3)).ownsRow w.heap.size 3 1 (.slice (some ⟨w.heap.size, 0, none⟩) 0 0) 0 [] := World.ownsRow_lit w #[] 0 (Nat.le_refl _) (by unfold maxLen; omega) rfl
  have hs1 : (w.alloc (.cells #[] 3)).heap.size = w.heap.size + 1 := by simp
  have KO := Lib.hid (fun w' (h : Below w.heap.size w w') => sacok b zs.length cap2 zs gap inner w' (hs.below h) hsl)
  obtain ⟨w1, e1⟩ : ∃ q, q = w.alloc (.cells #[] 3) := ⟨_, rfl⟩
  rw [← e1] at hown b1 hs1
  have HO := Lib.hid (show RowI w.heap.size (.slice (some ⟨w.heap.size, 0, none⟩) 0 0) [] w1 from hown)
  have B1 := Lib.hid b1
  have E1 := Lib.hid e1
  clear hs hown b1 e1
  cases hok : acOk zs gap inner with
  | false =>
    have HV := Lib.hid (show acV zs gap inner ct = [] by unfold acV; rw [if_neg (by rw [hok]; decide)])
    rw [hok] at KO
    go_enter Try.func18, Try.ntmps18
    go_wp2_with (rw [← E1.out])
    refine (KO.out w1 B1.out).mono ?_
    rintro e w2 ⟨rfl, b2⟩
    have R2 := Lib.hid (HO.out.below b2)
    have B2 := Lib.hid (B1.out.trans (b2.mono B1.out.size))
    clear b2 KO
    (try dsimp only)
    go_wp2
    go_ret
    exact ⟨_, rfl, by rw [HV.out]; exact R2.out, B2.out⟩
  | true =>
    have hF := ac_of hok
    have hcb := cr_bd hF
    have hib := hF.inner
    have h12 := hF.n12
    have HLS := Lib.hid hF.ls
    have HG := Lib.hid hF.gap
    rw [hok] at KO
    have KX := Lib.hid (fun w' (h : Below w.heap.size w w') => scrtot b zs.length cap2 zs gap w' (HS.out.below h) hsl)
    have hfr := lenI_in (inner - crV zs gap)
    have KL := Lib.hid (fun w' => slen (inner - crV zs gap) w')
    have efr : lenI (inner - crV zs gap) = crF zs gap inner := rfl
    rw [efr] at KL hfr
    have HSAT := Lib.hid (fun SP hS => ac_at hok ct (SP := SP) hS)
    have KJ := Lib.hid (fun w' => sjust16 ct w')
    have hw1 : IntKind.i64.wrap (inner - crV zs gap) = inner - crV zs gap := IntWalk.i64_in _ (by omega)
    generalize crF zs gap inner = fr at *
    generalize crV zs gap = X at *
    generalize jsV ct = J at *
    have hs0 := ld_bd (many := zs.length) (js := J) hfr.1 hfr.2
    have KD := Lib.hid (fun w' => slead fr zs.length J w' (by omega) (by omega))
    have KS := Lib.hid (fun w' => sspaces fr zs.length J w' hfr.1 hfr.2 h12)
    have HSP := Lib.hid (fun i (h : i + 1 < zs.length) => scV_at (free := fr) (js := J) h)
    have hsb := scV_all (n := zs.length) (js := J) hfr.1 hfr.2
    have hsl2 := scV_len fr zs.length J
    have hsb2 : ∀ j, -2097154 ≤ (scV fr zs.length J).getD j 0 ∧ (scV fr zs.length J).getD j 0 ≤ 2097154 := scV_bd hfr.1 hfr.2
    have HAT := Lib.hid (HSAT.out (scV fr zs.length J) HSP.out)
    generalize ldV fr zs.length J = s0 at *
    generalize scV fr zs.length J = SP at *
    have HBD := Lib.hid (atK_bd (SP := SP) (s0 := s0) HLS.out HG.out hsb2 hs0)
    clear hF efr HSAT
    go_enter Try.func18, Try.ntmps18
    go_wp2_with (rw [← E1.out])
    refine (KO.out w1 B1.out).mono ?_
    rintro e w2 ⟨rfl, b2⟩
    have R2 := Lib.hid (HO.out.below b2)
    have B2 := Lib.hid (B1.out.trans (b2.mono B1.out.size))
    have S2 := b2.size
    clear b2 KO HO
    (try dsimp only)
    go_wp2_with (fail)
    refine (KX.out w2 B2.out).mono ?_
    rintro e w3 ⟨rfl, b3⟩
    have R3 := Lib.hid (R2.out.below b3)
    have B3 := Lib.hid (B2.out.trans (b3.mono B2.out.size))
    have S3 := b3.size
    clear b3 KX R2
    (try dsimp only)
    go_wp2_with (fail)
    refine (KL.out w3).mono ?_
    rintro e w3' ⟨rfl, rfl⟩
    clear KL
    (try dsimp only)
    go_wp2_with (fail)
    refine (KJ.out _).mono ?_
    rintro e w3'' ⟨rfl, rfl⟩
    (try dsimp only)
    go_wp2_with (fail)
    refine (KD.out _).mono ?_
    rintro e w4 ⟨rfl, b4⟩
    have R4 := Lib.hid (R3.out.below b4)
    have B4 := Lib.hid (B3.out.trans (b4.mono B3.out.size))
    have S4 := b4.size
    clear b4 KD R3
    (try dsimp only)
    go_wp2_with (fail)
    refine (KJ.out _).mono ?_
    rintro e w4'' ⟨rfl, rfl⟩
    (try dsimp only)
    go_wp2_with (fail)
    refine (KS.out _).mono ?_
    rintro e w5 ⟨vs, rfl, r5, b5⟩
    obtain ⟨sa, sc, rfl, hi5⟩ := r5.slice hsb
    rw [hsl2] at hi5 ⊢
    have hin : ∀ b' off, sa = some ⟨b', off, none⟩ → w.heap.size < b' ∧ b' < w5.heap.size := fun b' off e => by
      subst e
      have h := World.ownsRow.lt r5
      rcases r5.form with ⟨e1, _⟩ | ⟨g, c, e1⟩
      · cases e1
      · injection e1 with e2
        injection e2 with e2
        injection e2 with e3 e4
        subst e3 e4
        have := h b' rfl
        omega
    have R5 := Lib.hid (show RowI w.heap.size (.slice (some ⟨w.heap.size, 0, none⟩) 0 0) (atL zs SP gap s0 0) w5 from R4.out.below b5)
    have B5 := Lib.hid (B4.out.trans (b5.mono B4.out.size))
    have HI5 := Lib.hid hi5
    have HIN := Lib.hid hin
    clear b5 KS R4 r5 hi5 hin
    have HOB := Lib.hid (show ∀ b, (Value.slice (some ⟨w.heap.size, 0, none⟩) 0 0).ownBlock = some b → b = w.heap.size ∨ w5.heap.size ≤ b from fun b hb => Or.inl (by have h : some w.heap.size = some b := hb; injection h with h; exact h.symm))
    (try dsimp only)
    go_wp2
    go_loopw [9, 11, 13] (PlRel16 w w5 zs SP gap s0 sa) (fun _ _ i _ => zs.length - (intOf i).toNat)
    case atStart => exact ⟨0, Nat.zero_le _, rfl, rfl, R5.out, HOB.out, B5.out, HI5.out, Nat.le_refl _⟩
    case round =>
      clear R5 HOB B5 HI5
      obtain ⟨k, hk, rfl, rfl, hro, hob, hb, hsa, hge⟩ := hrel
      by_cases hlt : k < zs.length
      · have hlo : (0 : Int) ≤ (k : Int) := Int.natCast_nonneg _
        have hhi : (k : Int) < (zs.length : Int) := by omega
        have hbd := HBD.out k
        have hzk1 := HLS.out k
        have hsk1 := hsb2 k
        have hg1 := HG.out
        have HNX := Lib.hid (show atK zs SP gap s0 k + zs.getD k 0 + gap + SP.getD k 0 = atK zs SP gap s0 (k + 1) from rfl)
        have HAS := Lib.hid (atL_succ zs SP gap s0 k)
        have HLL := Lib.hid (atL_len zs SP gap s0 k)
        generalize atK zs SP gap s0 k = T at *
        have HRO := Lib.hid hro
        have HOB := Lib.hid hob
        have HB := Lib.hid hb
        have HSA := Lib.hid hsa
        have HGE := Lib.hid hge
        clear hro hob hsa hge hb
        go_wp2_with (at_builtin; refine wpList_append_own_at _ rfl _ _ 24 rfl w.heap.size 3 i0 (.int .i64 0) 1 8 Try.underlying24 hi hz0 hz1 hz2 rfl (by decide) _ _ _ rfl (World.ownsRow.alloc HRO.out _) ⟨wr.heap.size, 0, none⟩ 1 1 [.int .i64 T] rfl rfl (one_intP _ _ _) ?c2d1 ?c3d1 ?c4d1 ?c5d1 ?_)
        case c2d1 => intro u hu; simp at hu; subst hu; rfl
        case c3d1 => unfold maxLen; rw [HLL.out]; omega
        case c4d1 => rw [HLL.out]; omega
        case c5d1 => have := HB.out.size; simp; omega
        intro v' w4 hown4 hgr _ hloc
        have bA : Below wr.heap.size wr (wr.alloc (.cells #[Value.int .i64 T] 3)) := (Below.refl _ _).alloc (Nat.le_refl _) _
        have R4 := Lib.hid (show RowI w.heap.size v' (atL zs SP gap s0 (k + 1)) w4 by rw [HAS.out]; unfold RowI; rw [List.length_append]; simpa using hown4)
        have B4 := Lib.hid ((HB.out.trans (bA.mono HB.out.size)).grown hgr (Nat.le_trans HB.out.size bA.size) (fun g hg => (World.ownsRow.lt HRO.out g hg).1))
        have OB4 := Lib.hid (show ∀ b, v'.ownBlock = some b → b = w.heap.size ∨ w5.heap.size ≤ b from fun b hb => by
          rcases hloc with e | e
          · exact HOB.out b (e.symm.trans hb)
          · rw [e] at hb; injection hb with hb; have := HGE.out; have := bA.size; omega)
        have SA4 := Lib.hid (ints_keptC (HSA.out.below bA) hgr HOB.out HIN.out)
        have GE4 := Lib.hid (Nat.le_trans HGE.out (Nat.le_trans bA.size hgr.size))
        clear hown4 hgr hloc bA
        obtain ⟨bz, oz, rfl, hbz, hcz⟩ := (HS.out.below B4.out).look hlt
        obtain ⟨bs, os, rfl, hbs, hcs⟩ := SA4.out.look hlt
        have D1 := fun d os => cell_regrown hcz d os
        have D2 := fun d os => cell_regrown hcs d os
        generalize zs.getD k 0 = z at *
        generalize SP.getD k 0 = y at *
        have hk12 : (k : Int) < 12 := by omega
        have hw2 : IntKind.i64.wrap (T + z) = T + z := IntWalk.i64_in _ (by omega)
        have hw3 : IntKind.i64.wrap (T + z + gap) = T + z + gap := IntWalk.i64_in _ (by omega)
        have hw4 : IntKind.i64.wrap (T + z + gap + y) = T + z + gap + y := IntWalk.i64_in _ (by omega)
        (try dsimp only)
        go_wp2_with (fail)
        refine wp_region_quiet_below (by kernel_rfl) (by kernel_rfl) ?_
        repeat (go_big_quiet_step (fail))
        refine wpQuiet_nil ?_
        intro _ hw'
        obtain ⟨⟨dq, osq⟩, hw''⟩ := hw'
        obtain ⟨w6, ew6⟩ : ∃ q, q = «Sort».grow (redrawn w4 dq) osq := ⟨_, rfl⟩
        have b6 : Below w4.heap.size w4 w6 := ew6 ▸ below_regrown w4 dq osq
        rw [← ew6] at hw''
        subst hw''
        have R6 := Lib.hid (R4.out.below b6)
        have B6 := Lib.hid (B4.out.trans (b6.mono B4.out.size))
        have SA6 := Lib.hid (SA4.out.below b6)
        have GE6 := Lib.hid (Nat.le_trans GE4.out b6.size)
        clear ew6 b6 D1 D2 R4 B4 SA4 GE4 hcz hcs
        rw [HNX.out]
        (try dsimp only)
        repeat go_step
        go_roundw
        case rel => exact ⟨k + 1, by omega, by go_num, rfl, R6.out, OB4.out, B6.out, SA6.out, GE6.out⟩
        case measure => simp [intOf]; omega
      · obtain rfl : k = zs.length := by omega
        have R9 := Lib.hid hro
        have B9 := Lib.hid hb
        clear hro hb hob hsa hge
        go_wp2
        go_ret
        exact ⟨_, rfl, by rw [HAT.out]; exact R9.out, B9.out⟩
end Go.Proofs.Ytnncdpkmhpjmbaa
end

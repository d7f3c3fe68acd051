import Derived.Scope
import Derived.WalkMore
import Derived.ScopeJumps
import Derived.Test.YtopfiogmbnfjcaaZlBA
section
namespace Go.Proofs.Ytopfiogmbnfjcaa
open Go.ChangeShapes Go.WideShapes Go.ChangeAt Go.RowKit
set_option linter.unusedVariables false
set_option linter.unusedSimpArgs false
set_option maxRecDepth 8000

/-- A row apart from those of the flexing, over the stores of freeze. -/
theorem put2 {w : World} {v : Value} {xs : List Int} {b g1 g2 j : Nat} {u1 u2 : Value} (h : RowI b v xs w) (h1 : v.ownBlock = none ∨ v.ownBlock ≠ some g1) (h2 : v.ownBlock = none ∨ v.ownBlock ≠ some g2) : RowI b v xs ((w.setCell ⟨g1, j, none⟩ u1).setCell ⟨g2, j, none⟩ u2) :=
  FxM.put_row (FxM.put_row h h1) h2
theorem RowI.intsOf {b n cap : Nat} {a : Option Addr} {xs : List Int} {w : World} (h : RowI b (.slice a n cap) xs w) (hr : AllI xs) : n = xs.length ∧ Ints w a n xs := by
  obtain ⟨a', cap', e, hi⟩ := h.slice hr
  simp only [Value.slice.injEq] at e
  obtain ⟨rfl, rfl, rfl⟩ := e
  exact ⟨rfl, hi⟩
theorem any_succ (g : Nat → Bool) (k : Nat) : (List.range (k + 1)).any g = ((List.range k).any g || g k) := by simp [List.range_succ]
theorem lt_next {α : Type} {i k : Nat} (h : i ≠ k) (x y : α) : (if i < k + 1 then x else y) = if i < k then x else y := by
  by_cases h1 : i < k
  · rw [if_pos h1, if_pos (by omega)]
  · rw [if_neg h1, if_neg (by omega)]
def FvRel (w0 : World) (f : Fx) (a : Option Addr) (cap fb zb wb lb B : Nat) (hs : List Bool) (zs : List Int) (p : Nat) (fo i : Value) (wr : World) : Prop :=
  ∃ (k : Nat) (zs' ws' : List Int), k ≤ f.xs.length ∧ fo = .bool ((List.range k).any (f.fz hs zs)) ∧ i = .int .i64 k ∧ FxM w0 f a cap fb zb wb zs' ws' p wr ∧
    RowI B (.slice (some ⟨lb, 0, none⟩) f.xs.length f.xs.length) (f.vL hs zs) wr ∧
    ∀ i, i < f.xs.length → zs'.getD i 0 = (if i < k then f.nz hs zs i else zs.getD i 0) ∧ ws'.getD i 0 = (if i < k ∧ f.fz hs zs i = true then 0 else f.wv hs i)
set_option maxHeartbeats 8000000 in
theorem ifv (w0 : World) (f : Fx) (a : Option Addr) (cap fb zb wb lb B : Nat) (hs : List Bool) (zs : List Int) (p : Nat) (w : World) (hok : itsOk f.xs = true) (hst : f.St hs zs) (M : FxM w0 f a cap fb zb wb zs (f.wL hs) p w)
    (RL : RowI B (.slice (some ⟨lb, 0, none⟩) f.xs.length f.xs.length) (f.vL hs zs) w) (n1 : lb ≠ fb) (n2 : lb ≠ zb) (n3 : lb ≠ wb) :
    Calls Try.prog 98 #[.pointer (some ⟨fb, 0, none⟩), .slice (some ⟨lb, 0, none⟩) f.xs.length f.xs.length] w fun e w' => e = .returned (.bool (f.fo hs zs)) ∧ FxM w0 f a cap fb zb wb (f.zN hs zs) (f.wL (f.hN hs zs)) p w' := by
  have h12 := Fx.n12 hok
  have hlv : (f.vL hs zs).length = f.xs.length := Fx.vL_len
  have hto : wrap64 (wsum (f.vL hs zs) f.xs.length) = f.to hs zs := IntWalk.wrap64_in _ (by have := Fx.vs_in hok hst (Nat.le_refl _); omega)
  have ks := isum_any (some ⟨lb, 0, none⟩) f.xs.length f.xs.length (f.vL hs zs) w (RL.ints hlv (Fx.vs_all hok hst)) (by omega)
  rw [hto] at ks
  have HM := Lib.hid M
  have HRL := Lib.hid RL
  have HST := Lib.hid hst
  have NB1 := Lib.hid (show (Value.slice (some ⟨lb, 0, none⟩) f.xs.length f.xs.length).ownBlock = none ∨ (Value.slice (some ⟨lb, 0, none⟩) f.xs.length f.xs.length).ownBlock ≠ some zb from Or.inr fun e => by injection e with e; exact n2 e)
  have NB2 := Lib.hid (show (Value.slice (some ⟨lb, 0, none⟩) f.xs.length f.xs.length).ownBlock = none ∨ (Value.slice (some ⟨lb, 0, none⟩) f.xs.length f.xs.length).ownBlock ≠ some wb from Or.inr fun e => by injection e with e; exact n3 e)
  obtain ⟨T, eT⟩ : ∃ q, q = f.to hs zs := ⟨_, rfl⟩
  rw [← eT] at ks
  have ET := Lib.hid eT
  clear M RL hto hst eT n1 n2 n3
  go_enter Try.func98, Try.ntmps98
  go_wp2_with (fail)
  refine ks.mono ?_
  rintro e w1 ⟨rfl, rfl⟩
  clear ks
  go_wp2
  go_loopw [6, 14] (FvRel w0 f a cap fb zb wb lb B hs zs p) (fun _ i _ => f.xs.length - (intOf i).toNat)
  case atStart => exact ⟨0, _, _, Nat.zero_le _, rfl, rfl, HM.out, HRL.out, fun i hi => ⟨by rw [if_neg (by omega)], by rw [if_neg (by omega)]; exact Fx.wL_at hi⟩⟩
  case round =>
    clear HM HRL
    obtain ⟨k, zs', ws', hk, rfl, rfl, M, RL, hv⟩ := hrel
    obtain ⟨F, eF⟩ : ∃ q, q = (List.range k).any (f.fz hs zs) := ⟨_, rfl⟩
    rw [← eF]
    have EF := Lib.hid eF
    clear eF
    by_cases hlt : k < f.xs.length
    · obtain ⟨b, off, rfl, hbl, hrg⟩ := M.itsN.look hlt
      have hlo : (0 : Int) ≤ (k : Int) := Int.natCast_nonneg _
      have hhi : (k : Int) < (f.xs.length : Int) := by omega
      have hx : f.x k = itD f.xs k := rfl
      rw [← hx] at hrg
      have HV := Lib.hid hv
      have hmv := RL.cell hlv hlt
      rw [Fx.vL_at hlt] at hmv
      obtain ⟨vk, evk⟩ : ∃ q, q = f.vi hs zs k := ⟨_, rfl⟩
      rw [← evk] at hmv
      have hlok : f.lo hs zs k = (decide (0 < vk) && decide (0 ≤ T)) := by rw [evk, ET.out]; rfl
      have hhik : f.hi hs zs k = (decide (vk < 0) && decide (T ≤ 0)) := by rw [evk, ET.out]; rfl
      have hnz : f.nz hs zs k = if f.lo hs zs k = true then (f.x k).least else if f.hi hs zs k = true then mmV (f.x k) else zs.getD k 0 := rfl
      have hfz : f.fz hs zs k = (f.lo hs zs k || f.hi hs zs k) := rfl
      obtain ⟨x, ex⟩ : ∃ q, q = f.x k := ⟨_, rfl⟩
      rw [← ex] at hrg hnz
      have LOK := Lib.hid hlok
      have HIK := Lib.hid hhik
      have HNZ := Lib.hid hnz
      have HFZ := Lib.hid hfz
      have RG := Lib.hid hrg
      have c0 := M.cells.1
      clear hrg hx ex hv evk hlok hhik hnz hfz
      obtain ⟨v, ev⟩ : ∃ v, v = wr.alloc (.cells #[.int .i64 x.base, .int .i64 x.least, .int .i64 x.most, .int .i64 x.grow, .int .i64 x.shrink, .int .i64 x.before, .int .i64 x.behind, .bool x.ab, .bool x.ah] 34) := ⟨_, rfl⟩
      have hown : v.heap[wr.heap.size]? = some (.cells #[.int .i64 x.base, .int .i64 x.least, .int .i64 x.most, .int .i64 x.grow, .int .i64 x.shrink, .int .i64 x.before, .int .i64 x.behind, .bool x.ab, .bool x.ah] 34) := ev ▸ hp_new wr _
      have hbv : Below wr.heap.size wr v := ev ▸ Go.Joins.below_alloc1 wr _
      have N0 : v.cell? ⟨wr.heap.size, 0, none⟩ = some (.int .i64 x.base) := Go.Joins.cell_of_block hown 0
      have N1 : v.cell? ⟨wr.heap.size, 1, none⟩ = some (.int .i64 x.least) := Go.Joins.cell_of_block hown 1
      have N2 : v.cell? ⟨wr.heap.size, 2, none⟩ = some (.int .i64 x.most) := Go.Joins.cell_of_block hown 2
      have N3 : v.cell? ⟨wr.heap.size, 3, none⟩ = some (.int .i64 x.grow) := Go.Joins.cell_of_block hown 3
      have N4 : v.cell? ⟨wr.heap.size, 4, none⟩ = some (.int .i64 x.shrink) := Go.Joins.cell_of_block hown 4
      have N5 : v.cell? ⟨wr.heap.size, 5, none⟩ = some (.int .i64 x.before) := Go.Joins.cell_of_block hown 5
      have N6 : v.cell? ⟨wr.heap.size, 6, none⟩ = some (.int .i64 x.behind) := Go.Joins.cell_of_block hown 6
      have N7 : v.cell? ⟨wr.heap.size, 7, none⟩ = some (.bool x.ab) := Go.Joins.cell_of_block hown 7
      have N8 : v.cell? ⟨wr.heap.size, 8, none⟩ = some (.bool x.ah) := Go.Joins.cell_of_block hown 8
      have EV := Lib.hid ev
      clear ev
      have MV := M.below hbv
      have RV := RL.below hbv
      have g0 := kept_cell c0 hbv
      have HMV := Lib.hid MV
      have HRV := Lib.hid RV
      have HLZ := Lib.hid MV.lz
      have HLW := Lib.hid MV.lw
      have hNF : ∀ (zs2 ws2 : List Int) (z2 : Int) (b2 : Bool), zs2 = zs'.set k z2 → z2 = f.nz hs zs k → ws2 = (if b2 = true then ws'.set k 0 else ws') → b2 = f.fz hs zs k →
          ∀ i, i < f.xs.length → zs2.getD i 0 = (if i < k + 1 then f.nz hs zs i else zs.getD i 0) ∧ ws2.getD i 0 = (if i < k + 1 ∧ f.fz hs zs i = true then 0 else f.wv hs i) := by
        intro zs2 ws2 z2 b2 h1 h2 h3 h4 i hi
        have h5 := HV.out i hi
        rw [h1, h3, h2, getD_set]
        by_cases e : i = k
        · subst e
          refine ⟨?_, ?_⟩
          · rw [if_pos ⟨rfl, by rw [HLZ.out]; exact hi⟩, if_pos (Nat.lt_succ_self _)]
          · cases hb : b2 with
            | true => rw [if_pos rfl, getD_set, if_pos ⟨rfl, by rw [HLW.out]; exact hi⟩, if_pos ⟨Nat.lt_succ_self _, by rw [← h4]; exact hb⟩]
            | false =>
              rw [if_neg (by simp), if_neg (fun h => by rw [← h4, hb] at h; cases h.2), h5.2, if_neg (fun h => by have := h.1; omega)]
        · refine ⟨?_, ?_⟩
          · rw [if_neg (fun h => e h.1), lt_next e]; exact h5.1
          · rw [if_next e, ← h5.2]
            cases b2 with
            | true => rw [if_pos rfl, getD_set, if_neg (fun h => e h.1)]
            | false => rw [if_neg (by simp)]
      have hSAME : f.fz hs zs k = false → zs' = zs'.set k (f.nz hs zs k) := by
        intro h
        have hz := (HV.out k hlt).1
        rw [if_neg (by omega)] at hz
        have hn : f.nz hs zs k = zs.getD k 0 := by
          rw [HNZ.out]
          rw [HFZ.out, Bool.or_eq_false_iff] at h
          rw [h.1, h.2]
          rfl
        rw [hn, ← hz]
        apply List.ext_getElem?
        intro j
        rw [List.getElem?_set]
        by_cases e : k = j
        · subst e
          have hkl : k < zs'.length := by rw [HLZ.out]; exact hlt
          rw [if_pos rfl, if_pos hkl, List.getElem?_eq_getElem hkl]
          simp [List.getD, hkl]
        · rw [if_neg e]
      have HNF := Lib.hid hNF
      have HSAME := Lib.hid hSAME
      clear M RL MV RV g0 hNF hSAME HV
      have n1 := N1
      have n2 := N2
      clear N0 N1 N2 N3 N4 N5 N6 N7 N8 hown hbv
      by_cases a1 : 0 < vk ∧ 0 ≤ T
      · obtain ⟨a1, a2⟩ := a1
        have hl : f.lo hs zs k = true := by rw [LOK.out, decide_eq_true a1, decide_eq_true a2]; rfl
        have HZ2 := Lib.hid (show x.least = f.nz hs zs k by rw [HNZ.out, if_pos hl])
        have HB2 := Lib.hid (show true = f.fz hs zs k by rw [HFZ.out, hl, Bool.true_or])
        clear hl
        go_wp2_with (first
          | ((with_reducible apply list_load_it); exact rfl; exact rfl; exact rfl; (with_reducible exact RG.out); simp only [Act.put, List.setIfInBounds_toArray, List.set_cons_succ, List.set_cons_zero])
          | (rw [← EV.out])
          | fail)
        refine (ifreeze w0 f (some ⟨b, off, none⟩) cap fb zb wb zs' ws' p k x.least v hlt (by omega) HMV.out).mono ?_
        rintro e w2 ⟨rfl, M2, ew2⟩
        have HR2 := Lib.hid (show RowI B _ _ w2 by rw [ew2]; exact put2 HRV.out NB1.out NB2.out)
        have HM2 := Lib.hid M2
        clear M2 ew2 n1 n2
        dsimp only
        go_wp2
        go_roundw
        case rel => exact ⟨k + 1, _, _, by omega, by rw [any_succ, ← HB2.out, Bool.or_true], by go_num, HM2.out, HR2.out, HNF.out _ _ _ true rfl HZ2.out rfl HB2.out⟩
        case measure => simp [intOf]; omega
      · by_cases a2 : vk < 0 ∧ T ≤ 0
        · obtain ⟨a2, a3⟩ := a2
          have a4 : ¬ 0 < vk := by omega
          have hl : f.lo hs zs k = false := by rw [LOK.out, decide_eq_false a4]; rfl
          have hh : f.hi hs zs k = true := by rw [HIK.out, decide_eq_true a2, decide_eq_true a3]; rfl
          have HZ2 := Lib.hid (show mmV x = f.nz hs zs k by rw [HNZ.out, hl, if_neg (by simp), if_pos hh])
          have HB2 := Lib.hid (show true = f.fz hs zs k by rw [HFZ.out, hh, Bool.or_true])
          clear hl hh
          by_cases hm : x.most < x.least
          · have HMM := Lib.hid (show x.least = mmV x by unfold mmV; rw [if_pos hm])
            go_wp2_with (first
              | ((with_reducible apply list_load_it); exact rfl; exact rfl; exact rfl; (with_reducible exact RG.out); simp only [Act.put, List.setIfInBounds_toArray, List.set_cons_succ, List.set_cons_zero])
              | (rw [← EV.out])
              | fail)
            refine (ifreeze w0 f (some ⟨b, off, none⟩) cap fb zb wb zs' ws' p k x.least v hlt (by omega) HMV.out).mono ?_
            rintro e w2 ⟨rfl, M2, ew2⟩
            have HR2 := Lib.hid (show RowI B _ _ w2 by rw [ew2]; exact put2 HRV.out NB1.out NB2.out)
            have HM2 := Lib.hid M2
            clear M2 ew2 n1 n2
            dsimp only
            go_wp2
            go_roundw
            case rel => exact ⟨k + 1, _, _, by omega, by rw [any_succ, ← HB2.out, Bool.or_true], by go_num, HM2.out, HR2.out, HNF.out _ _ _ true rfl (HMM.out.trans HZ2.out) rfl HB2.out⟩
            case measure => simp [intOf]; omega
          · have HMM := Lib.hid (show x.most = mmV x by unfold mmV; rw [if_neg hm])
            go_wp2_with (first
              | ((with_reducible apply list_load_it); exact rfl; exact rfl; exact rfl; (with_reducible exact RG.out); simp only [Act.put, List.setIfInBounds_toArray, List.set_cons_succ, List.set_cons_zero])
              | (rw [← EV.out])
              | fail)
            refine (ifreeze w0 f (some ⟨b, off, none⟩) cap fb zb wb zs' ws' p k x.most v hlt (by omega) HMV.out).mono ?_
            rintro e w2 ⟨rfl, M2, ew2⟩
            have HR2 := Lib.hid (show RowI B _ _ w2 by rw [ew2]; exact put2 HRV.out NB1.out NB2.out)
            have HM2 := Lib.hid M2
            clear M2 ew2 n1 n2
            dsimp only
            go_wp2
            go_roundw
            case rel => exact ⟨k + 1, _, _, by omega, by rw [any_succ, ← HB2.out, Bool.or_true], by go_num, HM2.out, HR2.out, HNF.out _ _ _ true rfl (HMM.out.trans HZ2.out) rfl HB2.out⟩
            case measure => simp [intOf]; omega
        · have hl : f.lo hs zs k = false := by rw [LOK.out, ← Bool.decide_and]; exact decide_eq_false a1
          have hh : f.hi hs zs k = false := by rw [HIK.out, ← Bool.decide_and]; exact decide_eq_false a2
          have hB2 : false = f.fz hs zs k := by rw [HFZ.out, hl, hh]; rfl
          have HB2 := Lib.hid hB2
          have HZ2 := Lib.hid (HSAME.out hB2.symm)
          clear hl hh hB2
          have hfin := HNF.out _ _ _ false HZ2.out rfl rfl HB2.out
          have HFIN := Lib.hid hfin
          clear hfin
          by_cases b1 : 0 < vk
          · have b2 : ¬ 0 ≤ T := fun h => a1 ⟨b1, h⟩
            have b3 : ¬ vk < 0 := by omega
            go_wp2_with (first
              | ((with_reducible apply list_load_it); exact rfl; exact rfl; exact rfl; (with_reducible exact RG.out); simp only [Act.put, List.setIfInBounds_toArray, List.set_cons_succ, List.set_cons_zero])
              | (rw [← EV.out])
              | fail)
            go_roundw
            case rel => exact ⟨k + 1, _, _, by omega, by rw [any_succ, ← HB2.out, Bool.or_false, EF.out], by go_num, HMV.out, HRV.out, HFIN.out⟩
            case measure => simp [intOf]; omega
          · by_cases b2 : vk < 0
            · have b3 : ¬ T ≤ 0 := fun h => a2 ⟨b2, h⟩
              go_wp2_with (first
                | ((with_reducible apply list_load_it); exact rfl; exact rfl; exact rfl; (with_reducible exact RG.out); simp only [Act.put, List.setIfInBounds_toArray, List.set_cons_succ, List.set_cons_zero])
                | (rw [← EV.out])
                | fail)
              go_roundw
              case rel => exact ⟨k + 1, _, _, by omega, by rw [any_succ, ← HB2.out, Bool.or_false, EF.out], by go_num, HMV.out, HRV.out, HFIN.out⟩
              case measure => simp [intOf]; omega
            · go_wp2_with (first
                | ((with_reducible apply list_load_it); exact rfl; exact rfl; exact rfl; (with_reducible exact RG.out); simp only [Act.put, List.setIfInBounds_toArray, List.set_cons_succ, List.set_cons_zero])
                | (rw [← EV.out])
                | fail)
              go_roundw
              case rel => exact ⟨k + 1, _, _, by omega, by rw [any_succ, ← HB2.out, Bool.or_false, EF.out], by go_num, HMV.out, HRV.out, HFIN.out⟩
              case measure => simp [intOf]; omega
    · obtain rfl : k = f.xs.length := by omega
      have hz : zs' = f.zN hs zs := eq_range M.lz fun i hi => by rw [(hv i hi).1, if_pos hi]
      have hw : ws' = f.wL (f.hN hs zs) := eq_range M.lw fun i hi => by
        rw [(hv i hi).2]
        unfold Fx.wv Fx.hN
        rw [rgD _ hi]
        cases hb : f.fz hs zs i <;> cases hs.getD i true <;> simp [hi]
      subst hz hw
      have HF := Lib.hid (show F = f.fo hs zs from EF.out)
      have HMF := Lib.hid M
      clear M RL hv EF
      go_wp2
      go_ret
      exact ⟨congrArg (fun t => Ending.returned (.bool t)) HF.out, HMF.out⟩
end Go.Proofs.Ytopfiogmbnfjcaa
end

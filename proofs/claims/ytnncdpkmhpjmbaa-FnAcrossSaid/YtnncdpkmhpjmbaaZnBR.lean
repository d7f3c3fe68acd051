import Derived.Test.YtnncdpkmhpjmbaaZnBB
import Derived.Test.YtnncdpkmhpjmbaaZnBQ
section
namespace Go.Proofs.Ytnncdpkmhpjmbaa
open Go.ChangeShapes Go.WideShapes Go.ChangeAt Go.RowKit
set_option linter.unusedVariables false
set_option maxRecDepth 20000

theorem crG_nonneg {zs : List Int} (h : zs.length ≤ 64) (gap inner : Int) (j : Nat) : 0 ≤ (crG zs gap inner).getD j 0 := evn_nonneg (by split <;> omega) _ _ h
theorem st_ge {zs : List Int} {gap inner : Int} (h : acOk zs gap inner = true) (ct : Int) {i : Nat} (hi : i < zs.length) : zs.getD i 0 ≤ (stV16 zs gap inner ct).getD i 0 := by
  have := crG_nonneg (zs := zs) (by have := (ac_of h).n12; omega) gap inner i
  unfold stV16; split
  · rw [adK_at hi]; omega
  · exact Int.le_refl _
theorem st_bd16 {zs : List Int} {gap inner : Int} (h : acOk zs gap inner = true) (ct : Int) (i : Nat) : -1048577 ≤ (stV16 zs gap inner ct).getD i 0 ∧ (stV16 zs gap inner ct).getD i 0 ≤ 2097153 := by
  have h1 := (ac_of h).ls i
  have h2 := crG_bd zs gap inner i
  unfold stV16; split
  · by_cases hi : i < zs.length
    · rw [adK_at hi]; omega
    · rw [List.getD_eq_getElem?_getD, List.getElem?_eq_none (by rw [adK_len]; omega)]; exact ⟨by decide, by decide⟩
  · omega
theorem ac_n {zs : List Int} {gap inner : Int} (h : acOk zs gap inner = true) (ct : Int) : (acV zs gap inner ct).length = zs.length := by
  unfold acV; rw [if_pos h, plV_n (al_ac h), zit_len]
theorem ac_step {zs : List Int} {gap inner : Int} (h : acOk zs gap inner = true) (ct : Int) {i : Nat} (hi : i + 1 < zs.length) : (acV zs gap inner ct).getD i 0 + zs.getD i 0 + gap ≤ (acV zs gap inner ct).getD (i + 1) 0 := by
  have := pl_step (js := jsV ct) (al_ac h) (i := i) (by rw [zit_len]; exact hi)
  rw [zit_at, zit_at] at this
  unfold acV; rw [if_pos h]
  have e1 : It0.behind = 0 := rfl
  have e2 : It0.before = 0 := rfl
  omega
theorem ac_bd {zs : List Int} {gap inner : Int} (h : acOk zs gap inner = true) (ct : Int) {i : Nat} (hi : i < zs.length) : -132120576 ≤ (acV zs gap inner ct).getD i 0 ∧ (acV zs gap inner ct).getD i 0 ≤ 132120576 := by
  unfold acV; rw [if_pos h]
  exact plV_at (al_ac h) (by rw [zit_len]; exact hi)
theorem wsum_adK (zs G : List Int) {n k : Nat} (hk : k ≤ n) : wsum (adK zs G n) k = wsum zs k + wsum G k := by
  induction k with
  | zero => rfl
  | succ k ih =>
    show wsum (adK zs G n) k + (adK zs G n).getD k 0 = (wsum zs k + zs.getD k 0) + (wsum G k + G.getD k 0)
    rw [ih (by omega), adK_at (show k < n by omega)]
    omega
theorem wsum_up {zs : List Int} (h : ∀ j, 0 ≤ zs.getD j 0) : ∀ k, 0 ≤ wsum zs k
  | 0 => Int.le_refl _
  | k + 1 => by show 0 ≤ wsum zs k + zs.getD k 0; have := wsum_up h k; have := h k; omega
theorem wsum_one {zs : List Int} (h : ∀ j, 0 ≤ zs.getD j 0) {i : Nat} : ∀ k, i < k → zs.getD i 0 ≤ wsum zs k
  | 0, hk => absurd hk (Nat.not_lt_zero _)
  | k + 1, hk => by
    show zs.getD i 0 ≤ wsum zs k + zs.getD k 0
    by_cases e : i = k
    · subst e; have := wsum_up h i; omega
    · have := wsum_one (i := i) h k (by omega); have := h k; omega
theorem st_total {zs : List Int} {gap inner : Int} (h : acOk zs gap inner = true) (hn : 0 < zs.length) (hf : 0 < inner - crV zs gap) : crV (stV16 zs gap inner 1) gap = inner := by
  have hF := ac_of h
  have h12 := hF.n12
  have hcp := cr_plain hF
  have hcb := cr_bd hF
  have hgb := gap_bd hF
  have hin := hF.inner
  have hts := tot_sum hF.ls zs.length
  have e0 : stV16 zs gap inner 1 = adK zs (crG zs gap inner) zs.length := by unfold stV16; rw [if_pos ⟨rfl, h⟩]
  have hG : wsum (crG zs gap inner) zs.length = inner - crV zs gap := by
    unfold crG
    rw [if_neg (by omega), evn_total (by omega) (by omega)]
    unfold lenI brI; omega
  have hnn : ∀ j, 0 ≤ (adK zs (crG zs gap inner) zs.length).getD j 0 := fun j => by
    by_cases hj : j < zs.length
    · rw [adK_at hj]
      have := (hF.ls j).1
      have := crG_nonneg (zs := zs) (by omega) gap inner j
      omega
    · rw [List.getD_eq_getElem?_getD, List.getElem?_eq_none (by rw [adK_len]; omega)]; exact Int.le_refl _
  have hw : wsum (adK zs (crG zs gap inner) zs.length) zs.length = inner - gap * ((zs.length - 1 : Nat) : Int) := by
    rw [wsum_adK _ _ (Nat.le_refl _), hG, ← hts, hcp]; omega
  have hle : ∀ j, 0 ≤ (adK zs (crG zs gap inner) zs.length).getD j 0 ∧ (adK zs (crG zs gap inner) zs.length).getD j 0 ≤ 1048576 := fun j => by
    refine ⟨hnn j, ?_⟩
    by_cases hj : j < zs.length
    · have := wsum_one hnn zs.length hj; omega
    · rw [List.getD_eq_getElem?_getD, List.getElem?_eq_none (by rw [adK_len]; omega)]; decide
  rw [e0]
  unfold crV
  rw [adK_len, tot_sum hle, hw, show wrap64 (gap * ((zs.length - 1 : Nat) : Int)) = gap * ((zs.length - 1 : Nat) : Int) from IntWalk.wrap64_in _ (by omega)]
  rw [show inner - gap * ((zs.length - 1 : Nat) : Int) + gap * ((zs.length - 1 : Nat) : Int) = inner by omega]
  exact IntWalk.wrap64_in _ (by omega)
theorem ac_end {zs : List Int} {gap inner : Int} (h : acOk zs gap inner = true) (hn : 0 < zs.length) (h0 : -1048576 ≤ inner - crV zs gap) : (acV zs gap inner 3).getD (zs.length - 1) 0 + zs.getD (zs.length - 1) 0 = inner := by
  have hF := ac_of h
  have hal := al_ac h
  have hcb := cr_bd hF
  have hin := hF.inner
  have hfr : frA (zit zs.length) zs gap inner = inner - crV zs gap := by unfold frA; rw [cr_ou hF]; exact IntWalk.wrap64_in _ (by omega)
  have he := ed_end hal (by rw [zit_len]; exact hn) (by rw [hfr]; exact h0) (by rw [hfr]; omega) (zit_au _ _)
  unfold edA at he
  rw [if_pos hal] at he
  unfold acV plV
  rw [if_pos h, if_pos hal, show jsV 3 = 2 by decide]
  obtain ⟨m, hm⟩ : ∃ m, zs.length = m + 1 := ⟨zs.length - 1, by omega⟩
  rw [zit_len] at he ⊢
  rw [wx_none (by rw [zit_len]; exact zit_au _ _)] at he ⊢
  rw [plK_at (by omega)]
  rw [hm] at he
  rw [hm, Nat.add_sub_cancel]
  have e2 : enV (zit (m + 1)) zs gap (sqV (zit (m + 1)) (fcV (zit (m + 1)) zs gap inner) 2) (m + 1) = pvV (zit (m + 1)) gap (sqV (zit (m + 1)) (fcV (zit (m + 1)) zs gap inner) 2) (enV (zit (m + 1)) zs gap (sqV (zit (m + 1)) (fcV (zit (m + 1)) zs gap inner) 2) m) m + zs.getD m 0 + 0 := by
    show _ + _ + (itD (zit (m + 1)) m).behind = _
    rw [zit_at]; rfl
  rw [e2] at he
  omega
theorem st_4556 : stV16 [10, 20] 0 101 1 = [45, 56] := by decide +kernel
end Go.Proofs.Ytnncdpkmhpjmbaa
end

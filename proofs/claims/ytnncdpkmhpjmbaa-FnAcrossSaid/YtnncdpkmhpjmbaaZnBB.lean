import Derived.Test.YtnncdpkmhpjmbaaZnAJ
import Derived.Test.YtnncdpkmhpjmbaaZnAZ
import Derived.Test.YtnncdpkmhpjmbaaZnBA
section
namespace Go.Proofs.Ytnncdpkmhpjmbaa
open Go.ChangeShapes Go.WideShapes Go.ChangeAt Go.RowKit
set_option linter.unusedVariables false
set_option maxRecDepth 8000

/-- What the lines take up together, as an int wraps it. -/
def crV (zs : List Int) (gap : Int) : Int := wrap64 (totK zs zs.length + wrap64 (gap * ((zs.length - 1 : Nat) : Int)))
/-- May these lines be placed? -/
def acOk (zs : List Int) (gap inner : Int) : Bool := decide (zs.length ≤ 12) && lsOk zs && rnB gap 0 1048576 && rnB inner 0 1048576
structure AcF (zs : List Int) (gap inner : Int) : Prop where
  n12 : zs.length ≤ 12
  ls : ∀ j, 0 ≤ zs.getD j 0 ∧ zs.getD j 0 ≤ 1048576
  gap : 0 ≤ gap ∧ gap ≤ 1048576
  inner : 0 ≤ inner ∧ inner ≤ 1048576
theorem ac_of {zs : List Int} {gap inner : Int} (h : acOk zs gap inner = true) : AcF zs gap inner := by
  unfold acOk at h
  simp only [Bool.and_eq_true] at h
  obtain ⟨⟨⟨h1, h2⟩, h3⟩, h4⟩ := h
  exact ⟨of_decide_eq_true h1, ls_in h2, of_decide_eq_true h3, of_decide_eq_true h4⟩
/-- As many items without size or margin as there are lines. -/
def zit (n : Nat) : List It := List.replicate n It0
theorem zit_len (n : Nat) : (zit n).length = n := List.length_replicate
theorem zit_at (n j : Nat) : itD (zit n) j = It0 := by
  unfold itD zit
  rw [List.getD_eq_getElem?_getD, List.getElem?_replicate]
  split <;> rfl
theorem zit_inr (n : Nat) : ∀ x ∈ zit n, x.inr := fun x hx => by
  rw [List.eq_of_mem_replicate hx]
  unfold It.inr It0 I64
  decide
theorem zit_au (n k : Nat) : auN (zit n) k = 0 := by
  induction k with
  | zero => rfl
  | succ k ih =>
    show auN (zit n) k + _ = 0
    rw [ih, zit_at]; rfl
theorem zit_mg (n k : Nat) : mgK (zit n) k = 0 := by
  induction k with
  | zero => rfl
  | succ k ih =>
    show mgK (zit n) k + _ = 0
    rw [ih, zit_at]; rfl
theorem zit_ok {n : Nat} (h : n ≤ 12) : itsOk (zit n) = true := by
  unfold itsOk
  rw [zit_len, decide_eq_true h, Bool.true_and, List.all_eq_true]
  intro x hx
  rw [List.eq_of_mem_replicate hx]
  decide
theorem al_ac {zs : List Int} {gap inner : Int} (h : acOk zs gap inner = true) : alOk (zit zs.length) zs gap inner = true := by
  unfold acOk at h
  simp only [Bool.and_eq_true] at h
  obtain ⟨⟨⟨h1, h2⟩, h3⟩, h4⟩ := h
  unfold alOk
  rw [zit_ok (of_decide_eq_true h1), zit_len, h2, h3, h4]
  simp
theorem tot_sum {zs : List Int} (h : ∀ j, 0 ≤ zs.getD j 0 ∧ zs.getD j 0 ≤ 1048576) (k : Nat) : totK zs k = wsum zs k := by
  induction k with
  | zero => rfl
  | succ k ih =>
    show totK zs k + lenI (zs.getD k 0) = wsum zs k + zs.getD k 0
    have := h k
    rw [ih, show lenI (zs.getD k 0) = zs.getD k 0 by unfold lenI brI; omega]
theorem tot_bd {zs : List Int} {gap inner : Int} (h : AcF zs gap inner) : 0 ≤ totK zs zs.length ∧ totK zs zs.length ≤ 12582912 := by
  have h0 := totK_in zs zs.length
  have h1 := h.n12
  refine ⟨?_, by omega⟩
  rw [tot_sum h.ls]
  have : ∀ k, 0 ≤ wsum zs k := fun k => by
    induction k with
    | zero => exact Int.le_refl _
    | succ k ih => show 0 ≤ wsum zs k + zs.getD k 0; have := (h.ls k).1; omega
  exact this _
theorem gap_bd {zs : List Int} {gap inner : Int} (h : AcF zs gap inner) : 0 ≤ gap * ((zs.length - 1 : Nat) : Int) ∧ gap * ((zs.length - 1 : Nat) : Int) ≤ 11534336 := by
  have h1 := h.n12
  have h2 := h.gap
  obtain ⟨m, em⟩ : ∃ m, m = zs.length - 1 := ⟨_, rfl⟩
  rw [← em]
  have : m ≤ 11 := by omega
  match m, this with
  | 0, _ => omega
  | 1, _ => omega
  | 2, _ => omega
  | 3, _ => omega
  | 4, _ => omega
  | 5, _ => omega
  | 6, _ => omega
  | 7, _ => omega
  | 8, _ => omega
  | 9, _ => omega
  | 10, _ => omega
  | 11, _ => omega
theorem cr_plain {zs : List Int} {gap inner : Int} (h : AcF zs gap inner) : crV zs gap = totK zs zs.length + gap * ((zs.length - 1 : Nat) : Int) := by
  have h1 := tot_bd h
  have h2 := gap_bd h
  unfold crV
  rw [show wrap64 (gap * ((zs.length - 1 : Nat) : Int)) = gap * ((zs.length - 1 : Nat) : Int) from IntWalk.wrap64_in _ (by omega)]
  exact IntWalk.wrap64_in _ (by omega)
theorem cr_ou {zs : List Int} {gap inner : Int} (h : AcF zs gap inner) : ouV (zit zs.length) zs gap = crV zs gap := by
  have h1 := tot_bd h
  have h2 := gap_bd h
  have h3 := tot_sum h.ls zs.length
  rw [cr_plain h]
  unfold ouV
  rw [zit_len, zit_mg, ← h3, IntWalk.wrap64_in _ (by omega)]
  omega
theorem cr_bd {zs : List Int} {gap inner : Int} (h : AcF zs gap inner) : 0 ≤ crV zs gap ∧ crV zs gap ≤ 24117248 := by
  have h1 := tot_bd h
  have h2 := gap_bd h
  rw [cr_plain h]
  omega
/-- Free room across. -/
def crF (zs : List Int) (gap inner : Int) : Int := lenI (inner - crV zs gap)
theorem cr_free {zs : List Int} {gap inner : Int} (h : AcF zs gap inner) : fcV (zit zs.length) zs gap inner = crF zs gap inner := by
  have h1 := cr_bd h
  have h2 := h.inner
  unfold fcV frA crF
  rw [cr_ou h, IntWalk.wrap64_in _ (by omega)]
/-- Sizes with their shares, the first k of them. -/
def adK (zs G : List Int) (k : Nat) : List Int := (List.range k).map (fun i => zs.getD i 0 + G.getD i 0)
theorem adK_len (zs G : List Int) (k : Nat) : (adK zs G k).length = k := by simp [adK]
theorem adK_at {zs G : List Int} {k i : Nat} (h : i < k) : (adK zs G k).getD i 0 = zs.getD i 0 + G.getD i 0 := by simp [adK, h]
theorem adK_set {zs G : List Int} {k : Nat} (h : k < zs.length) : (adK zs G k ++ zs.drop k).set k (zs.getD k 0 + G.getD k 0) = adK zs G (k + 1) ++ zs.drop (k + 1) := by
  rw [List.set_append_right _ _ (by simp [adK]), List.drop_eq_getElem_cons h, show k - (adK zs G k).length = 0 by simp [adK], List.set_cons_zero]
  simp [adK, List.range_succ]
theorem adK_get {zs G : List Int} {k : Nat} (h : k < zs.length) : (adK zs G k ++ zs.drop k).getD k 0 = zs.getD k 0 := by
  rw [List.getD_eq_getElem?_getD, List.getElem?_append_right (by rw [adK_len]; exact Nat.le_refl _), adK_len, List.getElem?_drop, List.getD_eq_getElem?_getD]
  simp
theorem adK_zero {zs : List Int} {m : Nat} : adK zs (List.replicate m 0) zs.length = zs := by
  apply List.ext_getElem?
  intro i
  by_cases hi : i < zs.length
  · have : (List.replicate m (0 : Int))[i]?.getD 0 = 0 := by
      rw [List.getElem?_replicate]; split <;> rfl
    simp [adK, hi, this, List.getD]
  · rw [List.getElem?_eq_none (by rw [adK_len]; omega), List.getElem?_eq_none (by omega)]
/-- The shares that stretched lines get. -/
def crG (zs : List Int) (gap inner : Int) : List Int := evnL (if inner - crV zs gap < 0 then 0 else inner - crV zs gap) zs.length
theorem crG_bd (zs : List Int) (gap inner : Int) (j : Nat) : -1048577 ≤ (crG zs gap inner).getD j 0 ∧ (crG zs gap inner).getD j 0 ≤ 1048577 := evn_bd _ _ _
theorem crG_len {zs : List Int} (h : zs.length ≤ 64) (gap inner : Int) : (crG zs gap inner).length = zs.length := evn_len h
theorem crG_zero {zs : List Int} {gap inner : Int} (h : zs.length ≤ 64) (hf : inner - crV zs gap ≤ 0) : crG zs gap inner = List.replicate zs.length 0 := by
  unfold crG
  rw [show (if inner - crV zs gap < 0 then 0 else inner - crV zs gap) = 0 by split <;> omega]
  exact evn_zero h
/-- The lines' sizes. -/
def stV16 (zs : List Int) (gap inner ct : Int) : List Int :=
  if ct = 1 ∧ acOk zs gap inner = true then adK zs (crG zs gap inner) zs.length else zs
theorem stV16_len (zs : List Int) (gap inner ct : Int) : (stV16 zs gap inner ct).length = zs.length := by
  unfold stV16; split
  · exact adK_len _ _ _
  · rfl
theorem adK_all {zs G : List Int} (h : ∀ j, 0 ≤ zs.getD j 0 ∧ zs.getD j 0 ≤ 1048576) (hg : ∀ j, -1048577 ≤ G.getD j 0 ∧ G.getD j 0 ≤ 1048577) (k : Nat) : AllI (adK zs G k) := by
  intro z hz
  obtain ⟨i, _, rfl⟩ := List.mem_map.1 hz
  have := h i
  have := hg i
  omega
theorem stV16_all {zs : List Int} (h : AllI zs) (gap inner ct : Int) : AllI (stV16 zs gap inner ct) := by
  unfold stV16; split
  · rename_i hc
    exact adK_all (ac_of hc.2).ls (crG_bd zs gap inner) _
  · exact h
/-- The way of Justify that some content across is. -/
def jsV (ct : Int) : Int := if ct = 3 then 2 else if ct = 4 then 3 else if ct = 5 then 4 else if ct = 6 then 5 else 1
/-- Where the lines begin. -/
def acV (zs : List Int) (gap inner ct : Int) : List Int := if acOk zs gap inner = true then plV (zit zs.length) zs gap inner (jsV ct) else []
theorem acV_all (zs : List Int) (gap inner ct : Int) : AllI (acV zs gap inner ct) := by
  unfold acV; split
  · exact plV_all _ _ _ _ _
  · intro z hz; cases hz
theorem acV_len (zs : List Int) (gap inner ct : Int) : (acV zs gap inner ct).length ≤ 12 := by
  unfold acV; split
  · exact plV_len _ _ _ _ _
  · exact Nat.zero_le _
/-- Where the model's line k begins. -/
def atK (zs SP : List Int) (gap s0 : Int) : Nat → Int
  | 0 => s0
  | k + 1 => atK zs SP gap s0 k + zs.getD k 0 + gap + SP.getD k 0
def atL (zs SP : List Int) (gap s0 : Int) (k : Nat) : List Int := (List.range k).map (atK zs SP gap s0)
theorem atL_len (zs SP : List Int) (gap s0 : Int) (k : Nat) : (atL zs SP gap s0 k).length = k := by simp [atL]
theorem atL_succ (zs SP : List Int) (gap s0 : Int) (k : Nat) : atL zs SP gap s0 (k + 1) = atL zs SP gap s0 k ++ [atK zs SP gap s0 k] := by simp [atL, List.range_succ]
theorem atK_bd {zs SP : List Int} {gap s0 : Int} (h : ∀ j, 0 ≤ zs.getD j 0 ∧ zs.getD j 0 ≤ 1048576) (hg : 0 ≤ gap ∧ gap ≤ 1048576) (hs : ∀ j, -2097154 ≤ SP.getD j 0 ∧ SP.getD j 0 ≤ 2097154) (h0 : -1048577 ≤ s0 ∧ s0 ≤ 1048577) (k : Nat) :
    -(4194306 * (k : Int)) - 4194306 ≤ atK zs SP gap s0 k ∧ atK zs SP gap s0 k ≤ 4194306 * (k : Int) + 4194306 := by
  induction k with
  | zero => show _ ≤ s0 ∧ s0 ≤ _; omega
  | succ k ih =>
    have := h k
    have := hs k
    show _ ≤ atK zs SP gap s0 k + zs.getD k 0 + gap + SP.getD k 0 ∧ atK zs SP gap s0 k + zs.getD k 0 + gap + SP.getD k 0 ≤ _
    rw [show ((k + 1 : Nat) : Int) = (k : Int) + 1 by omega]
    omega
theorem at_pv {zs SP : List Int} {gap : Int} {sp : Nat → Int} {n : Nat} (hS : ∀ i, i + 1 < n → SP.getD i 0 = sp (i + 1)) {k : Nat} (hk : k < n) :
    atK zs SP gap (sp 0) k = pvV (zit n) gap sp (enV (zit n) zs gap sp k) k := by
  induction k with
  | zero =>
    show sp 0 = _
    unfold pvV enV
    rw [if_pos rfl, zit_at]
    show sp 0 = 0 + sp 0 + 0
    omega
  | succ k ih =>
    show atK zs SP gap (sp 0) k + zs.getD k 0 + gap + SP.getD k 0 = _
    rw [ih (by omega), hS k hk]
    have e : pvV (zit n) gap sp (enV (zit n) zs gap sp (k + 1)) (k + 1) = enV (zit n) zs gap sp (k + 1) + gap + sp (k + 1) + 0 := by
      unfold pvV; rw [if_neg (by omega), zit_at]; rfl
    have e2 : enV (zit n) zs gap sp (k + 1) = pvV (zit n) gap sp (enV (zit n) zs gap sp k) k + zs.getD k 0 + 0 := by
      show _ + _ + (itD (zit n) k).behind = _
      rw [zit_at]; rfl
    rw [e, e2]
    omega
theorem ac_at {zs : List Int} {gap inner : Int} (h : acOk zs gap inner = true) (ct : Int) {SP : List Int} (hS : ∀ i, i + 1 < zs.length → SP.getD i 0 = spV (crF zs gap inner) zs.length (jsV ct) (i + 1)) :
    acV zs gap inner ct = atL zs SP gap (ldV (crF zs gap inner) zs.length (jsV ct)) zs.length := by
  have hF := ac_of h
  have hal := al_ac h
  unfold acV plV
  rw [if_pos h, if_pos hal, cr_free hF, wx_none (by rw [zit_len]; exact zit_au _ _), zit_len]
  have hsq : sqV (zit zs.length) (crF zs gap inner) (jsV ct) = spV (crF zs gap inner) zs.length (jsV ct) := by
    funext i
    unfold sqV
    rw [zit_len, zit_au, if_neg (by omega)]
  rw [hsq]
  apply List.ext_getElem?
  intro i
  by_cases hi : i < zs.length
  · have := at_pv (zs := zs) (gap := gap) (sp := spV (crF zs gap inner) zs.length (jsV ct)) hS hi
    simp only [plK, atL, List.getElem?_map, List.getElem?_range hi, Option.map_some]
    rw [← this]
    rfl
  · rw [List.getElem?_eq_none (by rw [plK_len]; omega), List.getElem?_eq_none (by rw [atL_len]; omega)]
end Go.Proofs.Ytnncdpkmhpjmbaa
end

import Derived.Test.YtnncdpkmhpjmbaaZmAP
import Derived.Test.YtnncdpkmhpjmbaaZmAS
import Derived.Test.YtnncdpkmhpjmbaaZmAX
section
namespace Go.Proofs.Ytnncdpkmhpjmbaa
open Go.ChangeShapes Go.WideShapes Go.ChangeAt Go.RowKit
set_option linter.unusedVariables false
set_option linter.unusedSimpArgs false
set_option maxRecDepth 8000

def wtV (gr : Bool) (x : It) : Int := if gr = true then x.grow else x.shrink * x.base
def stV (gr : Bool) (x : It) : Bool := if gr = true then decide (hypV x < x.base) else decide (x.base < hypV x)
/-- Frozen from the start. -/
def hdV (gr : Bool) (x : It) : Bool := decide (wtV gr x = 0) || stV gr x
def mmV (x : It) : Int := if x.most < x.least then x.least else x.most
def frV (gr : Bool) (s : Int) : Int := lenI (if gr = true then (if s < 0 then 0 else s) else (if 0 < s then 0 else s))
/-- A line: its items, the gap, the room, whether it grows. -/
structure Fx where
  xs : List It
  gap : Int
  inner : Int
  gr : Bool
namespace Fx
variable (f : Fx) (hs : List Bool) (zs : List Int)
def x (i : Nat) : It := itD f.xs i
def wv (i : Nat) : Int := if hs.getD i true = true then 0 else wtV f.gr (f.x i)
def wL : List Int := (List.range f.xs.length).map (f.wv hs)
def al : Int := wsum (f.wL hs) f.xs.length
def fr : Int := frV f.gr (wrap64 (f.inner - ouV f.xs zs f.gap))
def tg (i : Nat) : Int := zs.getD i 0 * f.al hs + f.fr zs * f.wv hs i
def vi (i : Nat) : Int := wiI (f.tg hs zs i) ((f.x i).least * f.al hs) ((f.x i).most * f.al hs) - f.tg hs zs i
def vL : List Int := (List.range f.xs.length).map (f.vi hs zs)
def to : Int := wsum (f.vL hs zs) f.xs.length
def lo (i : Nat) : Bool := decide (0 < f.vi hs zs i) && decide (0 ≤ f.to hs zs)
def hi (i : Nat) : Bool := decide (f.vi hs zs i < 0) && decide (f.to hs zs ≤ 0)
def fz (i : Nat) : Bool := f.lo hs zs i || f.hi hs zs i
def nz (i : Nat) : Int := if f.lo hs zs i = true then (f.x i).least else if f.hi hs zs i = true then mmV (f.x i) else zs.getD i 0
def fo : Bool := (List.range f.xs.length).any (f.fz hs zs)
def hN : List Bool := (List.range f.xs.length).map fun i => hs.getD i true || f.fz hs zs i
def zN : List Int := (List.range f.xs.length).map (f.nz hs zs)
def ez (i : Nat) : Int := if hs.getD i true = true then zs.getD i 0 else clI (zs.getD i 0 + (shrL (f.fr zs) (f.wL hs)).getD i 0)
def zE : List Int := (List.range f.xs.length).map (f.ez hs zs)
def go : Nat → List Bool → List Int → Nat → List Int × Nat
  | 0, hs, zs, p => (zs, p)
  | m + 1, hs, zs, p => if hs.all id = true then (zs, p) else if f.fo hs zs = true then go m (f.hN hs zs) (f.zN hs zs) (p + 1) else (f.zE hs zs, p + 1)
def h0 : List Bool := (List.range f.xs.length).map fun i => hdV f.gr (f.x i)
def z0 : List Int := (List.range f.xs.length).map fun i => if hdV f.gr (f.x i) = true then hypV (f.x i) else (f.x i).base
/-- What stands between two passes. -/
def St : Prop := hs.length = f.xs.length ∧ zs.length = f.xs.length ∧ ∀ i, i < f.xs.length → (0 ≤ zs.getD i 0 ∧ zs.getD i 0 ≤ 1048576) ∧
  (hs.getD i true = true → (f.x i).least ≤ zs.getD i 0 ∧ (0 ≤ (f.x i).most → zs.getD i 0 ≤ mmV (f.x i))) ∧ (hs.getD i true = false → zs.getD i 0 = (f.x i).base ∧ 0 < wtV f.gr (f.x i))
end Fx
theorem rgD {α : Type} (g : Nat → α) {n i : Nat} (h : i < n) (d : α) : ((List.range n).map g).getD i d = g i := by simp [List.getD, h]
theorem itOk_all {x : It} (h : itOk x = true) : (0 ≤ x.base ∧ x.base ≤ 1048576) ∧ (0 ≤ x.least ∧ x.least ≤ 1048576) ∧ (-1 ≤ x.most ∧ x.most ≤ 1048576) ∧ (0 ≤ x.grow ∧ x.grow ≤ 1000) ∧ (0 ≤ x.shrink ∧ x.shrink ≤ 1000) ∧ (-1048576 ≤ x.before ∧ x.before ≤ 1048576) ∧ (-1048576 ≤ x.behind ∧ x.behind ≤ 1048576) := by
  unfold itOk rnB at h
  simp only [Bool.and_eq_true, decide_eq_true_eq] at h
  omega
theorem fx_mul {a b : Int} (A B : Int) (a0 : 0 ≤ a) (a1 : a ≤ A) (b0 : 0 ≤ b) (b1 : b ≤ B) : 0 ≤ a * b ∧ a * b ≤ A * B :=
  ⟨Int.mul_nonneg a0 b0, Int.le_trans (Int.mul_le_mul_of_nonneg_right a1 b0) (Int.mul_le_mul_of_nonneg_left b1 (by omega))⟩
theorem fx_sg {a b : Int} (A B : Int) (a0 : -A ≤ a) (a1 : a ≤ A) (b0 : 0 ≤ b) (b1 : b ≤ B) : -(A * B) ≤ a * b ∧ a * b ≤ A * B := by
  have h0 : 0 ≤ A := by omega
  have h1 := Int.mul_le_mul_of_nonneg_right a1 b0
  have h2 := Int.mul_le_mul_of_nonneg_right a0 b0
  have h3 := Int.mul_le_mul_of_nonneg_left b1 h0
  rw [Int.neg_mul] at h2
  omega
theorem wtV_in {x : It} (h : itOk x = true) (gr : Bool) : 0 ≤ wtV gr x ∧ wtV gr x ≤ 1048576000 := by
  have k := itOk_all h
  unfold wtV
  split
  · omega
  · have := fx_mul 1000 1048576 k.2.2.2.2.1.1 k.2.2.2.2.1.2 k.1.1 k.1.2
    omega
theorem hyp_ok {x : It} (h : itOk x = true) : (0 ≤ hypV x ∧ hypV x ≤ 1048576) ∧ x.least ≤ hypV x ∧ (0 ≤ x.most → hypV x ≤ mmV x) := by
  have k := itOk_all h
  unfold hypV wiI mmV
  (repeat' split) <;> omega
theorem wsum_item {zs : List Int} {k m : Nat} (h : okTo zs m) (hk : k < m) : zs.getD k 0 ≤ wsum zs m := by
  have h1 := wsum_mono h (show k + 1 ≤ m by omega)
  have h2 := wsum_in (okTo_le h (show k ≤ m by omega))
  simp only [wsum] at h1
  omega
theorem wsum_box {zs : List Int} {m : Nat} (B : Int) (h : ∀ j, j < m → -B ≤ zs.getD j 0 ∧ zs.getD j 0 ≤ B) : -(B * (m : Int)) ≤ wsum zs m ∧ wsum zs m ≤ B * (m : Int) := by
  induction m with
  | zero => simp [wsum]
  | succ m ih =>
    have h1 := ih (fun j hj => h j (by omega))
    have h2 := h m (by omega)
    simp only [wsum]
    rw [show ((m + 1 : Nat) : Int) = (m : Int) + 1 by omega, Int.mul_add, Int.mul_one]
    omega
namespace Fx
variable {f : Fx} {hs : List Bool} {zs : List Int}
theorem okx (hok : itsOk f.xs = true) {i : Nat} (h : i < f.xs.length) : itOk (f.x i) = true := (its_ok hok).2 _ (itD_mem h)
theorem n12 (hok : itsOk f.xs = true) : f.xs.length ≤ 12 := (its_ok hok).1
theorem wL_len : (f.wL hs).length = f.xs.length := by simp [wL]
theorem wL_at {i : Nat} (h : i < f.xs.length) : (f.wL hs).getD i 0 = f.wv hs i := rgD _ h 0
theorem vL_at {i : Nat} (h : i < f.xs.length) : (f.vL hs zs).getD i 0 = f.vi hs zs i := rgD _ h 0
theorem wv_in (hok : itsOk f.xs = true) {i : Nat} (h : i < f.xs.length) : 0 ≤ f.wv hs i ∧ f.wv hs i ≤ 1048576000 := by
  unfold wv
  split
  · omega
  · exact wtV_in (okx hok h) _
theorem wL_ok (hok : itsOk f.xs = true) : okTo (f.wL hs) f.xs.length := fun j hj => by
  rw [wL_at hj]
  have := wv_in (hs := hs) hok hj
  omega
theorem al_in (hok : itsOk f.xs = true) : 0 ≤ f.al hs ∧ f.al hs ≤ 12884901888 := by
  have h1 := wsum_in (wL_ok (hs := hs) hok)
  have h2 := n12 hok
  unfold al
  omega
theorem part_in (hok : itsOk f.xs = true) {k : Nat} (hk : k ≤ f.xs.length) : 0 ≤ wsum (f.wL hs) k ∧ wsum (f.wL hs) k ≤ 12884901888 := by
  have h1 := wsum_in (okTo_le (wL_ok (hs := hs) hok) hk)
  have h2 := n12 hok
  omega
theorem wv_al (hok : itsOk f.xs = true) {i : Nat} (h : i < f.xs.length) : f.wv hs i ≤ f.al hs := by
  rw [← wL_at h]; exact wsum_item (wL_ok hok) h
theorem wv_held {i : Nat} (h : hs.getD i true = true) : f.wv hs i = 0 := by unfold wv; rw [if_pos h]
theorem wv_free {i : Nat} (h : hs.getD i true = false) : f.wv hs i = wtV f.gr (f.x i) := by unfold wv; rw [h]; exact if_neg (by decide)
theorem al_pos (hok : itsOk f.xs = true) (hst : f.St hs zs) {i : Nat} (hi : i < f.xs.length) (h : hs.getD i true = false) : 0 < f.al hs := by
  have h1 := wv_al (hs := hs) hok hi
  have h2 := ((hst.2.2 i hi).2.2 h).2
  rw [wv_free h] at h1
  omega
theorem all_held (hst : f.St hs zs) : hs.all id = true ↔ ∀ i, i < f.xs.length → hs.getD i true = true := by
  rw [List.all_eq_true]
  constructor
  · intro h i hi
    have hi' : i < hs.length := by rw [hst.1]; exact hi
    have := h hs[i] (List.getElem_mem hi')
    simpa [List.getD, hi'] using this
  · intro h b hb
    obtain ⟨j, hj, e⟩ := List.getElem_of_mem hb
    have := h j (by rw [← hst.1]; exact hj)
    rw [← e]
    simpa [List.getD, hj] using this
theorem fr_in : -1048576 ≤ f.fr zs ∧ f.fr zs ≤ 1048576 := lenI_in _
theorem fr_id : lenI (f.fr zs) = f.fr zs := lenI_id fr_in.1 fr_in.2
/-- The products are ints. -/
theorem sz_in (hok : itsOk f.xs = true) (hst : f.St hs zs) {i : Nat} (h : i < f.xs.length) : 0 ≤ zs.getD i 0 * f.al hs ∧ zs.getD i 0 * f.al hs ≤ 13510798882111488 :=
  fx_mul 1048576 12884901888 (hst.2.2 i h).1.1 (hst.2.2 i h).1.2 (al_in hok).1 (al_in hok).2
theorem fw_in (hok : itsOk f.xs = true) {i : Nat} (h : i < f.xs.length) : -1099511627776000 ≤ f.fr zs * f.wv hs i ∧ f.fr zs * f.wv hs i ≤ 1099511627776000 :=
  fx_sg 1048576 1048576000 fr_in.1 fr_in.2 (wv_in hok h).1 (wv_in hok h).2
theorem tg_in (hok : itsOk f.xs = true) (hst : f.St hs zs) {i : Nat} (h : i < f.xs.length) : -1099511627776000 ≤ f.tg hs zs i ∧ f.tg hs zs i ≤ 14610310509887488 := by
  have h1 := sz_in hok hst h
  have h2 := fw_in (hs := hs) (zs := zs) hok h
  unfold tg
  omega
theorem le_in (hok : itsOk f.xs = true) {i : Nat} (h : i < f.xs.length) : 0 ≤ (f.x i).least * f.al hs ∧ (f.x i).least * f.al hs ≤ 13510798882111488 :=
  have k := itOk_all (okx hok h)
  fx_mul 1048576 12884901888 k.2.1.1 k.2.1.2 (al_in hok).1 (al_in hok).2
theorem mo_in (hok : itsOk f.xs = true) {i : Nat} (h : i < f.xs.length) : -13510798882111488 ≤ (f.x i).most * f.al hs ∧ (f.x i).most * f.al hs ≤ 13510798882111488 :=
  have k := itOk_all (okx hok h)
  fx_sg 1048576 12884901888 (by omega) k.2.2.1.2 (al_in hok).1 (al_in hok).2
theorem vi_in (hok : itsOk f.xs = true) (hst : f.St hs zs) {i : Nat} (h : i < f.xs.length) : -36028797018963968 ≤ f.vi hs zs i ∧ f.vi hs zs i ≤ 36028797018963968 := by
  have h1 := tg_in hok hst h
  have h2 := le_in (hs := hs) hok h
  have h3 := mo_in (hs := hs) hok h
  unfold vi wiI
  (repeat' split) <;> omega
theorem vs_in (hok : itsOk f.xs = true) (hst : f.St hs zs) {k : Nat} (hk : k ≤ f.xs.length) : -432345564227567616 ≤ wsum (f.vL hs zs) k ∧ wsum (f.vL hs zs) k ≤ 432345564227567616 := by
  have h1 := wsum_box (zs := f.vL hs zs) (m := k) 36028797018963968 (fun j hj => by rw [vL_at (by omega)]; exact vi_in hok hst (by omega))
  have h2 := n12 hok
  omega
/-- What is frozen breaks no limit. -/
theorem vi_held (hok : itsOk f.xs = true) (hst : f.St hs zs) {i : Nat} (hi : i < f.xs.length) (h : hs.getD i true = true) : f.vi hs zs i = 0 := by
  have k := itOk_all (okx hok hi)
  obtain ⟨h1, h2, _⟩ := hst.2.2 i hi
  obtain ⟨h3, h4⟩ := h2 h
  have ha := (al_in (hs := hs) hok).1
  unfold vi tg
  rw [wv_held h, Int.mul_zero, Int.add_zero]
  generalize zs.getD i 0 = z at *
  generalize f.al hs = A at *
  have e1 := Int.mul_le_mul_of_nonneg_right h3 ha
  unfold wiI
  by_cases hm : 0 ≤ (f.x i).most
  · have h5 := h4 hm
    unfold mmV at h5
    have e0 := Int.mul_nonneg hm ha
    split at h5
    · obtain rfl : (f.x i).least = z := by omega
      have e2 := Int.mul_le_mul_of_nonneg_right (show (f.x i).most ≤ (f.x i).least by omega) ha
      (repeat' split) <;> omega
    · have e2 := Int.mul_le_mul_of_nonneg_right h5 ha
      (repeat' split) <;> omega
  · have e0 : (f.x i).most * A ≤ 0 := by
      have := Int.mul_le_mul_of_nonneg_right (show (f.x i).most ≤ 0 by omega) ha
      omega
    by_cases hA : A = 0
    · subst hA; simp
    · have e2 : (f.x i).most * A < 0 := by
        have := Int.mul_lt_mul_of_pos_right (show (f.x i).most < 0 by omega) (show 0 < A by omega)
        omega
      (repeat' split) <;> omega
theorem fz_held (hok : itsOk f.xs = true) (hst : f.St hs zs) {i : Nat} (hi : i < f.xs.length) (h : hs.getD i true = true) : f.fz hs zs i = false := by
  unfold fz lo Fx.hi
  rw [vi_held hok hst hi h]
  simp
theorem st0 (hok : itsOk f.xs = true) : f.St f.h0 f.z0 := by
  refine ⟨by simp [h0], by simp [z0], fun i hi => ?_⟩
  have k := itOk_all (okx hok hi)
  have k2 := hyp_ok (okx hok hi)
  have k3 := wtV_in (okx hok hi) f.gr
  unfold h0 z0
  rw [rgD _ hi, rgD _ hi]
  cases hb : hdV f.gr (f.x i) with
  | true =>
    rw [if_pos rfl]
    exact ⟨k2.1, fun _ => k2.2, fun h => by cases h⟩
  | false =>
    rw [if_neg (by simp)]
    refine ⟨k.1, (fun h => by cases h), fun _ => ⟨rfl, ?_⟩⟩
    unfold hdV at hb
    simp at hb
    omega
theorem mm_in {x : It} (h : itOk x = true) : 0 ≤ mmV x ∧ mmV x ≤ 1048576 ∧ x.least ≤ mmV x := by
  have k := itOk_all h
  unfold mmV
  split <;> omega
theorem stN (hok : itsOk f.xs = true) (hst : f.St hs zs) : f.St (f.hN hs zs) (f.zN hs zs) := by
  refine ⟨by simp [hN], by simp [zN], fun i hi => ?_⟩
  have k := itOk_all (okx hok hi)
  have k2 := mm_in (okx hok hi)
  obtain ⟨h1, h2, h3⟩ := hst.2.2 i hi
  unfold hN zN
  rw [rgD _ hi, rgD _ hi]
  unfold nz fz
  cases hl : f.lo hs zs i with
  | true =>
    rw [if_pos rfl]
    exact ⟨k.2.1, fun _ => ⟨Int.le_refl _, fun _ => k2.2.2⟩, fun h => by simp at h⟩
  | false =>
    rw [if_neg (by simp)]
    cases hh : f.hi hs zs i with
    | true =>
      rw [if_pos rfl]
      exact ⟨⟨k2.1, k2.2.1⟩, fun _ => ⟨k2.2.2, fun _ => Int.le_refl _⟩, fun h => by simp at h⟩
    | false =>
      rw [if_neg (by simp)]
      simp only [Bool.or_false]
      exact ⟨h1, h2, h3⟩
/-- How many are not frozen. -/
def nf (hs : List Bool) : Nat := hs.countP (fun b => !b)
theorem nf_le (hs : List Bool) : nf hs ≤ hs.length := List.countP_le_length
theorem nf_step : ∀ (a b : List Bool), a.length = b.length → (∀ i, i < a.length → a.getD i true = true → b.getD i true = true) → nf b ≤ nf a
  | [], [], _, _ => Nat.le_refl _
  | [], _ :: _, h, _ => by simp at h
  | _ :: _, [], h, _ => by simp at h
  | x :: a, y :: b, h, hm => by
    have ih := nf_step a b (by simpa using h) (fun i hi h1 => by simpa using hm (i + 1) (by simpa using hi) (by simpa using h1))
    have h0 := hm 0 (by simp)
    unfold nf at *
    simp only [List.getD_cons_zero] at h0
    rw [List.countP_cons, List.countP_cons]
    cases x <;> cases y <;> simp at h0 ⊢ <;> omega
theorem nf_less : ∀ (a b : List Bool), a.length = b.length → (∀ i, i < a.length → a.getD i true = true → b.getD i true = true) → (∃ i, i < a.length ∧ a.getD i true = false ∧ b.getD i true = true) → nf b < nf a
  | [], _, _, _, ⟨i, hi, _⟩ => by simp at hi
  | _ :: _, [], h, _, _ => by simp at h
  | x :: a, y :: b, h, hm, ⟨i, hi, h1, h2⟩ => by
    have hst := nf_step a b (by simpa using h) (fun i hi h1 => by simpa using hm (i + 1) (by simpa using hi) (by simpa using h1))
    have h0 := hm 0 (by simp)
    simp only [List.getD_cons_zero] at h0
    cases i with
    | zero =>
      simp only [List.getD_cons_zero] at h1 h2
      subst h1 h2
      unfold nf at *
      rw [List.countP_cons, List.countP_cons]
      simp; omega
    | succ i =>
      have ih := nf_less a b (by simpa using h) (fun i hi h1 => by simpa using hm (i + 1) (by simpa using hi) (by simpa using h1)) ⟨i, by simpa using hi, by simpa using h1, by simpa using h2⟩
      unfold nf at *
      rw [List.countP_cons, List.countP_cons]
      cases x <;> cases y <;> simp at h0 ⊢ <;> omega
theorem nf_pos (hst : f.St hs zs) (h : hs.all id = false) : 0 < nf hs := by
  unfold nf
  rw [List.countP_pos_iff]
  rw [List.all_eq_false] at h
  obtain ⟨b, hb, h1⟩ := h
  exact ⟨b, hb, by simpa using h1⟩
theorem nf_N (hok : itsOk f.xs = true) (hst : f.St hs zs) (h : f.fo hs zs = true) : nf (f.hN hs zs) < nf hs := by
  have hl : hs.length = (f.hN hs zs).length := by rw [hst.1, (stN hok hst).1]
  refine nf_less hs (f.hN hs zs) hl (fun i hi h1 => ?_) ?_
  · have hi' : i < f.xs.length := by rw [← hst.1]; exact hi
    unfold hN
    rw [rgD _ hi', h1, Bool.true_or]
  · unfold fo at h
    rw [List.any_eq_true] at h
    obtain ⟨i, hi, h1⟩ := h
    have hi' : i < f.xs.length := List.mem_range.1 hi
    refine ⟨i, by rw [hst.1]; exact hi', ?_, ?_⟩
    · cases hb : hs.getD i true with
      | false => rfl
      | true => rw [fz_held hok hst hi' hb] at h1; cases h1
    · unfold hN
      rw [rgD _ hi', h1, Bool.or_true]
/-- Where nothing is frozen in a pass, no limit is broken. -/
theorem fo_none (hok : itsOk f.xs = true) (h : f.fo hs zs = false) {i : Nat} (hi : i < f.xs.length) : f.vi hs zs i = 0 := by
  unfold fo at h
  rw [List.any_eq_false] at h
  have hz : ∀ j, j < f.xs.length → ¬ (0 < f.vi hs zs j ∧ 0 ≤ f.to hs zs) ∧ ¬ (f.vi hs zs j < 0 ∧ f.to hs zs ≤ 0) := fun j hj => by
    have := h j (List.mem_range.2 hj)
    unfold fz lo Fx.hi at this
    simp only [Bool.or_eq_true, Bool.and_eq_true, decide_eq_true_eq, not_or] at this
    exact this
  have hpos : 0 < f.to hs zs → ∀ j, j < f.xs.length → f.vi hs zs j ≤ 0 := fun ht j hj => by have := hz j hj; omega
  have hneg : f.to hs zs < 0 → ∀ j, j < f.xs.length → 0 ≤ f.vi hs zs j := fun ht j hj => by have := hz j hj; omega
  have sle : ∀ m, m ≤ f.xs.length → (∀ j, j < f.xs.length → f.vi hs zs j ≤ 0) → wsum (f.vL hs zs) m ≤ 0 := by
    intro m hm hh
    induction m with
    | zero => exact Int.le_refl _
    | succ m ih =>
      have h1 := ih (by omega)
      have h2 := hh m (by omega)
      simp only [wsum]; rw [vL_at (by omega)]; omega
  have sge : ∀ m, m ≤ f.xs.length → (∀ j, j < f.xs.length → 0 ≤ f.vi hs zs j) → 0 ≤ wsum (f.vL hs zs) m := by
    intro m hm hh
    induction m with
    | zero => exact Int.le_refl _
    | succ m ih =>
      have h1 := ih (by omega)
      have h2 := hh m (by omega)
      simp only [wsum]; rw [vL_at (by omega)]; omega
  have ht : f.to hs zs = 0 := by
    by_cases h1 : 0 < f.to hs zs
    · have := sle _ (Nat.le_refl _) (hpos h1)
      unfold to at h1; omega
    · by_cases h2 : f.to hs zs < 0
      · have := sge _ (Nat.le_refl _) (hneg h2)
        unfold to at h2; omega
      · omega
  have := hz i hi
  omega
/-- The passes, where the fuel is enough. -/
theorem go_end (m : Nat) (p : Nat) (h : hs.all id = true) : f.go m hs zs p = (zs, p) := by
  cases m with
  | zero => rfl
  | succ m => rw [go, if_pos h]
theorem go_next {m : Nat} (p : Nat) (h : hs.all id = false) (h1 : f.fo hs zs = true) : f.go (m + 1) hs zs p = f.go m (f.hN hs zs) (f.zN hs zs) (p + 1) := by
  rw [go, if_neg (by simp [h]), if_pos h1]
theorem go_last {m : Nat} (p : Nat) (h : hs.all id = false) (h1 : f.fo hs zs = false) : f.go (m + 1) hs zs p = (f.zE hs zs, p + 1) := by
  rw [go, if_neg (by simp [h]), if_neg (by simp [h1])]
end Fx
/-- Whether the sizes are to be determined. -/
def flOk (xs : List It) (gap inner : Int) : Bool := itsOk xs && rnB gap 0 1048576 && rnB inner 0 1048576
def fxOf (xs : List It) (gap inner : Int) : Fx := ⟨xs, gap, inner, decide (ouV xs (hypL xs) gap < inner)⟩
/-- The sizes of a line, and how many passes they took. -/
def fxV (xs : List It) (gap inner : Int) : List Int × Nat := if flOk xs gap inner = true then (fxOf xs gap inner).go xs.length (fxOf xs gap inner).h0 (fxOf xs gap inner).z0 0 else (hypL xs, 0)
end Go.Proofs.Ytnncdpkmhpjmbaa
end

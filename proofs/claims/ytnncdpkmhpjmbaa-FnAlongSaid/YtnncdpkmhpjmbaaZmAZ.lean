import Derived.Test.YtnncdpkmhpjmbaaZmAX
import Derived.Test.YtnncdpkmhpjmbaaZmAY
section
namespace Go.Proofs.Ytnncdpkmhpjmbaa
open Go.ChangeShapes Go.WideShapes Go.ChangeAt Go.RowKit
set_option linter.unusedVariables false
set_option linter.unusedSimpArgs false
set_option maxRecDepth 20000

theorem fd_near {A B S : Int} (h : 1 ≤ S) : (fdI (A + B) S - fdI A S) * S < B + S ∧ B - S < (fdI (A + B) S - fdI A S) * S := by
  have h1 := fdI_le (a := A) h
  have h3 := fdI_le (a := A + B) h
  generalize fdI A S = p at *
  generalize fdI (A + B) S = r at *
  rw [Int.sub_mul]
  omega
theorem shr_near {m : Int} {zs : List Int} {k : Nat} (h : 1 ≤ wsum zs zs.length) :
    shrI m zs k * wsum zs zs.length < m * zs.getD k 0 + wsum zs zs.length ∧ m * zs.getD k 0 - wsum zs zs.length < shrI m zs k * wsum zs zs.length := by
  have h1 := fd_near (A := m * wsum zs k) (B := m * zs.getD k 0) h
  have e : m * wsum zs (k + 1) = m * wsum zs k + m * zs.getD k 0 := by rw [← Int.mul_add]; rfl
  unfold shrI posI
  rw [e]
  exact h1
theorem clI_ge {l z : Int} (h0 : l ≤ 1048576) (h : l ≤ z) : l ≤ clI z := by
  unfold clI brI; (repeat' split) <;> omega
theorem clI_le {l z : Int} (h0 : 0 ≤ l) (h : z ≤ l) : clI z ≤ l := by
  unfold clI brI; (repeat' split) <;> omega
theorem wok_of {zs : List Int} (h64 : zs.length ≤ 64) (hok : okTo zs zs.length) : wokI zs = true := decide_eq_true ⟨h64, hok⟩
namespace Fx
variable {f : Fx} {hs : List Bool} {zs : List Int}
theorem wok (hok : itsOk f.xs = true) : wokI (f.wL hs) = true := wok_of (by rw [wL_len]; have := n12 hok; omega) (by rw [wL_len]; exact wL_ok hok)
/-- The share of an item that is not held: less than 1 from the exact one. -/
theorem sh_near (hok : itsOk f.xs = true) (hst : f.St hs zs) {i : Nat} (hi : i < f.xs.length) (h : hs.getD i true = false) :
    (shrL (f.fr zs) (f.wL hs)).getD i 0 * f.al hs < f.fr zs * f.wv hs i + f.al hs ∧ f.fr zs * f.wv hs i - f.al hs < (shrL (f.fr zs) (f.wL hs)).getD i 0 * f.al hs := by
  have hp := al_pos hok hst hi h
  have e : wsum (f.wL hs) (f.wL hs).length = f.al hs := by rw [wL_len]; rfl
  rw [shrL_at (wok hok) (by rw [wL_len]; exact hi), fr_id]
  have := shr_near (m := f.fr zs) (zs := f.wL hs) (k := i) (by rw [e]; omega)
  rw [e, wL_at hi] at this
  exact this
theorem mul_lt_cancel {a b S : Int} (hS : 0 < S) (h : a * S < b * S) : a < b := Int.lt_of_mul_lt_mul_right h (by omega)
theorem ez_fit (hok : itsOk f.xs = true) (hst : f.St hs zs) (hfo : f.fo hs zs = false) {i : Nat} (hi : i < f.xs.length) :
    (0 ≤ f.ez hs zs i ∧ f.ez hs zs i ≤ 1048576) ∧ (f.x i).least ≤ f.ez hs zs i ∧ (0 ≤ (f.x i).most → f.ez hs zs i ≤ mmV (f.x i)) := by
  have k := itOk_all (okx hok hi)
  have k2 := mm_in (okx hok hi)
  obtain ⟨h1, h2, h3⟩ := hst.2.2 i hi
  unfold ez
  cases hb : hs.getD i true with
  | true =>
    rw [if_pos rfl]
    exact ⟨h1, h2 hb⟩
  | false =>
    rw [if_neg (by simp)]
    have hn := sh_near hok hst hi hb
    have hp := al_pos hok hst hi hb
    have hv := fo_none hok hfo hi
    have hz := (h3 hb).1
    unfold vi tg at hv
    generalize (shrL (f.fr zs) (f.wL hs)).getD i 0 = s at *
    generalize f.fr zs * f.wv hs i = B at *
    generalize f.al hs = A at *
    generalize zs.getD i 0 = z at *
    generalize f.x i = x at *
    have hlo : x.least * A ≤ z * A + B := by
      unfold wiI at hv
      by_cases c : 0 ≤ x.most * A ∧ x.most * A < z * A + B
      · rw [if_pos c] at hv
        by_cases c2 : x.most * A < x.least * A
        · rw [if_pos c2] at hv; omega
        · rw [if_neg c2] at hv; omega
      · rw [if_neg c] at hv
        by_cases c2 : z * A + B < x.least * A
        · rw [if_pos c2] at hv; omega
        · omega
    have hhi : 0 ≤ x.most → z * A + B ≤ mmV x * A := by
      intro hm
      have hmA : 0 ≤ x.most * A := Int.mul_nonneg hm (by omega)
      have hmm1 : x.most * A ≤ mmV x * A := Int.mul_le_mul_of_nonneg_right (by unfold mmV; split <;> omega) (by omega)
      have hmm2 : x.least * A ≤ mmV x * A := Int.mul_le_mul_of_nonneg_right k2.2.2 (by omega)
      unfold wiI at hv
      by_cases c : 0 ≤ x.most * A ∧ x.most * A < z * A + B
      · rw [if_pos c] at hv
        by_cases c2 : x.most * A < x.least * A
        · rw [if_pos c2] at hv; omega
        · rw [if_neg c2] at hv; omega
      · omega
    have g1 : x.least ≤ z + s := by
      have : (x.least - 1) * A < (z + s) * A := by rw [Int.sub_mul, Int.add_mul]; omega
      have := mul_lt_cancel hp this
      omega
    have g2 : 0 ≤ x.most → z + s ≤ mmV x := fun hm => by
      have h5 := hhi hm
      have : (z + s) * A < (mmV x + 1) * A := by rw [Int.add_mul, Int.add_mul]; omega
      have := mul_lt_cancel hp this
      omega
    exact ⟨clI_in _, clI_ge k.2.1.2 g1, fun hm => clI_le k2.1 (g2 hm)⟩
/-- What the passes answer. -/
def Fit (f : Fx) (zs : List Int) : Prop := zs.length = f.xs.length ∧ ∀ i, i < f.xs.length → (0 ≤ zs.getD i 0 ∧ zs.getD i 0 ≤ 1048576) ∧ (f.x i).least ≤ zs.getD i 0 ∧ (0 ≤ (f.x i).most → zs.getD i 0 ≤ mmV (f.x i))
theorem go_fit (hok : itsOk f.xs = true) : ∀ (m : Nat) (hs : List Bool) (zs : List Int) (p : Nat), f.St hs zs → nf hs ≤ m → f.Fit (f.go m hs zs p).1 ∧ (f.go m hs zs p).2 ≤ p + nf hs
  | 0, hs, zs, p, hst, hn => by
    have ha : hs.all id = true := by
      cases hc : hs.all id with
      | true => rfl
      | false => have := nf_pos hst hc; omega
    rw [go_end _ _ ha]
    exact ⟨⟨hst.2.1, fun i hi => ⟨(hst.2.2 i hi).1, (hst.2.2 i hi).2.1 ((all_held hst).1 ha i hi)⟩⟩, by omega⟩
  | m + 1, hs, zs, p, hst, hn => by
    cases ha : hs.all id with
    | true =>
      rw [go_end _ _ ha]
      exact ⟨⟨hst.2.1, fun i hi => ⟨(hst.2.2 i hi).1, (hst.2.2 i hi).2.1 ((all_held hst).1 ha i hi)⟩⟩, by omega⟩
    | false =>
      cases hf : f.fo hs zs with
      | true =>
        rw [go_next p ha hf]
        have h2 := nf_N hok hst hf
        have ih := go_fit hok m _ _ (p + 1) (stN hok hst) (by omega)
        exact ⟨ih.1, by omega⟩
      | false =>
        rw [go_last p ha hf]
        have h2 := nf_pos hst ha
        refine ⟨⟨by simp [zE], fun i hi => ?_⟩, by show p + 1 ≤ _; omega⟩
        have := ez_fit hok hst hf hi
        unfold zE
        rw [rgD _ hi]
        exact this
end Fx
theorem fxV_bad {xs : List It} {gap inner : Int} (h : flOk xs gap inner = false) : fxV xs gap inner = (hypL xs, 0) := by unfold fxV; rw [if_neg (by rw [h]; decide)]
theorem flOk_its {xs : List It} {gap inner : Int} (h : flOk xs gap inner = true) : itsOk xs = true := by
  unfold flOk at h; simp only [Bool.and_eq_true] at h; exact h.1.1
theorem fxV_fit {xs : List It} {gap inner : Int} (h : flOk xs gap inner = true) : (fxOf xs gap inner).Fit (fxV xs gap inner).1 ∧ (fxV xs gap inner).2 ≤ xs.length := by
  have hok : itsOk (fxOf xs gap inner).xs = true := flOk_its h
  have h0 := Fx.st0 hok
  have hn : Fx.nf (fxOf xs gap inner).h0 ≤ xs.length := by have := Fx.nf_le (fxOf xs gap inner).h0; rw [h0.1] at this; exact this
  have := Fx.go_fit hok xs.length _ _ 0 h0 hn
  unfold fxV
  rw [if_pos h]
  exact ⟨this.1, by omega⟩
theorem fxV_len (xs : List It) (gap inner : Int) : (fxV xs gap inner).1.length = xs.length := by
  cases h : flOk xs gap inner with
  | false => rw [fxV_bad h]; exact hypL_len xs
  | true => exact (fxV_fit h).1.1
theorem getD_of_mem {zs : List Int} {z : Int} (h : z ∈ zs) : ∃ i, i < zs.length ∧ zs.getD i 0 = z := by
  obtain ⟨i, hi, e⟩ := List.getElem_of_mem h
  exact ⟨i, hi, by simp [List.getD, hi, e]⟩
theorem fxV_all {xs : List It} (gap inner : Int) (hx : ∀ x ∈ xs, x.inr) : AllI (fxV xs gap inner).1 := by
  cases h : flOk xs gap inner with
  | false => rw [fxV_bad h]; exact hypL_all hx
  | true =>
    intro z hz
    obtain ⟨i, hi, rfl⟩ := getD_of_mem hz
    have hf := (fxV_fit h).1
    have := (hf.2 i (by rw [← hf.1]; exact hi)).1
    omega
end Go.Proofs.Ytnncdpkmhpjmbaa
end

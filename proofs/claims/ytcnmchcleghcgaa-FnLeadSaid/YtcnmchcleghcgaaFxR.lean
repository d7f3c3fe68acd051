/-
  What the flexed sizes keep: each within its item's limits, at most as many passes as items, equal items at most 1 apart. Conditions: those of each lemma.
-/
import Derived.Test.YtcnmchcleghcgaaFxP
import Derived.Test.YtcnmchcleghcgaaShT
namespace Go.Proofs.Ytcnmchcleghcgaa
open Go.ChangeShapes Go.WideShapes Go.ChangeAt Go.RowKit
set_option linter.unusedVariables false
set_option linter.unusedSimpArgs false
set_option maxRecDepth 20000

theorem fd_near {A B S : Int} (h : 1 ≤ S) : (fdI (A + B) S - fdI A S) * S < B + S ∧ B - S < (fdI (A + B) S - fdI A S) * S := by
  have h1 := fdI_le (a := A) h
  have h3 := fdI_le (a := A + B) h
  generalize fdI A S = p at *
  generalize fdI (A + B) S = r at *
  rw [Int.sub_mul]
  omega
theorem shr_near {m : Int} {zs : List Int} {k : Nat} (h : 1 ≤ wsum zs zs.length) :
    shrI m zs k * wsum zs zs.length < m * zs.getD k 0 + wsum zs zs.length ∧ m * zs.getD k 0 - wsum zs zs.length < shrI m zs k * wsum zs zs.length := by
  have h1 := fd_near (A := m * wsum zs k) (B := m * zs.getD k 0) h
  have e : m * wsum zs (k + 1) = m * wsum zs k + m * zs.getD k 0 := by rw [← Int.mul_add]; rfl
  unfold shrI posI
  rw [e]
  exact h1
theorem clI_ge {l z : Int} (h0 : l ≤ 1048576) (h : l ≤ z) : l ≤ clI z := by
  unfold clI brI; (repeat' split) <;> omega
theorem clI_le {l z : Int} (h0 : 0 ≤ l) (h : z ≤ l) : clI z ≤ l := by
  unfold clI brI; (repeat' split) <;> omega
theorem clI_near {a b : Int} (h : -1 ≤ a - b ∧ a - b ≤ 1) : -1 ≤ clI a - clI b ∧ clI a - clI b ≤ 1 := by
  unfold clI brI; (repeat' split) <;> omega
theorem wok_of {zs : List Int} (h64 : zs.length ≤ 64) (hok : okTo zs zs.length) : wokI zs = true := decide_eq_true ⟨h64, hok⟩
namespace Fx
variable {f : Fx} {hs : List Bool} {zs : List Int}
theorem wok (hok : itsOk f.xs = true) : wokI (f.wL hs) = true := wok_of (by rw [wL_len]; have := n12 hok; omega) (by rw [wL_len]; exact wL_ok hok)
/-- The share of an item that is not held: less than 1 from the exact one. -/
theorem sh_near (hok : itsOk f.xs = true) (hst : f.St hs zs) {i : Nat} (hi : i < f.xs.length) (h : hs.getD i true = false) :
    (shrL (f.fr zs) (f.wL hs)).getD i 0 * f.al hs < f.fr zs * f.wv hs i + f.al hs ∧ f.fr zs * f.wv hs i - f.al hs < (shrL (f.fr zs) (f.wL hs)).getD i 0 * f.al hs := by
  have hp := al_pos hok hst hi h
  have e : wsum (f.wL hs) (f.wL hs).length = f.al hs := by rw [wL_len]; rfl
  rw [shrL_at (wok hok) (by rw [wL_len]; exact hi), fr_id]
  have := shr_near (m := f.fr zs) (zs := f.wL hs) (k := i) (by rw [e]; omega)
  rw [e, wL_at hi] at this
  exact this
theorem mul_lt_cancel {a b S : Int} (hS : 0 < S) (h : a * S < b * S) : a < b := Int.lt_of_mul_lt_mul_right h (by omega)
theorem ez_fit (hok : itsOk f.xs = true) (hst : f.St hs zs) (hfo : f.fo hs zs = false) {i : Nat} (hi : i < f.xs.length) :
    (0 ≤ f.ez hs zs i ∧ f.ez hs zs i ≤ 1048576) ∧ (f.x i).least ≤ f.ez hs zs i ∧ (0 ≤ (f.x i).most → f.ez hs zs i ≤ mmV (f.x i)) := by
  have k := itOk_all (okx hok hi)
  have k2 := mm_in (okx hok hi)
  obtain ⟨h1, h2, h3⟩ := hst.2.2 i hi
  unfold ez
  cases hb : hs.getD i true with
  | true =>
    rw [if_pos rfl]
    exact ⟨h1, h2 hb⟩
  | false =>
    rw [if_neg (by simp)]
    have hn := sh_near hok hst hi hb
    have hp := al_pos hok hst hi hb
    have hv := fo_none hok hfo hi
    have hz := (h3 hb).1
    unfold vi tg at hv
    generalize (shrL (f.fr zs) (f.wL hs)).getD i 0 = s at *
    generalize f.fr zs * f.wv hs i = B at *
    generalize f.al hs = A at *
    generalize zs.getD i 0 = z at *
    generalize f.x i = x at *
    have hlo : x.least * A ≤ z * A + B := by
      unfold wiI at hv
      by_cases c : 0 ≤ x.most * A ∧ x.most * A < z * A + B
      · rw [if_pos c] at hv
        by_cases c2 : x.most * A < x.least * A
        · rw [if_pos c2] at hv; omega
        · rw [if_neg c2] at hv; omega
      · rw [if_neg c] at hv
        by_cases c2 : z * A + B < x.least * A
        · rw [if_pos c2] at hv; omega
        · omega
    have hhi : 0 ≤ x.most → z * A + B ≤ mmV x * A := by
      intro hm
      have hmA : 0 ≤ x.most * A := Int.mul_nonneg hm (by omega)
      have hmm1 : x.most * A ≤ mmV x * A := Int.mul_le_mul_of_nonneg_right (by unfold mmV; split <;> omega) (by omega)
      have hmm2 : x.least * A ≤ mmV x * A := Int.mul_le_mul_of_nonneg_right k2.2.2 (by omega)
      unfold wiI at hv
      by_cases c : 0 ≤ x.most * A ∧ x.most * A < z * A + B
      · rw [if_pos c] at hv
        by_cases c2 : x.most * A < x.least * A
        · rw [if_pos c2] at hv; omega
        · rw [if_neg c2] at hv; omega
      · omega
    have g1 : x.least ≤ z + s := by
      have : (x.least - 1) * A < (z + s) * A := by rw [Int.sub_mul, Int.add_mul]; omega
      have := mul_lt_cancel hp this
      omega
    have g2 : 0 ≤ x.most → z + s ≤ mmV x := fun hm => by
      have h5 := hhi hm
      have : (z + s) * A < (mmV x + 1) * A := by rw [Int.add_mul, Int.add_mul]; omega
      have := mul_lt_cancel hp this
      omega
    exact ⟨clI_in _, clI_ge k.2.1.2 g1, fun hm => clI_le k2.1 (g2 hm)⟩
/-- What the passes answer. -/
def Fit (f : Fx) (zs : List Int) : Prop := zs.length = f.xs.length ∧ ∀ i, i < f.xs.length → (0 ≤ zs.getD i 0 ∧ zs.getD i 0 ≤ 1048576) ∧ (f.x i).least ≤ zs.getD i 0 ∧ (0 ≤ (f.x i).most → zs.getD i 0 ≤ mmV (f.x i))
theorem go_fit (hok : itsOk f.xs = true) : ∀ (m : Nat) (hs : List Bool) (zs : List Int) (p : Nat), f.St hs zs → nf hs ≤ m → f.Fit (f.go m hs zs p).1 ∧ (f.go m hs zs p).2 ≤ p + nf hs
  | 0, hs, zs, p, hst, hn => by
    have ha : hs.all id = true := by
      cases hc : hs.all id with
      | true => rfl
      | false => have := nf_pos hst hc; omega
    rw [go_end _ _ ha]
    exact ⟨⟨hst.2.1, fun i hi => ⟨(hst.2.2 i hi).1, (hst.2.2 i hi).2.1 ((all_held hst).1 ha i hi)⟩⟩, by omega⟩
  | m + 1, hs, zs, p, hst, hn => by
    cases ha : hs.all id with
    | true =>
      rw [go_end _ _ ha]
      exact ⟨⟨hst.2.1, fun i hi => ⟨(hst.2.2 i hi).1, (hst.2.2 i hi).2.1 ((all_held hst).1 ha i hi)⟩⟩, by omega⟩
    | false =>
      cases hf : f.fo hs zs with
      | true =>
        rw [go_next p ha hf]
        have h2 := nf_N hok hst hf
        have ih := go_fit hok m _ _ (p + 1) (stN hok hst) (by omega)
        exact ⟨ih.1, by omega⟩
      | false =>
        rw [go_last p ha hf]
        have h2 := nf_pos hst ha
        refine ⟨⟨by simp [zE], fun i hi => ?_⟩, by show p + 1 ≤ _; omega⟩
        have := ez_fit hok hst hf hi
        unfold zE
        rw [rgD _ hi]
        exact this
/-- All items alike. -/
def Like (f : Fx) : Prop := ∀ i j, i < f.xs.length → j < f.xs.length → f.x i = f.x j
def Sym (f : Fx) (hs : List Bool) (zs : List Int) : Prop := ∀ i j, i < f.xs.length → j < f.xs.length → hs.getD i true = hs.getD j true ∧ zs.getD i 0 = zs.getD j 0
theorem vi_sym (hl : f.Like) (hy : f.Sym hs zs) {i j : Nat} (hi : i < f.xs.length) (hj : j < f.xs.length) : f.vi hs zs i = f.vi hs zs j ∧ f.wv hs i = f.wv hs j := by
  have e1 := hl i j hi hj
  obtain ⟨e2, e3⟩ := hy i j hi hj
  have e4 : f.wv hs i = f.wv hs j := by unfold wv; rw [e1, e2]
  refine ⟨?_, e4⟩
  unfold vi tg
  rw [e1, e3, e4]
theorem symN (hl : f.Like) (hy : f.Sym hs zs) : f.Sym (f.hN hs zs) (f.zN hs zs) := by
  intro i j hi hj
  have e1 := hl i j hi hj
  obtain ⟨e2, e3⟩ := hy i j hi hj
  have e4 := (vi_sym hl hy hi hj).1
  unfold hN zN
  rw [rgD _ hi, rgD _ hi, rgD _ hj, rgD _ hj]
  unfold nz fz lo Fx.hi
  rw [e1, e2, e3, e4]
  exact ⟨rfl, rfl⟩
theorem go_near (hok : itsOk f.xs = true) (hl : f.Like) : ∀ (m : Nat) (hs : List Bool) (zs : List Int) (p : Nat), f.St hs zs → f.Sym hs zs → ∀ i j, i < f.xs.length → j < f.xs.length →
    -1 ≤ (f.go m hs zs p).1.getD i 0 - (f.go m hs zs p).1.getD j 0 ∧ (f.go m hs zs p).1.getD i 0 - (f.go m hs zs p).1.getD j 0 ≤ 1
  | 0, hs, zs, p, hst, hy, i, j, hi, hj => by
    have := (hy i j hi hj).2
    show -1 ≤ zs.getD i 0 - zs.getD j 0 ∧ zs.getD i 0 - zs.getD j 0 ≤ 1
    omega
  | m + 1, hs, zs, p, hst, hy, i, j, hi, hj => by
    cases ha : hs.all id with
    | true =>
      rw [go_end _ _ ha]
      have := (hy i j hi hj).2
      show -1 ≤ zs.getD i 0 - zs.getD j 0 ∧ zs.getD i 0 - zs.getD j 0 ≤ 1
      omega
    | false =>
      cases hf : f.fo hs zs with
      | true =>
        rw [go_next p ha hf]
        exact go_near hok hl m _ _ (p + 1) (stN hok hst) (symN hl hy) i j hi hj
      | false =>
        rw [go_last p ha hf]
        show -1 ≤ (f.zE hs zs).getD i 0 - (f.zE hs zs).getD j 0 ∧ (f.zE hs zs).getD i 0 - (f.zE hs zs).getD j 0 ≤ 1
        unfold zE
        rw [rgD _ hi, rgD _ hj]
        unfold ez
        obtain ⟨e2, e3⟩ := hy i j hi hj
        rw [← e2, ← e3]
        cases hb : hs.getD i true with
        | true => rw [if_pos rfl, if_pos rfl]; omega
        | false =>
          rw [if_neg (by simp), if_neg (by simp)]
          apply clI_near
          have n1 := sh_near hok hst hi hb
          have n2 := sh_near hok hst hj (by rw [← e2]; exact hb)
          have hp := al_pos hok hst hi hb
          rw [← (vi_sym hl hy hi hj).2] at n2
          generalize (shrL (f.fr zs) (f.wL hs)).getD i 0 = s at *
          generalize (shrL (f.fr zs) (f.wL hs)).getD j 0 = t at *
          generalize f.fr zs * f.wv hs i = B at *
          generalize f.al hs = A at *
          have a1 : (s - t) * A < 2 * A := by rw [Int.sub_mul]; omega
          have a2 : (t - s) * A < 2 * A := by rw [Int.sub_mul]; omega
          have := mul_lt_cancel hp a1
          have := mul_lt_cancel hp a2
          omega
end Fx
theorem fxV_bad {xs : List It} {gap inner : Int} (h : flOk xs gap inner = false) : fxV xs gap inner = (hypL xs, 0) := by unfold fxV; rw [if_neg (by rw [h]; decide)]
theorem flOk_its {xs : List It} {gap inner : Int} (h : flOk xs gap inner = true) : itsOk xs = true := by
  unfold flOk at h; simp only [Bool.and_eq_true] at h; exact h.1.1
theorem fxV_fit {xs : List It} {gap inner : Int} (h : flOk xs gap inner = true) : (fxOf xs gap inner).Fit (fxV xs gap inner).1 ∧ (fxV xs gap inner).2 ≤ xs.length := by
  have hok : itsOk (fxOf xs gap inner).xs = true := flOk_its h
  have h0 := Fx.st0 hok
  have hn : Fx.nf (fxOf xs gap inner).h0 ≤ xs.length := by have := Fx.nf_le (fxOf xs gap inner).h0; rw [h0.1] at this; exact this
  have := Fx.go_fit hok xs.length _ _ 0 h0 hn
  unfold fxV
  rw [if_pos h]
  exact ⟨this.1, by omega⟩
theorem fxV_len (xs : List It) (gap inner : Int) : (fxV xs gap inner).1.length = xs.length := by
  cases h : flOk xs gap inner with
  | false => rw [fxV_bad h]; exact hypL_len xs
  | true => exact (fxV_fit h).1.1
theorem fxV_pass (xs : List It) (gap inner : Int) : (fxV xs gap inner).2 ≤ xs.length := by
  cases h : flOk xs gap inner with
  | false => rw [fxV_bad h]; exact Nat.zero_le _
  | true => exact (fxV_fit h).2
theorem getD_of_mem {zs : List Int} {z : Int} (h : z ∈ zs) : ∃ i, i < zs.length ∧ zs.getD i 0 = z := by
  obtain ⟨i, hi, e⟩ := List.getElem_of_mem h
  exact ⟨i, hi, by simp [List.getD, hi, e]⟩
theorem fxV_all {xs : List It} (gap inner : Int) (hx : ∀ x ∈ xs, x.inr) : AllI (fxV xs gap inner).1 := by
  cases h : flOk xs gap inner with
  | false => rw [fxV_bad h]; exact hypL_all hx
  | true =>
    intro z hz
    obtain ⟨i, hi, rfl⟩ := getD_of_mem hz
    have hf := (fxV_fit h).1
    have := (hf.2 i (by rw [← hf.1]; exact hi)).1
    omega
theorem fxV_near {x : It} {n : Nat} {gap inner : Int} {i j : Nat} (hi : i < n) (hj : j < n) :
    -1 ≤ (fxV (List.replicate n x) gap inner).1.getD i 0 - (fxV (List.replicate n x) gap inner).1.getD j 0 ∧ (fxV (List.replicate n x) gap inner).1.getD i 0 - (fxV (List.replicate n x) gap inner).1.getD j 0 ≤ 1 := by
  have hlen : (List.replicate n x).length = n := by simp
  cases h : flOk (List.replicate n x) gap inner with
  | false =>
    rw [fxV_bad h]
    show -1 ≤ (hypL (List.replicate n x)).getD i 0 - (hypL (List.replicate n x)).getD j 0 ∧ _
    have : ∀ k, k < n → (hypL (List.replicate n x)).getD k 0 = hypV x := fun k hk => by
      unfold hypL; rw [List.map_replicate]; simp [List.getD, hk]
    rw [this i hi, this j hj]
    omega
  | true =>
    have hok : itsOk (fxOf (List.replicate n x) gap inner).xs = true := flOk_its h
    have hxx : ∀ k, k < n → (fxOf (List.replicate n x) gap inner).x k = x := fun k hk => by
      show itD (List.replicate n x) k = x
      simp [itD, List.getD, hk]
    have hxs : (fxOf (List.replicate n x) gap inner).xs.length = n := hlen
    have hl : (fxOf (List.replicate n x) gap inner).Like := fun i j hi hj => by rw [hxx i (by omega), hxx j (by omega)]
    have hy : (fxOf (List.replicate n x) gap inner).Sym (fxOf (List.replicate n x) gap inner).h0 (fxOf (List.replicate n x) gap inner).z0 := by
      intro i j hi hj
      unfold Fx.h0 Fx.z0
      rw [rgD _ hi, rgD _ hi, rgD _ hj, rgD _ hj, hxx i (by omega), hxx j (by omega)]
      exact ⟨rfl, rfl⟩
    have := Fx.go_near hok hl (List.replicate n x).length _ _ 0 (Fx.st0 hok) hy i j (by rw [hxs]; exact hi) (by rw [hxs]; exact hj)
    unfold fxV
    rw [if_pos h]
    exact this
theorem fx_two : (fxV [⟨10, 0, -1, 1, 0, 0, 0, false, false⟩, ⟨10, 0, -1, 1, 0, 0, 0, false, false⟩, ⟨10, 0, -1, 1, 0, 0, 0, false, false⟩] 0 100).1 = [33, 33, 34] := by decide +kernel
theorem fx_one : (fxV [⟨60, 0, -1, 1, 0, 0, 0, false, false⟩] 0 100).1 = [100] := by decide +kernel
end Go.Proofs.Ytcnmchcleghcgaa

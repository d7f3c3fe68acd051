import Derived.Test.YtnncdpkmhpjmbaaZmBC
import Derived.Test.YtnncdpkmhpjmbaaZmBD
section
namespace Go.Proofs.Ytnncdpkmhpjmbaa
open Go.ChangeShapes Go.WideShapes Go.ChangeAt Go.RowKit
set_option linter.unusedVariables false
set_option linter.unusedSimpArgs false
set_option maxRecDepth 8000

/-- The first k places that are not held. -/
def plc (hs : List Bool) : Nat → List Nat
  | 0 => []
  | k + 1 => if hs.getD k true = true then plc hs k else plc hs k ++ [k]
theorem plc_lt {hs : List Bool} : ∀ {k j : Nat}, j ∈ plc hs k → j < k ∧ hs.getD j true = false
  | 0, j, h => by simp [plc] at h
  | k + 1, j, h => by
    unfold plc at h
    split at h
    · have := plc_lt h; exact ⟨by omega, this.2⟩
    · rename_i hn
      rcases List.mem_append.1 h with h | h
      · have := plc_lt h; exact ⟨by omega, this.2⟩
      · simp at h
        subst h
        exact ⟨by omega, by simpa using hn⟩
theorem plc_mem {hs : List Bool} : ∀ {k j : Nat}, j < k → hs.getD j true = false → j ∈ plc hs k
  | 0, j, h, _ => by omega
  | k + 1, j, h, hf => by
    unfold plc
    by_cases e : j = k
    · subst e
      rw [if_neg (by rw [hf]; decide)]
      simp
    · have := plc_mem (k := k) (by omega) hf
      split
      · exact this
      · exact List.mem_append_left _ this
theorem plc_len {hs : List Bool} : ∀ k, (plc hs k).length ≤ k
  | 0 => by simp [plc]
  | k + 1 => by
    have := plc_len (hs := hs) k
    unfold plc
    split
    · omega
    · simp; omega
/-- The place number i. -/
theorem plc_at {hs : List Bool} : ∀ {n i : Nat}, i < (plc hs n).length → ∃ p, (plc hs n).getD i 0 = p ∧ p < n ∧ hs.getD p true = false ∧ (plc hs n).take i = plc hs p ∧ (plc hs n).take (i + 1) = plc hs (p + 1)
  | 0, i, h => by simp [plc] at h
  | n + 1, i, h => by
    by_cases hn : hs.getD n true = true
    · have e : plc hs (n + 1) = plc hs n := by show (if _ then _ else _) = _; rw [if_pos hn]
      rw [e] at h ⊢
      obtain ⟨p, h1, h2, h3, h4, h5⟩ := plc_at h
      exact ⟨p, h1, by omega, h3, h4, h5⟩
    · have e : plc hs (n + 1) = plc hs n ++ [n] := by show (if _ then _ else _) = _; rw [if_neg hn]
      have e0 := e
      rw [e] at h ⊢
      by_cases hi : i < (plc hs n).length
      · obtain ⟨p, h1, h2, h3, h4, h5⟩ := plc_at hi
        refine ⟨p, ?_, by omega, h3, ?_, ?_⟩
        · rw [List.getD_eq_getElem?_getD, List.getElem?_append_left hi, ← List.getD_eq_getElem?_getD]; exact h1
        · rw [List.take_append_of_le_length (by omega)]; exact h4
        · rw [List.take_append_of_le_length (by omega)]; exact h5
      · have hi' : i = (plc hs n).length := by simp at h; omega
        subst hi'
        refine ⟨n, ?_, by omega, by simpa using hn, ?_, ?_⟩
        · rw [List.getD_eq_getElem?_getD, List.getElem?_append_right (Nat.le_refl _), Nat.sub_self]; rfl
        · rw [List.take_append_of_le_length (Nat.le_refl _), List.take_length]
        · rw [List.take_of_length_le (by simp)]; exact e0.symm
theorem wsum_app {L R : List Int} : ∀ {k : Nat}, k ≤ L.length → wsum (L ++ R) k = wsum L k
  | 0, _ => rfl
  | k + 1, h => by
    simp only [wsum]
    rw [wsum_app (by omega), List.getD_eq_getElem?_getD, List.getElem?_append_left (by omega), ← List.getD_eq_getElem?_getD]
theorem wsum_take {L : List Int} {k : Nat} (h : k ≤ L.length) : wsum (L.take k) (L.take k).length = wsum L k := by
  rw [List.length_take, Nat.min_eq_left h]
  conv => rhs; rw [← List.take_append_drop k L]
  exact (wsum_app (by rw [List.length_take]; omega)).symm
/-- A sum over the places is one over all, where what is held counts nothing. -/
theorem wsum_plc {hs : List Bool} {g : Nat → Int} {zs : List Int} : ∀ {k : Nat}, (∀ j, j < k → zs.getD j 0 = if hs.getD j true = true then 0 else g j) → wsum ((plc hs k).map g) (plc hs k).length = wsum zs k
  | 0, _ => rfl
  | k + 1, h => by
    have ih := wsum_plc (k := k) (fun j hj => h j (by omega))
    have hk := h k (by omega)
    unfold plc
    by_cases hn : hs.getD k true = true
    · rw [if_pos hn, ih]
      rw [if_pos hn] at hk
      simp only [wsum]; omega
    · rw [if_neg hn] at hk ⊢
      rw [List.map_append, List.length_append]
      show wsum _ ((plc hs k).length + 1) = _
      simp only [wsum]
      rw [wsum_app (by simp), ih, hk, List.getD_eq_getElem?_getD, List.getElem?_append_right (by simp), List.length_map, Nat.sub_self]
      rfl
theorem wsum_plc_at {hs : List Bool} {g : Nat → Int} {zs : List Int} {n i p : Nat} (h : ∀ j, j < n → zs.getD j 0 = if hs.getD j true = true then 0 else g j) (hi : i ≤ (plc hs n).length) (hp : p ≤ n) (ht : (plc hs n).take i = plc hs p) :
    wsum ((plc hs n).map g) i = wsum zs p := by
  rw [← wsum_plc (k := p) (fun j hj => h j (by omega)), ← ht, ← wsum_take (by rw [List.length_map]; exact hi), ← List.map_take, List.length_map]
namespace Fx
variable (f : Fx) (hs : List Bool) (zs : List Int)
def pI : List Int := (plc hs f.xs.length).map fun (j : Nat) => (j : Int)
def pW : List Int := (plc hs f.xs.length).map fun j => wtV f.gr (f.x j)
def pV : List Int := (plc hs f.xs.length).map (f.vi hs zs)
end Fx
namespace Fx
variable {f : Fx} {hs : List Bool} {zs : List Int}
theorem wL_if {j : Nat} (h : j < f.xs.length) : (f.wL hs).getD j 0 = if hs.getD j true = true then 0 else wtV f.gr (f.x j) := wL_at h
theorem vL_if (hok : itsOk f.xs = true) (hst : f.St hs zs) {j : Nat} (h : j < f.xs.length) : (f.vL hs zs).getD j 0 = if hs.getD j true = true then 0 else f.vi hs zs j := by
  rw [vL_at h]
  by_cases hb : hs.getD j true = true
  · rw [if_pos hb]; exact vi_held hok hst h hb
  · rw [if_neg hb]
theorem pW_all : wsum (f.pW hs) (plc hs f.xs.length).length = f.al hs := wsum_plc fun j hj => wL_if hj
theorem pV_all (hok : itsOk f.xs = true) (hst : f.St hs zs) : wsum (f.pV hs zs) (plc hs f.xs.length).length = f.to hs zs := wsum_plc fun j hj => vL_if hok hst hj
theorem pV_in (hok : itsOk f.xs = true) (hst : f.St hs zs) {k : Nat} (hk : k ≤ (plc hs f.xs.length).length) : -432345564227567616 ≤ wsum (f.pV hs zs) k ∧ wsum (f.pV hs zs) k ≤ 432345564227567616 := by
  by_cases e : k < (plc hs f.xs.length).length
  · obtain ⟨p, _, h2, _, h4, _⟩ := plc_at e
    unfold pV
    rw [wsum_plc_at (fun j hj => vL_if hok hst hj) hk (by omega) h4]
    exact vs_in hok hst (by omega)
  · obtain rfl : k = (plc hs f.xs.length).length := by omega
    rw [pV_all hok hst]
    exact vs_in hok hst (Nat.le_refl _)
theorem pW_ok (hok : itsOk f.xs = true) : ∀ z ∈ f.pW hs, 0 ≤ z ∧ z ≤ 1048576000 := by
  intro z hz
  obtain ⟨j, hj, rfl⟩ := List.mem_map.1 hz
  exact wtV_in (okx hok (plc_lt hj).1) _
theorem pW_wok (hok : itsOk f.xs = true) : wokI (f.pW hs) = true := by
  have h1 : (f.pW hs).length ≤ 12 := by unfold pW; rw [List.length_map]; have := plc_len (hs := hs) f.xs.length; have := n12 hok; omega
  refine decide_eq_true ⟨by omega, fun j hj => ?_⟩
  have := pW_ok (hs := hs) hok _ (List.getElem_mem hj)
  rw [show (f.pW hs).getD j 0 = (f.pW hs)[j] by simp [List.getD, hj]]
  omega
theorem pI_all (hok : itsOk f.xs = true) : AllI (f.pI hs) := by
  intro z hz
  obtain ⟨j, hj, rfl⟩ := List.mem_map.1 hz
  have := (plc_lt hj).1
  have := n12 hok
  omega
/-- The shares are those of the whole line. -/
theorem sh_plc (hok : itsOk f.xs = true) {i p : Nat} (hi : i < (plc hs f.xs.length).length) (hp : p < f.xs.length) (h4 : (plc hs f.xs.length).take i = plc hs p) (h5 : (plc hs f.xs.length).take (i + 1) = plc hs (p + 1)) :
    (shrL (f.fr zs) (f.pW hs)).getD i 0 = (shrL (f.fr zs) (f.wL hs)).getD p 0 := by
  have hl : (f.pW hs).length = (plc hs f.xs.length).length := by simp [pW]
  rw [Fx.sh_at hok hp]
  unfold shrL
  rw [if_pos (pW_wok hok), rgD _ (by omega), fr_id]
  unfold shrI posI
  have a1 : wsum (f.pW hs) i = wsum (f.wL hs) p := wsum_plc_at (fun j hj => wL_if hj) (by omega) (by omega) h4
  have a2 : wsum (f.pW hs) (i + 1) = wsum (f.wL hs) (p + 1) := wsum_plc_at (fun j hj => wL_if hj) (by omega) (by omega) h5
  have a3 : wsum (f.pW hs) (f.pW hs).length = wsum (f.wL hs) (f.wL hs).length := by rw [hl, wL_len]; exact pW_all
  rw [a1, a2, a3]
theorem some_fo (hok : itsOk f.xs = true) (hst : f.St hs zs) : ((plc hs f.xs.length).any fun j => decide (f.vi hs zs j ≠ 0)) = f.fo hs zs := by
  cases hf : f.fo hs zs with
  | false =>
    rw [List.any_eq_false]
    intro j hj
    have := fo_none hok hf (plc_lt hj).1
    simp [this]
  | true =>
    unfold fo at hf
    rw [List.any_eq_true] at hf ⊢
    obtain ⟨i, hi, h1⟩ := hf
    have hi' := List.mem_range.1 hi
    have hu : hs.getD i true = false := by
      cases hb : hs.getD i true with
      | false => rfl
      | true => rw [fz_held hok hst hi' hb] at h1; cases h1
    refine ⟨i, plc_mem hi' hu, ?_⟩
    unfold fz lo Fx.hi at h1
    simp only [Bool.or_eq_true, Bool.and_eq_true, decide_eq_true_eq] at h1
    simp only [decide_eq_true_eq]
    omega
/-- The violation as the model reckons it. -/
theorem vi_over (hok : itsOk f.xs = true) (hA : 0 < f.al hs) {j : Nat} (hj : j < f.xs.length) :
    f.vi hs zs j = if f.tg hs zs j < (f.x j).least * f.al hs then (f.x j).least * f.al hs - f.tg hs zs j
      else if 0 ≤ (f.x j).most ∧ moV (f.x j) * f.al hs < f.tg hs zs j then moV (f.x j) * f.al hs - f.tg hs zs j else 0 := by
  have k := itOk_all (okx hok hj)
  unfold vi wiI
  generalize f.tg hs zs j = t
  generalize f.x j = x at *
  generalize f.al hs = A at *
  by_cases h0 : 0 ≤ x.most
  · have e0 := Int.mul_nonneg h0 (show 0 ≤ A by omega)
    unfold moV
    by_cases h1 : x.most < x.least
    · have e1 := Int.mul_lt_mul_of_pos_right h1 hA
      rw [show (if 0 ≤ x.most ∧ x.most < x.least then x.least else x.most) = x.least from if_pos ⟨h0, h1⟩]
      (repeat' split) <;> omega
    · have e1 := Int.mul_le_mul_of_nonneg_right (show x.least ≤ x.most by omega) (show 0 ≤ A by omega)
      rw [show (if 0 ≤ x.most ∧ x.most < x.least then x.least else x.most) = x.most from if_neg (fun h => h1 h.2)]
      (repeat' split) <;> omega
  · have e0 : x.most * A < 0 := by
      have := Int.mul_lt_mul_of_pos_right (show x.most < 0 by omega) hA
      omega
    (repeat' split) <;> omega
end Fx
end Go.Proofs.Ytnncdpkmhpjmbaa
end

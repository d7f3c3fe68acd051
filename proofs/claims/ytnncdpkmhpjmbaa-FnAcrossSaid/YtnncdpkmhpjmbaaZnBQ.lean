import Derived.Test.YtnncdpkmhpjmbaaZnBP
section
namespace Go.Proofs.Ytnncdpkmhpjmbaa
open Go.ChangeShapes Go.WideShapes Go.ChangeAt Go.RowKit
set_option linter.unusedVariables false
set_option maxRecDepth 8000

/-- The sum of the spaces ahead of the first items. -/
def suS (sp : Nat → Int) : Nat → Int
  | 0 => 0
  | k + 1 => suS sp k + sp k
theorem en_sum (ys : List It) (zs : List Int) (gap : Int) (sp : Nat → Int) (k : Nat) : enV ys zs gap sp k = suS sp k + wsum zs k + gap * ((k - 1 : Nat) : Int) + mgK ys k := by
  induction k with
  | zero => show (0 : Int) = 0 + 0 + gap * ((0 - 1 : Nat) : Int) + 0; simp
  | succ k ih =>
    have e : enV ys zs gap sp (k + 1) = (if k = 0 then enV ys zs gap sp k else enV ys zs gap sp k + gap) + sp k + (itD ys k).before + zs.getD k 0 + (itD ys k).behind := rfl
    have e1 : suS sp (k + 1) = suS sp k + sp k := rfl
    have e2 : wsum zs (k + 1) = wsum zs k + zs.getD k 0 := rfl
    have e3 : mgK ys (k + 1) = mgK ys k + ((itD ys k).before + (itD ys k).behind) := rfl
    rw [e, e1, e2, e3, ih]
    by_cases h : k = 0
    · subst h
      rw [if_pos rfl]
      simp only [Nat.zero_add, Nat.sub_self, Nat.zero_sub]
      omega
    · rw [if_neg h, gap_succ gap (by omega)]
      omega
theorem mg_wd (xs : List It) (G : List Int) : ∀ k, k ≤ xs.length → mgK (wdL xs G) k = mgK xs k + wsum G (auN xs k)
  | 0, _ => by show (0 : Int) = 0 + 0; rfl
  | k + 1, h => by
    have ih := mg_wd xs G k (by omega)
    have e3 : mgK (wdL xs G) (k + 1) = mgK (wdL xs G) k + ((itD (wdL xs G) k).before + (itD (wdL xs G) k).behind) := rfl
    have e4 : mgK xs (k + 1) = mgK xs k + ((itD xs k).before + (itD xs k).behind) := rfl
    have e5 : auN xs (k + 1) = auN xs k + ((if (itD xs k).ab = true then 1 else 0) + (if (itD xs k).ah = true then 1 else 0)) := rfl
    have e1 : (wdI xs G k).before = (itD xs k).before + (if (itD xs k).ab = true then G.getD (auN xs k) 0 else 0) := rfl
    have e2 : (wdI xs G k).behind = (itD xs k).behind + (if (itD xs k).ah = true then G.getD (auN xs k + (if (itD xs k).ab = true then 1 else 0)) 0 else 0) := rfl
    have hA : ∀ (p q : Bool), wsum G (auN xs k + ((if p = true then 1 else 0) + (if q = true then 1 else 0))) = wsum G (auN xs k) + (if p = true then G.getD (auN xs k) 0 else 0) + (if q = true then G.getD (auN xs k + (if p = true then 1 else 0)) 0 else 0) := by
      intro p q
      cases p <;> cases q
      · show wsum G (auN xs k) = wsum G (auN xs k) + 0 + 0; omega
      · show wsum G (auN xs k) + G.getD (auN xs k) 0 = wsum G (auN xs k) + 0 + G.getD (auN xs k) 0; omega
      · show wsum G (auN xs k) + G.getD (auN xs k) 0 = wsum G (auN xs k) + G.getD (auN xs k) 0 + 0; omega
      · show wsum G (auN xs k) + G.getD (auN xs k) 0 + G.getD (auN xs k + 1) 0 = _; rfl
    rw [e3, e4, e5, wdL_at (by omega), e1, e2, ih, hA]
    omega
theorem wsum_lim {zs : List Int} (h : ∀ j, 0 ≤ zs.getD j 0 ∧ zs.getD j 0 ≤ 1048576) (k : Nat) : 0 ≤ wsum zs k ∧ wsum zs k ≤ 1048576 * (k : Int) := by
  induction k with
  | zero => exact ⟨Int.le_refl _, Int.le_refl _⟩
  | succ k ih =>
    have := h k
    show 0 ≤ wsum zs k + zs.getD k 0 ∧ wsum zs k + zs.getD k 0 ≤ _
    rw [show ((k + 1 : Nat) : Int) = (k : Int) + 1 by omega]
    omega
theorem mg_lim {xs : List It} (h : ∀ j, (-1048576 ≤ (itD xs j).before ∧ (itD xs j).before ≤ 1048576) ∧ (-1048576 ≤ (itD xs j).behind ∧ (itD xs j).behind ≤ 1048576)) (k : Nat) : -(2097152 * (k : Int)) ≤ mgK xs k ∧ mgK xs k ≤ 2097152 * (k : Int) := by
  induction k with
  | zero => exact ⟨Int.le_refl _, Int.le_refl _⟩
  | succ k ih =>
    have := h k
    show -(2097152 * ((k + 1 : Nat) : Int)) ≤ mgK xs k + ((itD xs k).before + (itD xs k).behind) ∧ mgK xs k + ((itD xs k).before + (itD xs k).behind) ≤ _
    rw [show ((k + 1 : Nat) : Int) = (k : Int) + 1 by omega]
    omega
theorem wrap_in {a : Int} (h0 : -9223372036854775808 ≤ a) (h1 : a ≤ 9223372036854775807) : wrap64 a = a := by unfold wrap64; omega
/-- Free room, where items may be placed. -/
theorem fr_eq {xs : List It} {zs : List Int} {gap inner : Int} (h : AlF xs zs gap inner) : frA xs zs gap inner = inner - (wsum zs xs.length + gap * ((xs.length - 1 : Nat) : Int) + mgK xs xs.length) := by
  have h1 := wsum_lim h.ls xs.length
  have h2 := mg_lim h.mg xs.length
  have h3 := h.gap
  have h4 := h.inner
  have h5 := h.n12
  have h6 : 0 ≤ gap * ((xs.length - 1 : Nat) : Int) := Int.mul_nonneg h3.1 (Int.natCast_nonneg _)
  have h7 : gap * ((xs.length - 1 : Nat) : Int) ≤ 1048576 * 12 := by
    have h8 := Int.mul_le_mul_of_nonneg_right h3.2 (Int.natCast_nonneg (xs.length - 1))
    omega
  unfold frA ouV
  rw [h.len]
  generalize gap * ((xs.length - 1 : Nat) : Int) = g at *
  have e : wrap64 (wsum zs xs.length + g + mgK xs xs.length) = wsum zs xs.length + g + mgK xs xs.length := wrap_in (by omega) (by omega)
  rw [e]
  exact wrap_in (by omega) (by omega)
/-- Where the last item ends. -/
theorem ed_eq {xs : List It} {zs : List Int} {gap inner js : Int} (hok : alOk xs zs gap inner = true) :
    edA xs zs gap inner js = inner - frA xs zs gap inner + suS (sqV xs (fcV xs zs gap inner) js) xs.length + wsum (gvV xs (fcV xs zs gap inner)) (auN xs xs.length) := by
  have h := al_of hok
  rw [fr_eq h]
  unfold edA
  rw [if_pos hok, en_sum]
  unfold wxV
  rw [mg_wd xs _ xs.length (Nat.le_refl _)]
  omega
theorem su_first {sp : Nat → Int} (h : ∀ i, i ≠ 0 → sp i = 0) : ∀ k, 0 < k → suS sp k = sp 0
  | 1, _ => by show (0 : Int) + sp 0 = sp 0; omega
  | k + 2, _ => by show suS sp (k + 1) + sp (k + 1) = sp 0; rw [su_first h (k + 1) (by omega), h (k + 1) (by omega)]; omega
theorem fc_id {xs : List It} {zs : List Int} {gap inner : Int} (h0 : -1048576 ≤ frA xs zs gap inner) (h1 : frA xs zs gap inner ≤ 1048576) : fcV xs zs gap inner = frA xs zs gap inner := lenI_id h0 h1
theorem n_rng {n : Nat} (h0 : 0 < n) (h1 : n ≤ 12) : rnB (n : Int) 1 12 = true := decide_eq_true ⟨by omega, by omega⟩
theorem sq_of {xs : List It} {free js : Int} (h : auN xs xs.length = 0) (i : Nat) : sqV xs free js i = spV free xs.length js i := by unfold sqV; rw [if_neg (by omega)]
/-- At the end: the last item ends at the end. -/
theorem ed_end {xs : List It} {zs : List Int} {gap inner : Int} (hok : alOk xs zs gap inner = true) (hn : 0 < xs.length) (h0 : -1048576 ≤ frA xs zs gap inner) (h1 : frA xs zs gap inner ≤ 1048576) (ha : auN xs xs.length = 0) : edA xs zs gap inner 2 = inner := by
  have h := al_of hok
  rw [ed_eq hok, fc_id h0 h1, ha]
  have e : suS (sqV xs (frA xs zs gap inner) 2) xs.length = frA xs zs gap inner := by
    rw [su_first (fun i hi => by rw [sq_of ha, sp_else hi (by decide) (by decide) (by decide)]) xs.length hn, sq_of ha, sp_0, ld_2 (n_rng hn h.n12)]
  rw [e]
  show inner - _ + _ + 0 = inner
  omega
theorem sp_nonneg {free js : Int} {n i : Nat} (hi : i ≠ 0) (hn : n ≤ 12) (h1 : i < n) : 0 ≤ spV free n js i := by
  by_cases hf : free < 0
  · rw [sp_neg hi hf]; exact Int.le_refl _
  · have hf' : 0 ≤ free := by omega
    have key : ∀ (m : Int) (j : Nat), 0 ≤ m → m ≤ 64 → 0 ≤ (evnL free m).getD j 0 := fun m j h0 h64 => by
      obtain ⟨k, rfl⟩ := Int.eq_ofNat_of_zero_le h0
      exact evn_nonneg hf' k j (by omega)
    unfold spV
    rw [if_neg hi, if_neg hf]
    have k1 := key ((n : Int) - 1) (i - 1) (by omega) (by omega)
    have k2 := key (2 * (n : Int)) (2 * i - 1) (by omega) (by omega)
    have k3 := key (2 * (n : Int)) (2 * i) (by omega) (by omega)
    have k4 := key ((n : Int) + 1) i (by omega) (by omega)
    (repeat' split) <;> omega
theorem gv_nonneg {xs : List It} (free : Int) (hn : xs.length ≤ 12) (j : Nat) : 0 ≤ (gvV xs free).getD j 0 := by
  have := auN_le xs xs.length
  unfold gvV
  exact evn_nonneg (by split <;> omega) _ _ (by omega)
/-- No two items overlap. -/
theorem pl_step {xs : List It} {zs : List Int} {gap inner js : Int} (hok : alOk xs zs gap inner = true) {i : Nat} (hi : i + 1 < xs.length) :
    (plV xs zs gap inner js).getD i 0 + zs.getD i 0 + (itD xs i).behind + gap + (itD xs (i + 1)).before ≤ (plV xs zs gap inner js).getD (i + 1) 0 := by
  have h := al_of hok
  unfold plV
  rw [if_pos hok, plK_at hi, plK_at (by omega)]
  have e := en_next (wxV xs (fcV xs zs gap inner)) zs gap (sqV xs (fcV xs zs gap inner) js) i
  have e2 := pv_pos (ys := wxV xs (fcV xs zs gap inner)) (gap := gap) (sp := sqV xs (fcV xs zs gap inner) js) (E := enV (wxV xs (fcV xs zs gap inner)) zs gap (sqV xs (fcV xs zs gap inner) js) (i + 1)) (k := i + 1) (by omega)
  rw [← e2, ← e]
  have b1 := wx_before (xs := xs) (free := fcV xs zs gap inner) hi
  have b2 := wx_behind (xs := xs) (free := fcV xs zs gap inner) (k := i) (by omega)
  have g1 := gv_nonneg (xs := xs) (fcV xs zs gap inner) h.n12 (auN xs (i + 1))
  have g2 := gv_nonneg (xs := xs) (fcV xs zs gap inner) h.n12 (au1 xs i)
  have s1 : 0 ≤ sqV xs (fcV xs zs gap inner) js (i + 1) := by
    unfold sqV
    split
    · exact Int.le_refl _
    · exact sp_nonneg (by omega) h.n12 hi
  rw [b1, b2]
  generalize (gvV xs (fcV xs zs gap inner)).getD (auN xs (i + 1)) 0 = p at *
  generalize (gvV xs (fcV xs zs gap inner)).getD (au1 xs i) 0 = q at *
  split <;> split <;> omega
theorem plV_at {xs : List It} {zs : List Int} {gap inner js : Int} (hok : alOk xs zs gap inner = true) {i : Nat} (hi : i < xs.length) : (-132120576 ≤ (plV xs zs gap inner js).getD i 0 ∧ (plV xs zs gap inner js).getD i 0 ≤ 132120576) := by
  have h := al_of hok
  unfold plV
  rw [if_pos hok, plK_at hi]
  have := pl_bd (wx_bd h js) i
  have := h.n12
  omega
theorem plV_n {xs : List It} {zs : List Int} {gap inner js : Int} (hok : alOk xs zs gap inner = true) : (plV xs zs gap inner js).length = xs.length := by unfold plV; rw [if_pos hok, plK_len]
end Go.Proofs.Ytnncdpkmhpjmbaa
end

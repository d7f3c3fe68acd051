import Derived.Test.YtnncdpkmhpjmbaaZnAA
import Derived.Test.YtnncdpkmhpjmbaaZnAX
import Derived.Test.YtnncdpkmhpjmbaaZnAY
section
namespace Go.Proofs.Ytnncdpkmhpjmbaa
open Go.ChangeShapes Go.WideShapes Go.ChangeAt Go.RowKit
set_option linter.unusedVariables false
set_option maxRecDepth 8000

/-- What is ahead of the first item. -/
def ldV (free many js : Int) : Int :=
  if rnB many 1 12 = true then
    (if js = 2 then free else if js = 3 then fdI free 2 else if js = 5 then (if free < 0 then fdI free 2 else (evnL free (2 * many)).getD 0 0) else if js = 6 then (if free < 0 then fdI free 2 else (evnL free (many + 1)).getD 0 0) else 0)
  else 0
/-- The pieces that free room is divided into. -/
def pcV (free many js : Int) : List Int := if js = 4 then evnL free (many - 1) else if js = 5 then evnL free (2 * many) else if js = 6 then evnL free (many + 1) else []
/-- What is ahead of item i, its margin and the gap apart. -/
def spV (free many js : Int) (i : Nat) : Int :=
  if i = 0 then ldV free many js
  else if free < 0 then 0
  else if js = 4 then (evnL free (many - 1)).getD (i - 1) 0
  else if js = 5 then (evnL free (2 * many)).getD (2 * i - 1) 0 + (evnL free (2 * many)).getD (2 * i) 0
  else if js = 6 then (evnL free (many + 1)).getD i 0
  else 0
theorem evn_len {n : Int} {k : Nat} (h : k ≤ 64) : (evnL n k).length = k := by
  rw [evn_nat h, shrL_len (wok_yes (by simpa using h) (fun j hj => by
    have : j < k := by simpa using hj
    simp [this])), List.length_replicate]
theorem evn_bd (n many : Int) (j : Nat) : -1048577 ≤ (evnL n many).getD j 0 ∧ (evnL n many).getD j 0 ≤ 1048577 := by
  obtain ⟨q, h0, h1, h⟩ := evn_near n many
  by_cases hj : j < (evnL n many).length
  · have := h j hj; omega
  · rw [List.getD, List.getElem?_eq_none (by omega)]; exact ⟨by decide, by decide⟩
theorem evn_all (n many : Int) : AllI (evnL n many) := by
  intro z hz
  obtain ⟨i, hi, he⟩ := List.mem_iff_getElem.1 hz
  have := evn_bd n many i
  rw [List.getD, List.getElem?_eq_getElem hi, Option.getD_some, he] at this
  omega
theorem wok_ones {k : Nat} (h : k ≤ 64) : wokI (List.replicate k 1) = true := wok_yes (by simpa using h) (fun j hj => by
    have : j < k := by simpa using hj
    simp [this])
/-- The sum of the first shares. -/
theorem evn_sum {n : Int} {k : Nat} (hk : k ≤ 64) {j : Nat} (hj : j ≤ k) : wsum (evnL n k) j = posI (lenI n) (List.replicate k 1) j := by
  induction j with
  | zero => rw [pos_zero]; rfl
  | succ j ih =>
    show wsum (evnL n k) j + (evnL n k).getD j 0 = _
    rw [ih (by omega), evn_nat hk, shrL_at (wok_ones hk) (by rw [List.length_replicate]; omega)]
    exact pos_succ _ _ _
theorem evn_total {n : Int} {k : Nat} (hk : k ≤ 64) (h1 : 1 ≤ k) : wsum (evnL n k) k = lenI n := by
  rw [evn_sum hk (Nat.le_refl _)]
  have := pos_all (m := lenI n) (zs := List.replicate k 1) (by rw [List.length_replicate, wsum_ones (Nat.le_refl _)]; omega)
  rwa [List.length_replicate] at this
theorem fd_nonneg {a b : Int} (h : 0 ≤ a) : 0 ≤ fdI a b := by
  unfold fdI
  split
  · omega
  · exact Int.ediv_nonneg h (by omega)
theorem evn_nonneg {n : Int} (hn : 0 ≤ n) (k j : Nat) (hk : k ≤ 64) : 0 ≤ (evnL n k).getD j 0 := by
  by_cases hj : j < k
  · rw [evn_nat hk, shrL_at (wok_ones hk) (by simpa using hj)]
    have h1 := shr_low (m := lenI n) (zs := List.replicate k 1) (k := j) (by rw [List.length_replicate, wsum_ones (Nat.le_refl _)]; omega)
    have h2 : 0 ≤ fdI (lenI n * (List.replicate k (1 : Int)).getD j 0) (wsum (List.replicate k 1) (List.replicate k (1 : Int)).length) := fd_nonneg (by
      rw [show (List.replicate k (1 : Int)).getD j 0 = 1 by simp [hj], Int.mul_one]
      unfold lenI brI; omega)
    omega
  · rw [List.getD, List.getElem?_eq_none (by rw [evn_len hk]; omega)]; exact Int.le_refl _
theorem evn_zero {k : Nat} (hk : k ≤ 64) : evnL 0 k = List.replicate k 0 := by
  apply List.ext_getElem?
  intro j
  by_cases hj : j < k
  · have e : (evnL 0 k).getD j 0 = 0 := by
      rw [evn_nat hk, shrL_at (wok_ones hk) (by simpa using hj)]
      unfold shrI posI fdI
      rw [show lenI 0 = 0 by decide]
      simp
    rw [List.getD, List.getElem?_eq_getElem (by rw [evn_len hk]; exact hj), Option.getD_some] at e
    rw [List.getElem?_eq_getElem (by rw [evn_len hk]; exact hj), e, List.getElem?_replicate, if_pos hj]
  · rw [List.getElem?_eq_none (by rw [evn_len hk]; omega), List.getElem?_eq_none (by simp; omega)]

/-- How many auto margins the first items have. -/
def auN (xs : List It) : Nat → Nat
  | 0 => 0
  | k + 1 => auN xs k + ((if (itD xs k).ab = true then 1 else 0) + (if (itD xs k).ah = true then 1 else 0))
theorem auN_le (xs : List It) (k : Nat) : auN xs k ≤ 2 * k := by
  induction k with
  | zero => exact Nat.le_refl _
  | succ k ih =>
    show auN xs k + (_ + _) ≤ _
    split <;> split <;> omega
theorem auN_mono (xs : List It) {j k : Nat} (h : j ≤ k) : auN xs j ≤ auN xs k := by
  induction k with
  | zero => obtain rfl : j = 0 := by omega
            exact Nat.le_refl _
  | succ k ih =>
    by_cases e : j = k + 1
    · rw [e]; exact Nat.le_refl _
    · exact Nat.le_trans (ih (by omega)) (by show auN xs k ≤ auN xs k + _; omega)
/-- An item with its auto margins' shares. -/
def wdI (xs : List It) (G : List Int) (i : Nat) : It :=
  { itD xs i with
    before := (itD xs i).before + (if (itD xs i).ab = true then G.getD (auN xs i) 0 else 0)
    behind := (itD xs i).behind + (if (itD xs i).ah = true then G.getD (auN xs i + (if (itD xs i).ab = true then 1 else 0)) 0 else 0) }
def wdL (xs : List It) (G : List Int) : List It := (List.range xs.length).map (wdI xs G)
theorem wdL_len (xs : List It) (G : List Int) : (wdL xs G).length = xs.length := by simp [wdL]
theorem wdL_at {xs : List It} {G : List Int} {i : Nat} (h : i < xs.length) : itD (wdL xs G) i = wdI xs G i := by
  simp [itD, wdL, List.getD, h]
/-- Where an item begins, given where the one ahead of it ends. -/
def pvV (xs : List It) (gap : Int) (sp : Nat → Int) (e : Int) (i : Nat) : Int := (if i = 0 then e else e + gap) + sp i + (itD xs i).before
/-- Where the first items end. -/
def enV (xs : List It) (zs : List Int) (gap : Int) (sp : Nat → Int) : Nat → Int
  | 0 => 0
  | i + 1 => pvV xs gap sp (enV xs zs gap sp i) i + zs.getD i 0 + (itD xs i).behind
def plK (xs : List It) (zs : List Int) (gap : Int) (sp : Nat → Int) (k : Nat) : List Int := (List.range k).map (fun i => pvV xs gap sp (enV xs zs gap sp i) i)
theorem plK_len (xs : List It) (zs : List Int) (gap : Int) (sp : Nat → Int) (k : Nat) : (plK xs zs gap sp k).length = k := by simp [plK]
theorem plK_succ (xs : List It) (zs : List Int) (gap : Int) (sp : Nat → Int) (k : Nat) : plK xs zs gap sp (k + 1) = plK xs zs gap sp k ++ [pvV xs gap sp (enV xs zs gap sp k) k] := by simp [plK, List.range_succ]
theorem plK_at {xs : List It} {zs : List Int} {gap : Int} {sp : Nat → Int} {k i : Nat} (h : i < k) : (plK xs zs gap sp k).getD i 0 = pvV xs gap sp (enV xs zs gap sp i) i := by simp [plK, h]
theorem plK_set {xs : List It} {zs : List Int} {gap : Int} {sp : Nat → Int} {l : List Int} {k : Nat} (h : k < l.length) : (plK xs zs gap sp k ++ l.drop k).set k (pvV xs gap sp (enV xs zs gap sp k) k) = plK xs zs gap sp (k + 1) ++ l.drop (k + 1) := by
  rw [List.set_append_right _ _ (by simp [plK]), List.drop_eq_getElem_cons h, show k - (plK xs zs gap sp k).length = 0 by simp [plK], List.set_cons_zero, plK_succ]
  simp
/-- Every length is one of 0 to 1048576. -/
def lsOk (zs : List Int) : Bool := decide (∀ j, j < zs.length → 0 ≤ zs.getD j 0 ∧ zs.getD j 0 ≤ 1048576)
theorem ls_bad {zs : List Int} {k : Nat} (hk : k < zs.length) (h : rnB (zs.getD k 0) 0 1048576 = false) : lsOk zs = false := by
  unfold lsOk
  refine decide_eq_false fun h' => ?_
  have := h' k hk
  exact absurd h (by unfold rnB; rw [decide_eq_true this]; decide)
theorem ls_all {zs : List Int} (h : ∀ j, j < zs.length → rnB (zs.getD j 0) 0 1048576 = true) : lsOk zs = true := decide_eq_true fun j hj => of_decide_eq_true (h j hj)
theorem ls_in {zs : List Int} (h : lsOk zs = true) (j : Nat) : 0 ≤ zs.getD j 0 ∧ zs.getD j 0 ≤ 1048576 := by
  by_cases hj : j < zs.length
  · exact of_decide_eq_true h j hj
  · rw [List.getD, List.getElem?_eq_none (by omega)]; exact ⟨by decide, by decide⟩
/-- May these items be placed? -/
def alOk (xs : List It) (zs : List Int) (gap inner : Int) : Bool := itsOk xs && decide (xs.length = zs.length) && lsOk zs && rnB gap 0 1048576 && rnB inner 0 1048576
structure AlF (xs : List It) (zs : List Int) (gap inner : Int) : Prop where
  its : itsOk xs = true
  n12 : xs.length ≤ 12
  len : zs.length = xs.length
  ls : ∀ j, 0 ≤ zs.getD j 0 ∧ zs.getD j 0 ≤ 1048576
  gap : 0 ≤ gap ∧ gap ≤ 1048576
  inner : 0 ≤ inner ∧ inner ≤ 1048576
  mg : ∀ j, (-1048576 ≤ (itD xs j).before ∧ (itD xs j).before ≤ 1048576) ∧ (-1048576 ≤ (itD xs j).behind ∧ (itD xs j).behind ≤ 1048576)
theorem al_of {xs : List It} {zs : List Int} {gap inner : Int} (h : alOk xs zs gap inner = true) : AlF xs zs gap inner := by
  unfold alOk at h
  simp only [Bool.and_eq_true] at h
  obtain ⟨⟨⟨⟨h1, h2⟩, h3⟩, h4⟩, h5⟩ := h
  have h2' := of_decide_eq_true h2
  refine ⟨h1, (its_ok h1).1, h2'.symm, ls_in h3, of_decide_eq_true h4, of_decide_eq_true h5, fun j => ?_⟩
  by_cases hj : j < xs.length
  · have := (its_ok h1).2 _ (itD_mem hj)
    unfold itOk at this
    simp only [Bool.and_eq_true] at this
    exact ⟨of_decide_eq_true this.1.2, of_decide_eq_true this.2⟩
  · rw [itD, List.getD, List.getElem?_eq_none (by omega)]; exact ⟨by decide, by decide⟩
/-- Free room, within the limits of a length. -/
def frA (xs : List It) (zs : List Int) (gap inner : Int) : Int := wrap64 (inner - ouV xs zs gap)
def fcV (xs : List It) (zs : List Int) (gap inner : Int) : Int := lenI (frA xs zs gap inner)
/-- The shares of the auto margins. -/
def gvV (xs : List It) (free : Int) : List Int := evnL (if free < 0 then 0 else free) (auN xs xs.length)
/-- What is ahead of item i: nothing where there are auto margins. -/
def sqV (xs : List It) (free js : Int) (i : Nat) : Int := if 0 < auN xs xs.length then 0 else spV free xs.length js i
/-- The items with their auto margins' shares. -/
def wxV (xs : List It) (free : Int) : List It := wdL xs (gvV xs free)
def plV (xs : List It) (zs : List Int) (gap inner js : Int) : List Int :=
  if alOk xs zs gap inner = true then plK (wxV xs (fcV xs zs gap inner)) zs gap (sqV xs (fcV xs zs gap inner) js) xs.length else []
def edA (xs : List It) (zs : List Int) (gap inner js : Int) : Int :=
  if alOk xs zs gap inner = true then enV (wxV xs (fcV xs zs gap inner)) zs gap (sqV xs (fcV xs zs gap inner) js) xs.length else 0
theorem fc_in (xs : List It) (zs : List Int) (gap inner : Int) : -1048576 ≤ fcV xs zs gap inner ∧ fcV xs zs gap inner ≤ 1048576 := lenI_in _
theorem ld_bd {free many js : Int} (h0 : -1048576 ≤ free) (h1 : free ≤ 1048576) : -1048577 ≤ ldV free many js ∧ ldV free many js ≤ 1048577 := by
  unfold ldV
  have h2 := fdI_bound (b := 2) h0 h1
  have h3 := evn_bd free (2 * many) 0
  have h4 := evn_bd free (many + 1) 0
  (repeat' split) <;> omega
theorem sp_bd {free many js : Int} (h0 : -1048576 ≤ free) (h1 : free ≤ 1048576) (i : Nat) : -2097154 ≤ spV free many js i ∧ spV free many js i ≤ 2097154 := by
  unfold spV
  have h2 := ld_bd (many := many) (js := js) h0 h1
  have h3 := evn_bd free (many - 1) (i - 1)
  have h4 := evn_bd free (2 * many) (2 * i - 1)
  have h5 := evn_bd free (2 * many) (2 * i)
  have h6 := evn_bd free (many + 1) i
  (repeat' split) <;> omega
theorem sq_bd {xs : List It} {free js : Int} (h0 : -1048576 ≤ free) (h1 : free ≤ 1048576) (i : Nat) : -2097154 ≤ sqV xs free js i ∧ sqV xs free js i ≤ 2097154 := by
  have := sp_bd (many := xs.length) (js := js) h0 h1 i
  unfold sqV
  split <;> omega
theorem wd_bd {xs : List It} {zs : List Int} {gap inner : Int} (h : AlF xs zs gap inner) (free : Int) (i : Nat) :
    (-2097153 ≤ (wdI xs (gvV xs free) i).before ∧ (wdI xs (gvV xs free) i).before ≤ 2097153) ∧ (-2097153 ≤ (wdI xs (gvV xs free) i).behind ∧ (wdI xs (gvV xs free) i).behind ≤ 2097153) := by
  have h1 := h.mg i
  have h2 := evn_bd (if free < 0 then 0 else free) (auN xs xs.length) (auN xs i)
  have h3 := evn_bd (if free < 0 then 0 else free) (auN xs xs.length) (auN xs i + (if (itD xs i).ab = true then 1 else 0))
  have e1 : (wdI xs (gvV xs free) i).before = (itD xs i).before + (if (itD xs i).ab = true then (gvV xs free).getD (auN xs i) 0 else 0) := rfl
  have e2 : (wdI xs (gvV xs free) i).behind = (itD xs i).behind + (if (itD xs i).ah = true then (gvV xs free).getD (auN xs i + (if (itD xs i).ab = true then 1 else 0)) 0 else 0) := rfl
  rw [e1, e2]
  unfold gvV
  generalize (evnL (if free < 0 then 0 else free) (auN xs xs.length)).getD (auN xs i) 0 = p at *
  generalize (evnL (if free < 0 then 0 else free) (auN xs xs.length)).getD (auN xs i + (if (itD xs i).ab = true then 1 else 0)) 0 = q at *
  constructor <;> split <;> omega
/-- The bounds of where items begin and end: 9437184 an item. -/
structure EnB (xs : List It) (zs : List Int) (gap : Int) (sp : Nat → Int) : Prop where
  b : ∀ j, -2097153 ≤ (itD xs j).before ∧ (itD xs j).before ≤ 2097153
  h : ∀ j, -2097153 ≤ (itD xs j).behind ∧ (itD xs j).behind ≤ 2097153
  z : ∀ j, 0 ≤ zs.getD j 0 ∧ zs.getD j 0 ≤ 1048576
  g : 0 ≤ gap ∧ gap ≤ 1048576
  s : ∀ j, -2097154 ≤ sp j ∧ sp j ≤ 2097154
theorem en_bd {xs : List It} {zs : List Int} {gap : Int} {sp : Nat → Int} (h : EnB xs zs gap sp) (i : Nat) : -(9437184 * (i : Int)) ≤ enV xs zs gap sp i ∧ enV xs zs gap sp i ≤ 9437184 * (i : Int) := by
  induction i with
  | zero => exact ⟨Int.le_refl _, Int.le_refl _⟩
  | succ i ih =>
    have h1 := h.b i; have h2 := h.h i; have h3 := h.z i; have h4 := h.g; have h5 := h.s i
    have e : enV xs zs gap sp (i + 1) = (if i = 0 then enV xs zs gap sp i else enV xs zs gap sp i + gap) + sp i + (itD xs i).before + zs.getD i 0 + (itD xs i).behind := rfl
    rw [e, show ((i + 1 : Nat) : Int) = (i : Int) + 1 by omega]
    split <;> omega
theorem pl_bd {xs : List It} {zs : List Int} {gap : Int} {sp : Nat → Int} (h : EnB xs zs gap sp) (i : Nat) : -(9437184 * (i : Int)) - 9437184 ≤ pvV xs gap sp (enV xs zs gap sp i) i ∧ pvV xs gap sp (enV xs zs gap sp i) i ≤ 9437184 * (i : Int) + 9437184 := by
  have h0 := en_bd h i
  have h1 := h.b i; have h4 := h.g; have h5 := h.s i
  unfold pvV
  split <;> omega
theorem plK_all {xs : List It} {zs : List Int} {gap : Int} {sp : Nat → Int} (h : EnB xs zs gap sp) {k : Nat} (hk : k ≤ 1048576) : AllI (plK xs zs gap sp k) := by
  intro z hz
  obtain ⟨i, hi, rfl⟩ := List.mem_map.1 hz
  have := List.mem_range.1 hi
  have := pl_bd h i
  omega
theorem wx_bd {xs : List It} {zs : List Int} {gap inner : Int} (h : AlF xs zs gap inner) (js : Int) : EnB (wxV xs (fcV xs zs gap inner)) zs gap (sqV xs (fcV xs zs gap inner) js) := by
  have hf := fc_in xs zs gap inner
  have key : ∀ j, (-2097153 ≤ (itD (wxV xs (fcV xs zs gap inner)) j).before ∧ (itD (wxV xs (fcV xs zs gap inner)) j).before ≤ 2097153) ∧ (-2097153 ≤ (itD (wxV xs (fcV xs zs gap inner)) j).behind ∧ (itD (wxV xs (fcV xs zs gap inner)) j).behind ≤ 2097153) := fun j => by
    by_cases hj : j < xs.length
    · unfold wxV; rw [wdL_at hj]; exact wd_bd h _ j
    · rw [itD, List.getD, List.getElem?_eq_none (by unfold wxV; rw [wdL_len]; omega)]; exact ⟨by decide, by decide⟩
  exact ⟨fun j => (key j).1, fun j => (key j).2, h.ls, h.gap, fun j => sq_bd hf.1 hf.2 j⟩
theorem plV_all (xs : List It) (zs : List Int) (gap inner js : Int) : AllI (plV xs zs gap inner js) := by
  unfold plV
  split
  · rename_i h
    have := (al_of h).n12
    exact plK_all (wx_bd (al_of h) js) (by omega)
  · intro z hz; cases hz
theorem plV_len (xs : List It) (zs : List Int) (gap inner js : Int) : (plV xs zs gap inner js).length ≤ 12 := by
  unfold plV
  split
  · rename_i h; rw [plK_len]; exact (al_of h).n12
  · exact Nat.zero_le _
theorem wd_none {xs : List It} {G : List Int} (h : auN xs xs.length = 0) {i : Nat} (hi : i < xs.length) : wdI xs G i = itD xs i := by
  have h1 : auN xs (i + 1) ≤ 0 := by rw [← h]; exact auN_mono xs (by omega)
  have h2 : auN xs (i + 1) = auN xs i + ((if (itD xs i).ab = true then 1 else 0) + (if (itD xs i).ah = true then 1 else 0)) := rfl
  rw [h2] at h1
  unfold wdI
  cases ha : (itD xs i).ab <;> cases hb : (itD xs i).ah <;> rw [ha, hb] at h1 <;> first | (exfalso; revert h1; simp; done) | skip
  simp
theorem wx_none {xs : List It} {free : Int} (h : auN xs xs.length = 0) : wxV xs free = xs := by
  apply List.ext_getElem?
  intro i
  by_cases hi : i < xs.length
  · rw [itD_eq hi, itD_eq (xs := wxV xs free) (by unfold wxV; rw [wdL_len]; exact hi)]
    unfold wxV
    rw [wdL_at hi, wd_none h hi]
  · rw [List.getElem?_eq_none (by unfold wxV; rw [wdL_len]; omega), List.getElem?_eq_none (by omega)]
end Go.Proofs.Ytnncdpkmhpjmbaa
end

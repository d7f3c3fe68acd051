/-
  Line breaking, pure: the lines of the first items, as the model builds them and as the program does. Conditions: those of each lemma.
-/
import Derived.Test.YtcnmchcleghcgaaLiI
import Derived.Test.YtcnmchcleghcgaaOut
namespace Go.Proofs.Ytcnmchcleghcgaa
open Go.ChangeShapes Go.WideShapes Go.ChangeAt Go.RowKit
set_option linter.unusedVariables false
set_option linter.unusedSimpArgs false
set_option maxRecDepth 8000

/-- The items from s up to t. -/
def segT (xs : List It) (s t : Nat) : List It := (xs.drop s).take (t - s)
theorem segT_len {xs : List It} {s t : Nat} (h : t ≤ xs.length) : (segT xs s t).length = t - s := by unfold segT; rw [List.length_take, List.length_drop]; omega
theorem segT_mem {xs : List It} {s t : Nat} : ∀ x ∈ segT xs s t, x ∈ xs := fun x h => List.mem_of_mem_drop (List.mem_of_mem_take h)
/-- What a line takes up. -/
def segO (xs : List It) (gap : Int) (s t : Nat) : Int := ouV (segT xs s t) (hypL (segT xs s t)) gap
/-- The indexes from s up to t. -/
def lineI (p : Nat × Nat) : List Int := (List.range' p.1 (p.2 - p.1)).map Int.ofNat
theorem lineI_len (p : Nat × Nat) : (lineI p).length = p.2 - p.1 := by simp [lineI]
theorem lineI_one (i : Nat) : lineI (i, i + 1) = [(i : Int)] := by simp [lineI]
theorem lineI_snoc {s t : Nat} (h : s ≤ t) : lineI (s, t + 1) = lineI (s, t) ++ [(t : Int)] := by
  unfold lineI
  show (List.range' s (t + 1 - s)).map Int.ofNat = (List.range' s (t - s)).map Int.ofNat ++ _
  rw [show t + 1 - s = (t - s) + 1 by omega, List.range'_concat, List.map_append]
  simp
  omega
theorem lineI_at {s t k : Nat} (h : k < t - s) : (lineI (s, t)).getD k 0 = ((s + k : Nat) : Int) := by
  simp [lineI, List.getD, h]
theorem lineI_all {p : Nat × Nat} (h : p.2 ≤ 1048576) : AllI (lineI p) := by
  intro z hz
  obtain ⟨i, hi, rfl⟩ := List.mem_map.1 hz
  have := List.mem_range'_1.1 hi
  simp only [Int.ofNat_eq_natCast]
  omega
/-- The items of a line are its segment. -/
theorem liV_line {xs : List It} : ∀ {s t : Nat}, s ≤ t → t ≤ xs.length → liV xs (lineI (s, t)) = segT xs s t := by
  intro s t h1 h2
  induction t with
  | zero =>
    obtain rfl : s = 0 := by omega
    simp [lineI, liV, segT]
  | succ t ih =>
    by_cases hs : s ≤ t
    · rw [lineI_snoc hs, liV_app, ih hs (by omega)]
      have hin : rnB (t : Int) 0 ((xs.length : Int) - 1) = true := decide_eq_true (by omega)
      show segT xs s t ++ (oneV xs (t : Int) ++ []) = _
      rw [oneV_in hin, List.append_nil]
      unfold segT
      rw [show t + 1 - s = (t - s) + 1 by omega, List.take_succ_eq_append_getElem (by rw [List.length_drop]; omega)]
      have : itD xs (Int.toNat (t : Int)) = (xs.drop s)[t - s]'(by rw [List.length_drop]; omega) := by
        rw [Int.toNat_natCast]
        have e := itD_eq (xs := xs) (k := t) (by omega)
        rw [List.getElem_drop]
        have e2 : xs[s + (t - s)]'(by omega) = xs[t]'(by omega) := by congr 1; omega
        rw [e2]
        have e3 := List.getElem?_eq_getElem (l := xs) (i := t) (by omega)
        rw [e] at e3
        exact Option.some.inj e3
      rw [this]
    · obtain rfl : s = t + 1 := by omega
      simp [lineI, liV, segT]

/-- Whether lines are broken. -/
def brk (xs : List It) (room : Int) (wraps : Bool) : Bool := wraps && decide (0 ≤ room) && itsOk xs
/-- Whether the items from s up to t may lie on one line. -/
def fits (xs : List It) (gap room : Int) (wraps : Bool) (s t : Nat) : Bool := !brk xs room wraps || decide (segO xs gap s t ≤ room)
section
variable (xs : List It) (gap room : Int) (wraps : Bool)
/-- The lines of the first items: ends of segments. -/
def lnK : Nat → List (Nat × Nat)
  | 0 => []
  | i + 1 => match (lnK i).getLast? with
    | none => [(0, i + 1)]
    | some p => if fits xs gap room wraps p.1 (i + 1) = true then (lnK i).dropLast ++ [(p.1, i + 1)] else lnK i ++ [(i, i + 1)]
/-- What holds of the lines of the first i items. -/
structure LnOk (i : Nat) (ps : List (Nat × Nat)) : Prop where
  some : 0 < i → ∃ p, ps.getLast? = some p ∧ p.2 = i ∧ p.1 < i
  none : i = 0 → ps = []
  tot : ps.flatMap lineI = (List.range i).map Int.ofNat
  each : ∀ p ∈ ps, p.1 < p.2 ∧ p.2 ≤ i
end
variable {xs : List It} {gap room : Int} {wraps : Bool}
theorem range_one (i : Nat) : (List.range (i + 1)).map Int.ofNat = (List.range i).map Int.ofNat ++ [(i : Int)] := by rw [List.range_succ, List.map_append]; rfl
theorem getLast_split {α : Type} {l : List α} {p : α} (h : l.getLast? = some p) : l = l.dropLast ++ [p] := by
  obtain ⟨ys, rfl⟩ := List.getLast?_eq_some_iff.1 h
  simp
theorem lnK_succ {i : Nat} {p : Nat × Nat} (h : (lnK xs gap room wraps i).getLast? = some p) :
    lnK xs gap room wraps (i + 1) = if fits xs gap room wraps p.1 (i + 1) = true then (lnK xs gap room wraps i).dropLast ++ [(p.1, i + 1)] else lnK xs gap room wraps i ++ [(i, i + 1)] := by
  rw [lnK, h]
theorem lnK_one : lnK xs gap room wraps 1 = [(0, 1)] := rfl
theorem lnK_ok : ∀ i : Nat, LnOk i (lnK xs gap room wraps i)
  | 0 => ⟨fun h => by omega, fun _ => rfl, rfl, fun p hp => by cases hp⟩
  | i + 1 => by
    have ih := lnK_ok i
    by_cases h0 : i = 0
    · subst h0
      exact ⟨fun _ => ⟨(0, 1), rfl, rfl, by decide⟩, fun h => by omega, by rw [lnK_one]; decide, fun p hp => by rw [lnK_one, List.mem_singleton] at hp; subst hp; decide⟩
    · obtain ⟨p, hp, h2, h1⟩ := ih.some (by omega)
      have hs := getLast_split hp
      have ht := ih.tot
      rw [hs, List.flatMap_append] at ht
      simp only [List.flatMap_cons, List.flatMap_nil, List.append_nil] at ht
      rw [lnK_succ hp]
      cases hf : fits xs gap room wraps p.1 (i + 1) with
      | true =>
        rw [if_pos rfl]
        refine ⟨fun _ => ⟨(p.1, i + 1), by simp, rfl, by omega⟩, fun h => by omega, ?_, ?_⟩
        · rw [List.flatMap_append, range_one, ← ht]
          simp only [List.flatMap_cons, List.flatMap_nil, List.append_nil]
          rw [lineI_snoc (by omega), show (p.1, i) = p by rw [← h2], List.append_assoc]
        · intro q hq
          rcases List.mem_append.1 hq with hq | hq
          · have := ih.each q (by rw [hs]; exact List.mem_append_left _ hq)
            omega
          · rw [List.mem_singleton.1 hq]; exact ⟨by omega, Nat.le_refl _⟩
      | false =>
        rw [if_neg (by decide)]
        refine ⟨fun _ => ⟨(i, i + 1), by simp, rfl, by omega⟩, fun h => by omega, ?_, ?_⟩
        · rw [List.flatMap_append, range_one, ih.tot]
          simp only [List.flatMap_cons, List.flatMap_nil, List.append_nil, lineI_one]
        · intro q hq
          rcases List.mem_append.1 hq with hq | hq
          · have := ih.each q hq
            omega
          · rw [List.mem_singleton.1 hq]; exact ⟨by omega, Nat.le_refl _⟩
/-- The program's way: a line is closed, the next one is taken whole. -/
theorem lnK_more {from' : Nat} (hend : from' = 0 ∨ ∃ p, (lnK xs gap room wraps from').getLast? = some p ∧ fits xs gap room wraps p.1 (from' + 1) = false) :
    ∀ t, from' < t → (∀ u, from' + 1 < u → u ≤ t → fits xs gap room wraps from' u = true) → lnK xs gap room wraps t = lnK xs gap room wraps from' ++ [(from', t)]
  | t + 1, ht, hfit => by
    by_cases h : from' < t
    · have ih := lnK_more hend t h (fun u h1 h2 => hfit u h1 (by omega))
      have hl : (lnK xs gap room wraps t).getLast? = some (from', t) := by rw [ih]; simp
      rw [lnK_succ hl, if_pos (hfit (t + 1) (by omega) (Nat.le_refl _)), ih]
      simp
    · obtain rfl : from' = t := by omega
      rcases hend with h0 | ⟨p, hp, hf⟩
      · subst h0; rfl
      · rw [lnK_succ hp, if_neg (by rw [hf]; decide)]
theorem lnK_len {xs : List It} {gap room : Int} {wraps : Bool} (k : Nat) : (lnK xs gap room wraps k).length ≤ k := by
  induction k with
  | zero => exact Nat.le_refl _
  | succ k ih =>
    cases h : (lnK xs gap room wraps k).getLast? with
    | none => rw [lnK, h]; simp
    | some p =>
      rw [lnK_succ h]
      split
      · rw [List.length_append, List.length_dropLast]; simp; omega
      · rw [List.length_append]; simp; omega
theorem lnD_last {xs : List It} {gap room : Int} {wraps : Bool} {k m : Nat} {p : Nat × Nat} (hp : (lnK xs gap room wraps k).getLast? = some p) (hm : (lnK xs gap room wraps k).length = m + 1) : ((lnK xs gap room wraps k).map lineI).getD m [] = lineI p := by
  have hs := getLast_split hp
  generalize lnK xs gap room wraps k = l at *
  generalize l.dropLast = d at *
  subst hs
  rw [List.length_append] at hm
  have : d.length = m := by simpa using hm
  subst this
  simp [List.getD]
/-- The lines. -/
def lnL (xs : List It) (gap room : Int) (wraps : Bool) : List (List Int) := (lnK xs gap room wraps xs.length).map lineI
theorem lnK_pos (i : Nat) : ∀ p ∈ lnK xs gap room wraps i, p.1 < p.2 ∧ p.2 ≤ i := (lnK_ok i).each
end Go.Proofs.Ytcnmchcleghcgaa

/-
  What InnerOf, Loosened and ExactOr answer for a space of mode k and number n; their contracts, both sides; whether two spaces are equal. Conditions: none.
-/
import Derived.Test.YtbgiggngolpljaaSpB
namespace Go.Proofs.Ytbgiggngolpljaa
open Go.ChangeShapes Go.WideShapes Go.ChangeAt Go.RowKit
set_option linter.unusedVariables false

def loI (k : Int) : Int := if k = 3 then 2 else k
def exK (z k : Int) : Int := if z = -1 then k else 3
def exN (z n : Int) : Int := if z = -1 then n else clI z
theorem eqSp (a b x y : Int) (w : World) :
    Calls Try.prog 13 #[.agg #[.int .i64 a, .int .i64 b], .agg #[.int .i64 x, .int .i64 y]] w fun e w' => e = .returned (.bool (a == x && b == y)) ∧ Below w.heap.size w w' := by
  by_cases h1 : a = x <;> by_cases h2 : b = y <;>
    (go_enter Try.func13, Try.ntmps13
     go_wp2
     go_ret
     exact ⟨ret_b (by simp [h1, h2]), Go.Joins.below_alloc2 ..⟩)

theorem sin1 (n l : Int) (w : World) :
    Calls Try.prog 11 #[.agg #[.int .i64 1, .int .i64 n], .int .i64 l] w fun e w' => e = .returned (.agg #[.int .i64 (1), .int .i64 (inI 1 n l)]) ∧ Below w.heap.size w w' := by
  rw [show inI 1 n l = n from rfl]
  go_enter Try.func11, Try.ntmps11
  go_wp2
  exact bodyPost_ret (v := .agg #[.int .i64 (1), .int .i64 (n)]) (by simp [results, Try.results11, go_sem]) rfl ⟨rfl, Go.Joins.below_alloc2 ..⟩
theorem sinn (k n l : Int) (w : World) (h : k ≠ 1) :
    Calls Try.prog 11 #[.agg #[.int .i64 k, .int .i64 n], .int .i64 l] w fun e w' => e = .returned (.agg #[.int .i64 (k), .int .i64 (inI k n l)]) ∧ Below w.heap.size w w' := by
  have h1 : (k == 1) = false := by simpa using h
  have hi : inI k n l = clI (clI n - clI l) := by unfold inI; rw [if_neg h]
  rw [hi]
  have ha := clI_in n
  have hb := clI_in l
  clear hi h
  go_enter Try.func11, Try.ntmps11
  go_wp2_with (first | (go_at_call 22; refine (sclamped _ _).mono ?_; rintro e w1 ⟨rfl, rfl⟩))
  exact bodyPost_ret (v := .agg #[.int .i64 (k), .int .i64 (clI (clI n - clI l))]) (by simp [results, Try.results11, go_sem]) rfl ⟨rfl, Go.Joins.below_alloc2 ..⟩
theorem sin (k n l : Int) (w : World) :
    Calls Try.prog 11 #[.agg #[.int .i64 k, .int .i64 n], .int .i64 l] w fun e w' => e = .returned (.agg #[.int .i64 (k), .int .i64 (inI k n l)]) ∧ Below w.heap.size w w' := by
  by_cases h : k = 1
  · subst h; exact sin1 n l w
  · exact sinn k n l w h
theorem slo3 (n : Int) (w : World) :
    Calls Try.prog 16 #[.agg #[.int .i64 3, .int .i64 n]] w fun e w' => e = .returned (.agg #[.int .i64 (2), .int .i64 (n)]) ∧ Below w.heap.size w w' := by
  go_enter Try.func16, Try.ntmps16
  go_wp2
  exact bodyPost_ret (v := .agg #[.int .i64 (2), .int .i64 (n)]) (by simp [results, Try.results16, go_sem]) rfl ⟨rfl, Go.Joins.below_alloc2 ..⟩
theorem slon (k n : Int) (w : World) (h : k ≠ 3) :
    Calls Try.prog 16 #[.agg #[.int .i64 k, .int .i64 n]] w fun e w' => e = .returned (.agg #[.int .i64 (k), .int .i64 (n)]) ∧ Below w.heap.size w w' := by
  have h1 : (k == 3) = false := by simpa using h
  clear h
  go_enter Try.func16, Try.ntmps16
  go_wp2
  exact bodyPost_ret (v := .agg #[.int .i64 (k), .int .i64 (n)]) (by simp [results, Try.results16, go_sem]) rfl ⟨rfl, Go.Joins.below_alloc2 ..⟩
theorem slo (k n : Int) (w : World) :
    Calls Try.prog 16 #[.agg #[.int .i64 k, .int .i64 n]] w fun e w' => e = .returned (.agg #[.int .i64 (loI k), .int .i64 (n)]) ∧ Below w.heap.size w w' := by
  by_cases h : k = 3
  · subst h; exact slo3 n w
  · rw [show loI k = k by unfold loI; rw [if_neg h]]; exact slon k n w h
theorem sexu (k n : Int) (w : World) :
    Calls Try.prog 18 #[.int .i64 (-1), .agg #[.int .i64 k, .int .i64 n]] w fun e w' => e = .returned (.agg #[.int .i64 (k), .int .i64 (n)]) ∧ Below w.heap.size w w' := by
  go_enter Try.func18, Try.ntmps18
  go_wp2
  exact bodyPost_ret (v := .agg #[.int .i64 (k), .int .i64 (n)]) (by simp [results, Try.results18, go_sem]) rfl ⟨rfl, Go.Joins.below_alloc2 ..⟩
theorem sexn (z k n : Int) (w : World) (h : z ≠ -1) :
    Calls Try.prog 18 #[.int .i64 z, .agg #[.int .i64 k, .int .i64 n]] w fun e w' => e = .returned (.agg #[.int .i64 (3), .int .i64 (clI z)]) ∧ Below w.heap.size w w' := by
  have h1 : (z == -1) = false := by simpa using h
  clear h
  go_enter Try.func18, Try.ntmps18
  go_wp2_with (first | (go_at_call 22; refine (sclamped _ _).mono ?_; rintro e w1 ⟨rfl, rfl⟩))
  exact bodyPost_ret (v := .agg #[.int .i64 (3), .int .i64 (clI z)]) (by simp [results, Try.results18, go_sem]) rfl ⟨rfl, Go.Joins.below_alloc2 ..⟩
theorem sex (z k n : Int) (w : World) :
    Calls Try.prog 18 #[.int .i64 z, .agg #[.int .i64 k, .int .i64 n]] w fun e w' => e = .returned (.agg #[.int .i64 (exK z k), .int .i64 (exN z n)]) ∧ Below w.heap.size w w' := by
  by_cases h : z = -1
  · subst h; exact sexu k n w
  · rw [show exK z k = 3 by unfold exK; rw [if_neg h], show exN z n = clI z by unfold exN; rw [if_neg h]]; exact sexn z k n w h

theorem iin1 (n l : Int) (w : World) :
    Calls Try.prog 12 #[.agg #[.int .i64 1, .int .i64 n], .int .i64 l] w fun e w' => e = .returned (.agg #[.int .i64 (1), .int .i64 (inI 1 n l)]) ∧ Below w.heap.size w w' := by
  rw [show inI 1 n l = n from rfl]
  go_enter Try.func12, Try.ntmps12
  go_wp2
  exact bodyPost_ret (v := .agg #[.int .i64 (1), .int .i64 (n)]) (by simp [results, Try.results12, go_sem]) rfl ⟨rfl, Go.Joins.below_alloc2 ..⟩
theorem iinn (k n l : Int) (w : World) (h : k ≠ 1) :
    Calls Try.prog 12 #[.agg #[.int .i64 k, .int .i64 n], .int .i64 l] w fun e w' => e = .returned (.agg #[.int .i64 (k), .int .i64 (inI k n l)]) ∧ Below w.heap.size w w' := by
  have h1 : (k == 1) = false := by simpa using h
  have hi : inI k n l = clI (clI n - clI l) := by unfold inI; rw [if_neg h]
  rw [hi]
  have ha := clI_in n
  have hb := clI_in l
  clear hi h
  go_enter Try.func12, Try.ntmps12
  go_wp2_with (first | (go_at_call 23; refine (iclamped _ _).mono ?_; rintro e w1 ⟨rfl, rfl⟩))
  exact bodyPost_ret (v := .agg #[.int .i64 (k), .int .i64 (clI (clI n - clI l))]) (by simp [results, Try.results12, go_sem]) rfl ⟨rfl, Go.Joins.below_alloc2 ..⟩
theorem iin (k n l : Int) (w : World) :
    Calls Try.prog 12 #[.agg #[.int .i64 k, .int .i64 n], .int .i64 l] w fun e w' => e = .returned (.agg #[.int .i64 (k), .int .i64 (inI k n l)]) ∧ Below w.heap.size w w' := by
  by_cases h : k = 1
  · subst h; exact iin1 n l w
  · exact iinn k n l w h
theorem ilo3 (n : Int) (w : World) :
    Calls Try.prog 17 #[.agg #[.int .i64 3, .int .i64 n]] w fun e w' => e = .returned (.agg #[.int .i64 (2), .int .i64 (n)]) ∧ Below w.heap.size w w' := by
  go_enter Try.func17, Try.ntmps17
  go_wp2
  exact bodyPost_ret (v := .agg #[.int .i64 (2), .int .i64 (n)]) (by simp [results, Try.results17, go_sem]) rfl ⟨rfl, Go.Joins.below_alloc2 ..⟩
theorem ilon (k n : Int) (w : World) (h : k ≠ 3) :
    Calls Try.prog 17 #[.agg #[.int .i64 k, .int .i64 n]] w fun e w' => e = .returned (.agg #[.int .i64 (k), .int .i64 (n)]) ∧ Below w.heap.size w w' := by
  have h1 : (k == 3) = false := by simpa using h
  clear h
  go_enter Try.func17, Try.ntmps17
  go_wp2
  exact bodyPost_ret (v := .agg #[.int .i64 (k), .int .i64 (n)]) (by simp [results, Try.results17, go_sem]) rfl ⟨rfl, Go.Joins.below_alloc2 ..⟩
theorem ilo (k n : Int) (w : World) :
    Calls Try.prog 17 #[.agg #[.int .i64 k, .int .i64 n]] w fun e w' => e = .returned (.agg #[.int .i64 (loI k), .int .i64 (n)]) ∧ Below w.heap.size w w' := by
  by_cases h : k = 3
  · subst h; exact ilo3 n w
  · rw [show loI k = k by unfold loI; rw [if_neg h]]; exact ilon k n w h
theorem iexu (k n : Int) (w : World) :
    Calls Try.prog 19 #[.int .i64 (-1), .agg #[.int .i64 k, .int .i64 n]] w fun e w' => e = .returned (.agg #[.int .i64 (k), .int .i64 (n)]) ∧ Below w.heap.size w w' := by
  go_enter Try.func19, Try.ntmps19
  go_wp2
  exact bodyPost_ret (v := .agg #[.int .i64 (k), .int .i64 (n)]) (by simp [results, Try.results19, go_sem]) rfl ⟨rfl, Go.Joins.below_alloc2 ..⟩
theorem iexn (z k n : Int) (w : World) (h : z ≠ -1) :
    Calls Try.prog 19 #[.int .i64 z, .agg #[.int .i64 k, .int .i64 n]] w fun e w' => e = .returned (.agg #[.int .i64 (3), .int .i64 (clI z)]) ∧ Below w.heap.size w w' := by
  have h1 : (z == -1) = false := by simpa using h
  clear h
  go_enter Try.func19, Try.ntmps19
  go_wp2_with (first | (go_at_call 23; refine (iclamped _ _).mono ?_; rintro e w1 ⟨rfl, rfl⟩))
  exact bodyPost_ret (v := .agg #[.int .i64 (3), .int .i64 (clI z)]) (by simp [results, Try.results19, go_sem]) rfl ⟨rfl, Go.Joins.below_alloc2 ..⟩
theorem iex (z k n : Int) (w : World) :
    Calls Try.prog 19 #[.int .i64 z, .agg #[.int .i64 k, .int .i64 n]] w fun e w' => e = .returned (.agg #[.int .i64 (exK z k), .int .i64 (exN z n)]) ∧ Below w.heap.size w w' := by
  by_cases h : z = -1
  · subst h; exact iexu k n w
  · rw [show exK z k = 3 by unfold exK; rw [if_neg h], show exN z n = clI z by unfold exN; rw [if_neg h]]; exact iexn z k n w h
end Go.Proofs.Ytbgiggngolpljaa

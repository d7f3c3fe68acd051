/-
  What RoomOf and InnerOf answer for a space of mode k and number n; their contracts, both sides. Conditions: none.
-/
import Derived.Test.YtbgiggngolpljaaSpa
import Derived.Test.YtbgiggngolpljaaClamp
namespace Go.Proofs.Ytbgiggngolpljaa
open Go.ChangeShapes Go.WideShapes Go.ChangeAt Go.RowKit
set_option linter.unusedVariables false

def rmI (k n : Int) : Int := if k = 2 ∨ k = 3 then n else -1
def inI (k n l : Int) : Int := if k = 1 then n else clI (clI n - clI l)
theorem srm2 (n : Int) (w : World) :
    Calls Try.prog 14 #[.agg #[.int .i64 2, .int .i64 n]] w fun e w' => e = .returned (.int .i64 (rmI 2 n)) ∧ Below w.heap.size w w' := by
  go_enter Try.func14, Try.ntmps14
  go_wp2
  go_ret
  exact ⟨ret_int (by simp [rmI]), Go.Joins.below_alloc1 ..⟩
theorem srm3 (n : Int) (w : World) :
    Calls Try.prog 14 #[.agg #[.int .i64 3, .int .i64 n]] w fun e w' => e = .returned (.int .i64 (rmI 3 n)) ∧ Below w.heap.size w w' := by
  go_enter Try.func14, Try.ntmps14
  go_wp2
  go_ret
  exact ⟨ret_int (by simp [rmI]), Go.Joins.below_alloc1 ..⟩
theorem srmn (k n : Int) (w : World) (h : k < 2 ∨ 3 < k) :
    Calls Try.prog 14 #[.agg #[.int .i64 k, .int .i64 n]] w fun e w' => e = .returned (.int .i64 (rmI k n)) ∧ Below w.heap.size w w' := by
  have h2 : (k == 2) = false := by simp; omega
  have h3 : (k == 3) = false := by simp; omega
  have hr : rmI k n = -1 := by unfold rmI; rw [if_neg (by omega)]
  rw [hr]
  clear h hr
  go_enter Try.func14, Try.ntmps14
  go_wp2
  go_ret
  exact ⟨rfl, Go.Joins.below_alloc1 ..⟩
theorem srm (k n : Int) (w : World) :
    Calls Try.prog 14 #[.agg #[.int .i64 k, .int .i64 n]] w fun e w' => e = .returned (.int .i64 (rmI k n)) ∧ Below w.heap.size w w' := by
  rcases mode_cases k with rfl | rfl | rfl | h
  · exact srmn 1 n w (by omega)
  · exact srm2 n w
  · exact srm3 n w
  · exact srmn k n w (by omega)
theorem irm2 (n : Int) (w : World) :
    Calls Try.prog 15 #[.agg #[.int .i64 2, .int .i64 n]] w fun e w' => e = .returned (.int .i64 (rmI 2 n)) ∧ Below w.heap.size w w' := by
  go_enter Try.func15, Try.ntmps15
  go_wp2
  go_ret
  exact ⟨ret_int (by simp [rmI]), Go.Joins.below_alloc1 ..⟩
theorem irm3 (n : Int) (w : World) :
    Calls Try.prog 15 #[.agg #[.int .i64 3, .int .i64 n]] w fun e w' => e = .returned (.int .i64 (rmI 3 n)) ∧ Below w.heap.size w w' := by
  go_enter Try.func15, Try.ntmps15
  go_wp2
  go_ret
  exact ⟨ret_int (by simp [rmI]), Go.Joins.below_alloc1 ..⟩
theorem irmn (k n : Int) (w : World) (h : k < 2 ∨ 3 < k) :
    Calls Try.prog 15 #[.agg #[.int .i64 k, .int .i64 n]] w fun e w' => e = .returned (.int .i64 (rmI k n)) ∧ Below w.heap.size w w' := by
  have h2 : (k == 2) = false := by simp; omega
  have h3 : (k == 3) = false := by simp; omega
  have hr : rmI k n = -1 := by unfold rmI; rw [if_neg (by omega)]
  rw [hr]
  clear h hr
  go_enter Try.func15, Try.ntmps15
  go_wp2
  go_ret
  exact ⟨rfl, Go.Joins.below_alloc1 ..⟩
theorem irm (k n : Int) (w : World) :
    Calls Try.prog 15 #[.agg #[.int .i64 k, .int .i64 n]] w fun e w' => e = .returned (.int .i64 (rmI k n)) ∧ Below w.heap.size w w' := by
  rcases mode_cases k with rfl | rfl | rfl | h
  · exact irmn 1 n w (by omega)
  · exact irm2 n w
  · exact irm3 n w
  · exact irmn k n w (by omega)
end Go.Proofs.Ytbgiggngolpljaa

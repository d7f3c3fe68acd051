/-
  The plain functions that say what chapter 5's functions answer for edges (four ints). Conditions: none.
-/
import Derived.Test.YtfnnfjpbplbjmaaClamp
import Derived.Test.YtfnnfjpbplbjmaaToE
namespace Go.Proofs.Ytfnnfjpbplbjmaa
open Go.ChangeShapes Go.WideShapes Go.ChangeAt Go.RowKit

/-- An edges value. -/
def edV (a b c d : Int) : Value := .agg #[.int .i64 a, .int .i64 b, .int .i64 c, .int .i64 d]
/-- The clamped sum of two clamped lengths. -/
def smI (a b : Int) : Int := clI (clI a + clI b)
theorem smI_in (a b : Int) : 0 ≤ smI a b ∧ smI a b ≤ 1048576 := clI_in _
theorem sm_len (a b : Int) : clI (lenI (clI a) + lenI (clI b)) = smI a b := by
  have ha := clI_in a
  have hb := clI_in b
  rw [lenI_id (by omega) (by omega), lenI_id (by omega) (by omega)]; rfl
theorem sm_zero (a : Int) : smI a 0 = clI a := by
  have ha := clI_in a
  unfold smI
  rw [clI_id (n := 0) (by omega) (by omega), Int.add_zero, clI_id ha.1 ha.2]
theorem sum_in (a b : Int) : -9223372036854775808 ≤ clI a + clI b ∧ clI a + clI b ≤ 9223372036854775807 := by
  have ha := clI_in a
  have hb := clI_in b
  omega
theorem ret_agg {a b : Array Value} (h : a = b) : Ending.returned (.agg a) = .returned (.agg b) := by rw [h]
/-- Whether an int is a length. -/
def inI (a : Int) : Bool := decide (0 ≤ a ∧ a ≤ 1048576)
def edOk (a b c d : Int) : Bool := inI a && inI b && inI c && inI d
theorem in_cl (a : Int) : (a == clI a) = inI a := by
  unfold inI clI brI
  rw [Bool.eq_iff_iff, beq_iff_eq, decide_eq_true_iff]
  (repeat' split) <;> omega

end Go.Proofs.Ytfnnfjpbplbjmaa

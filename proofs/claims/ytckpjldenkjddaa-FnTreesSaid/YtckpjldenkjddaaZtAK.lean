import Derived.Lib.SmallJoins
import Derived.Deep.QuietTactic
import Derived.BigQuiet
import Derived.IntWalk
import Derived.Test.YtckpjldenkjddaaZtAA
import Derived.Test.YtckpjldenkjddaaZtAD
import Derived.Test.YtckpjldenkjddaaZtAJ
section
namespace Go.Proofs.Ytckpjldenkjddaa
open Go.ChangeShapes Go.WideShapes Go.ChangeAt Go.RowKit

def okV (k n : Int) : Bool := if k = 0 ∨ k = 3 then decide (n = 0) else if k = 1 then decide (-1048576 ≤ n ∧ n ≤ 1048576) else if k = 2 then decide (-1000 ≤ n ∧ n ≤ 1000) else false
theorem ret_bool' {a b : Bool} (h : a = b) : Ending.returned (.bool a) = .returned (.bool b) := by rw [h]
theorem kind_cases (k : Int) : k = 0 ∨ k = 1 ∨ k = 2 ∨ k = 3 ∨ (k < 0 ∨ 3 < k) := by omega

end Go.Proofs.Ytckpjldenkjddaa
end
section
namespace Go.Proofs.Ytckpjldenkjddaa
open Go.ChangeShapes Go.WideShapes Go.ChangeAt Go.RowKit

def sdOk (lk ln tk tn rk rn bk bn sk sn ek en : Int) : Bool := okV lk ln && okV tk tn && okV rk rn && okV bk bn && okV sk sn && okV ek en

end Go.Proofs.Ytckpjldenkjddaa
end
section
namespace Go.Proofs.Ytckpjldenkjddaa
open Go.ChangeShapes Go.WideShapes Go.ChangeAt Go.RowKit

def brI (n least most : Int) : Int := if n < least ∨ most < least then least else if most < n then most else n
theorem brI_in {n least most : Int} (h : least ≤ most) : least ≤ brI n least most ∧ brI n least most ≤ most := by
  unfold brI; split
  · omega
  · split <;> omega
theorem brI_id {n least most : Int} (h1 : least ≤ n) (h2 : n ≤ most) : brI n least most = n := by
  unfold brI; rw [if_neg (by omega), if_neg (by omega)]
end Go.Proofs.Ytckpjldenkjddaa
end
section
namespace Go.Proofs.Ytckpjldenkjddaa
open Go.ChangeShapes Go.WideShapes Go.ChangeAt Go.RowKit

def clI (n : Int) : Int := brI n 0 1048576
def lenI (n : Int) : Int := brI n (-1048576) 1048576
theorem clI_in (n : Int) : 0 ≤ clI n ∧ clI n ≤ 1048576 := brI_in (by omega)
theorem lenI_in (n : Int) : -1048576 ≤ lenI n ∧ lenI n ≤ 1048576 := brI_in (by omega)
theorem clI_id {n : Int} (h0 : 0 ≤ n) (h1 : n ≤ 1048576) : clI n = n := brI_id h0 h1
theorem lenI_id {n : Int} (h0 : -1048576 ≤ n) (h1 : n ≤ 1048576) : lenI n = n := brI_id h0 h1
theorem iclamp_len (n : Int) (w : World) :
    Calls Try.prog 179 #[.int .i64 0, .int .i64 n] w fun e w' => e = .returned (.int .i64 (clI n)) ∧ w' = w := by
  by_cases h1 : n < 0 <;> by_cases h2 : 1048576 < n <;> (try omega) <;>
    (go_enter Try.func179, Try.ntmps179
     go_wp2
     go_ret
     exact ⟨ret_int (by unfold clI brI; (repeat' split) <;> omega), rfl⟩)
theorem iclamp_off (n : Int) (w : World) :
    Calls Try.prog 179 #[.int .i64 1, .int .i64 n] w fun e w' => e = .returned (.int .i64 (lenI n)) ∧ w' = w := by
  by_cases h1 : n < -1048576 <;> by_cases h2 : 1048576 < n <;> (try omega) <;>
    (go_enter Try.func179, Try.ntmps179
     go_wp2
     go_ret
     exact ⟨ret_int (by unfold lenI brI; (repeat' split) <;> omega), rfl⟩)
end Go.Proofs.Ytckpjldenkjddaa
end
section
namespace Go.Proofs.Ytckpjldenkjddaa
open Go.ChangeShapes Go.WideShapes Go.ChangeAt Go.RowKit

theorem iclamped (n : Int) (w : World) :
    Calls Try.prog 178 #[.int .i64 n] w fun e w' => e = .returned (.int .i64 (clI n)) ∧ w' = w := by
  go_enter Try.func178, Try.ntmps178
  go_wp2_with (fail)
  refine (iclamp_len n w).mono ?_
  rintro e w1 ⟨rfl, rfl⟩
  go_wp2
  go_ret
  exact ⟨rfl, rfl⟩
end Go.Proofs.Ytckpjldenkjddaa
end
section
namespace Go.Proofs.Ytckpjldenkjddaa
open Go.ChangeShapes Go.WideShapes Go.ChangeAt Go.RowKit

/-- The clamped sum of two clamped lengths. -/
def smI (a b : Int) : Int := clI (clI a + clI b)
theorem sm_len (a b : Int) : clI (lenI (clI a) + lenI (clI b)) = smI a b := by
  have ha := clI_in a
  have hb := clI_in b
  rw [lenI_id (by omega) (by omega), lenI_id (by omega) (by omega)]; rfl
theorem sm_zero (a : Int) : smI a 0 = clI a := by
  have ha := clI_in a
  unfold smI
  rw [clI_id (n := 0) (by omega) (by omega), Int.add_zero, clI_id ha.1 ha.2]
/-- Whether an int is a length. -/
def inI (a : Int) : Bool := decide (0 ≤ a ∧ a ≤ 1048576)
def edOk (a b c d : Int) : Bool := inI a && inI b && inI c && inI d
theorem in_cl (a : Int) : (a == clI a) = inI a := by
  unfold inI clI brI
  rw [Bool.eq_iff_iff, beq_iff_eq, decide_eq_true_iff]
  (repeat' split) <;> omega

end Go.Proofs.Ytckpjldenkjddaa
end
section
namespace Go.Proofs.Ytckpjldenkjddaa
open Go.ChangeShapes Go.WideShapes Go.ChangeAt Go.RowKit
set_option linter.unusedSimpArgs false
set_option linter.unusedVariables false

def inB (x a b : Int) : Bool := decide (a ≤ x ∧ x ≤ b)
def sSzV (k n : Int) : Bool := okV k n && decide (0 ≤ n)
def sChV (f : Nat → Int) : Bool := inB (f 0) 1 4 && inB (f 1) 1 3 && inB (f 2) 1 6 && inB (f 3) 1 5 && inB (f 4) 0 5 && inB (f 5) 1 6
def sNmV (f : Nat → Int) : Bool := inB (f 8) (-1000) 1000 && inB (f 9) 0 1000 && inB (f 10) 0 1000 && inB (f 25) 0 6400
def sGpV (f : Nat → Int) : Bool := inB (f 58) 0 1048576 && inB (f 59) 0 1048576
def sSiV (f : Nat → Int) : Bool := sSzV (f 11) (f 12) && sSzV (f 13) (f 14) && sSzV (f 15) (f 16) && sSzV (f 17) (f 18) && sSzV (f 19) (f 20) && sSzV (f 21) (f 22) && sSzV (f 23) (f 24)
def sd1 (f : Nat → Int) : Bool := sdOk (f 26) (f 27) (f 28) (f 29) (f 30) (f 31) (f 32) (f 33) (f 34) (f 35) (f 36) (f 37)
def sd2 (f : Nat → Int) : Bool := sdOk (f 38) (f 39) (f 40) (f 41) (f 42) (f 43) (f 44) (f 45) (f 46) (f 47) (f 48) (f 49)
def ed1 (f : Nat → Int) : Bool := edOk (f 50) (f 51) (f 52) (f 53)
def ed2 (f : Nat → Int) : Bool := edOk (f 54) (f 55) (f 56) (f 57)
def sEdV (f : Nat → Int) : Bool := sd1 f && sd2 f && ed1 f && ed2 f
/-- Whether a style is valid. -/
def styOk (f : Nat → Int) : Bool := sChV f && sNmV f && sSiV f && sEdV f && sGpV f
end Go.Proofs.Ytckpjldenkjddaa
end
section
namespace Go.Proofs.Ytckpjldenkjddaa
open Go.ChangeShapes Go.WideShapes Go.ChangeAt Go.RowKit

theorem sin_any (x least most : Int) (w : World) :
    Calls Try.prog 71 #[.int .i64 x, .int .i64 least, .int .i64 most] w fun e w' => e = .returned (.bool (decide (least ≤ x ∧ x ≤ most))) ∧ w' = w := by
  by_cases h1 : least ≤ x <;> by_cases h2 : x ≤ most <;>
    (go_enter Try.func71, Try.ntmps71
     go_wp2
     go_ret
     exact ⟨ret_bool' (by simp [h1, h2]; try omega), rfl⟩)

theorem svok0 (n : Int) (w : World) :
    Calls Try.prog 146 #[.agg #[.int .i64 0, .int .i64 n]] w fun e w' => e = .returned (.bool (okV 0 n)) ∧ Below w.heap.size w w' := by
  go_enter Try.func146, Try.ntmps146
  go_wp2
  go_ret
  exact ⟨ret_bool' (by simp [okV]; try rfl), Go.Joins.below_alloc1 ..⟩
theorem svok3 (n : Int) (w : World) :
    Calls Try.prog 146 #[.agg #[.int .i64 3, .int .i64 n]] w fun e w' => e = .returned (.bool (okV 3 n)) ∧ Below w.heap.size w w' := by
  go_enter Try.func146, Try.ntmps146
  go_wp2
  go_ret
  exact ⟨ret_bool' (by simp [okV]; try rfl), Go.Joins.below_alloc1 ..⟩
theorem svok1 (n : Int) (w : World) :
    Calls Try.prog 146 #[.agg #[.int .i64 1, .int .i64 n]] w fun e w' => e = .returned (.bool (okV 1 n)) ∧ Below w.heap.size w w' := by
  go_enter Try.func146, Try.ntmps146
  go_wp2_with (fail)
  refine (sin_any n (-1048576) 1048576 _).mono ?_
  rintro e w1 ⟨rfl, rfl⟩
  go_wp2
  go_ret
  exact ⟨ret_bool' (by simp [okV]), Go.Joins.below_alloc1 ..⟩
theorem svok2 (n : Int) (w : World) :
    Calls Try.prog 146 #[.agg #[.int .i64 2, .int .i64 n]] w fun e w' => e = .returned (.bool (okV 2 n)) ∧ Below w.heap.size w w' := by
  go_enter Try.func146, Try.ntmps146
  go_wp2_with (fail)
  refine (sin_any n (-1000) 1000 _).mono ?_
  rintro e w1 ⟨rfl, rfl⟩
  go_wp2
  go_ret
  exact ⟨ret_bool' (by simp [okV]), Go.Joins.below_alloc1 ..⟩
theorem svokn (k n : Int) (w : World) (h : k < 0 ∨ 3 < k) :
    Calls Try.prog 146 #[.agg #[.int .i64 k, .int .i64 n]] w fun e w' => e = .returned (.bool (okV k n)) ∧ Below w.heap.size w w' := by
  have h0 : (k == 0) = false := by simp; omega
  have h1 : (k == 1) = false := by simp; omega
  have h2 : (k == 2) = false := by simp; omega
  have h3 : (k == 3) = false := by simp; omega
  have H := Lib.hid h
  clear h
  go_enter Try.func146, Try.ntmps146
  go_wp2
  go_ret
  exact ⟨ret_bool' (by have h := H.out; unfold okV; rw [if_neg (by omega), if_neg (by omega), if_neg (by omega)]), Go.Joins.below_alloc1 ..⟩
theorem svok (k n : Int) (w : World) :
    Calls Try.prog 146 #[.agg #[.int .i64 k, .int .i64 n]] w fun e w' => e = .returned (.bool (okV k n)) ∧ Below w.heap.size w w' := by
  rcases kind_cases k with rfl | rfl | rfl | rfl | h
  · exact svok0 n w
  · exact svok1 n w
  · exact svok2 n w
  · exact svok3 n w
  · exact svokn k n w h
end Go.Proofs.Ytckpjldenkjddaa
end
section
namespace Go.Proofs.Ytckpjldenkjddaa
open Go.ChangeShapes Go.WideShapes Go.ChangeAt Go.RowKit

theorem sinI (x : Int) (w : World) :
    Calls Try.prog 71 #[.int .i64 x, .int .i64 0, .int .i64 1048576] w fun e w' => e = .returned (.bool (inI x)) ∧ w' = w := sin_any x 0 1048576 w
theorem sedgesok (a b c d : Int) (w : World) :
    Calls Try.prog 120 #[.agg #[.int .i64 a, .int .i64 b, .int .i64 c, .int .i64 d]] w fun e w' => e = .returned (.bool (edOk a b c d)) ∧ Below w.heap.size w w' := by
  have s1 := sinI a
  have s2 := sinI b
  have s3 := sinI c
  have s4 := sinI d
  unfold edOk
  cases ha : inI a <;> rw [ha] at s1
  · go_enter Try.func120, Try.ntmps120
    go_wp2_with (fail)
    refine (s1 _).mono ?_
    rintro e w1 ⟨rfl, rfl⟩
    go_wp2
    go_ret
    exact ⟨rfl, Go.Joins.below_alloc1 ..⟩
  cases hb : inI b <;> rw [hb] at s2
  · go_enter Try.func120, Try.ntmps120
    go_wp2_with (fail)
    refine (s1 _).mono ?_
    rintro e w1 ⟨rfl, rfl⟩
    go_wp2_with (fail)
    refine (s2 _).mono ?_
    rintro e w1 ⟨rfl, rfl⟩
    go_wp2
    go_ret
    exact ⟨rfl, Go.Joins.below_alloc1 ..⟩
  cases hc : inI c <;> rw [hc] at s3
  · go_enter Try.func120, Try.ntmps120
    go_wp2_with (fail)
    refine (s1 _).mono ?_
    rintro e w1 ⟨rfl, rfl⟩
    go_wp2_with (fail)
    refine (s2 _).mono ?_
    rintro e w1 ⟨rfl, rfl⟩
    go_wp2_with (fail)
    refine (s3 _).mono ?_
    rintro e w1 ⟨rfl, rfl⟩
    go_wp2
    go_ret
    exact ⟨rfl, Go.Joins.below_alloc1 ..⟩
  · go_enter Try.func120, Try.ntmps120
    go_wp2_with (fail)
    refine (s1 _).mono ?_
    rintro e w1 ⟨rfl, rfl⟩
    go_wp2_with (fail)
    refine (s2 _).mono ?_
    rintro e w1 ⟨rfl, rfl⟩
    go_wp2_with (fail)
    refine (s3 _).mono ?_
    rintro e w1 ⟨rfl, rfl⟩
    go_wp2_with (fail)
    refine (s4 _).mono ?_
    rintro e w1 ⟨rfl, rfl⟩
    go_wp2
    go_ret
    exact ⟨rfl, Go.Joins.below_alloc1 ..⟩
end Go.Proofs.Ytckpjldenkjddaa
end
section
namespace Go.Proofs.Ytckpjldenkjddaa
open Go.ChangeShapes Go.WideShapes Go.ChangeAt Go.RowKit

theorem iadd_any (a b : Int) (w : World) :
    Calls Try.prog 177 #[.int .i64 a, .int .i64 b] w fun e w' => e = .returned (.int .i64 (clI (lenI a + lenI b))) ∧ w' = w := by
  have ha := lenI_in a
  have hb := lenI_in b
  go_enter Try.func177, Try.ntmps177
  go_wp2_with (fail)
  refine (iclamp_off a w).mono ?_
  rintro e w1 ⟨rfl, rfl⟩
  go_wp2_with (fail)
  refine (iclamp_off b w1).mono ?_
  rintro e w2 ⟨rfl, rfl⟩
  go_wp2_with (fail)
  refine (iclamped (lenI a + lenI b) w2).mono ?_
  rintro e w3 ⟨rfl, rfl⟩
  go_wp2
  go_ret
  exact ⟨rfl, rfl⟩
end Go.Proofs.Ytckpjldenkjddaa
end

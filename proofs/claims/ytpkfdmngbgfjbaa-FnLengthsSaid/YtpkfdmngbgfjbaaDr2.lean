/-
  The draws spec.DrawWithin (three ints) and spec.DrawAddLen (two ints): they return ints and leave all old memory alone. Conditions: at most 1048576 bytes.
-/
import Derived.Test.YtpkfdmngbgfjbaaL02
import Derived.Test.YtpkfdmngbgfjbaaPlaces
namespace Go.Proofs.Ytpkfdmngbgfjbaa
open Go.ChangeShapes Go.WideShapes Go.ChangeAt Go.RowKit

def I64 (x : Int) : Prop := -9223372036854775808 ≤ x ∧ x ≤ 9223372036854775807
def TwoPost (w : World) (e : Ending) (w' : World) : Prop := ∃ x y : Int, e = .returned (.tuple #[.int .i64 x, .int .i64 y]) ∧ I64 x ∧ I64 y ∧ Below w.heap.size w w'
def ThreePost (w : World) (e : Ending) (w' : World) : Prop := ∃ x y z : Int, e = .returned (.tuple #[.int .i64 x, .int .i64 y, .int .i64 z]) ∧ I64 x ∧ I64 y ∧ I64 z ∧ Below w.heap.size w w'
/-- The new cursor, as every draw wants it. -/
theorem new_cur (a : Option Addr) (len cap : Nat) (w : World) (hl : len ≤ 1048576) (hc : Code w a len) :
    Calls Try.prog 28 #[.slice a len cap] w fun e w' => e = .returned (.pointer (some ⟨w.heap.size, 0, none⟩)) ∧ Cur w.heap.size a len cap w' ∧ Below w.heap.size w w' ∧ w.heap.size < w'.heap.size := by
  have hap := fun h0 => code_lt hc h0
  refine (new_any a len cap w hl hc).mono ?_
  rintro e w1 ⟨h, rfl, hcur, hb, hsz⟩
  exact ⟨rfl, ⟨⟨0, h, Nat.zero_le _, hcur⟩, hc.below hb, hl, fun h0 b off e => by have := hap h0 b off e; omega⟩, hb, by omega⟩
theorem draw_within (a : Option Addr) (len cap : Nat) (w : World) (hl : len ≤ 1048576) (hc : Code w a len) :
    Calls Try.prog 13 #[.slice a len cap] w (ThreePost w) := by
  go_enter Try.func13, Try.ntmps13
  go_wp2_with (fail)
  refine (new_cur a len cap w hl hc).mono ?_
  rintro e w1 ⟨rfl, c1, b1, s1⟩
  go_wp2_with (fail)
  refine (l02_any w.heap.size a len cap w1 s1 c1).mono ?_
  rintro e w2 ⟨x, rfl, x0, x1, c2, g2⟩
  have s2 : w.heap.size < w2.heap.size := Nat.lt_of_lt_of_le s1 g2.size
  go_wp2_with (fail)
  refine (l02_any w.heap.size a len cap w2 s2 c2).mono ?_
  rintro e w3 ⟨y, rfl, y0, y1, c3, g3⟩
  have s3 : w.heap.size < w3.heap.size := Nat.lt_of_lt_of_le s2 g3.size
  go_wp2_with (fail)
  refine (l02_any w.heap.size a len cap w3 s3 c3).mono ?_
  rintro e w4 ⟨z, rfl, z0, z1, c4, g4⟩
  have hb : Below w.heap.size w w4 := b1.grown (gr_trans (gr_trans g2 g3) g4) b1.size (fun k hk => by simp at hk; omega)
  have HB := Lib.hid hb
  clear hb
  go_wp2
  go_ret3
  exact ⟨x, y, z, rfl, ⟨x0, x1⟩, ⟨y0, y1⟩, ⟨z0, z1⟩, HB.out⟩
theorem draw_addlen (a : Option Addr) (len cap : Nat) (w : World) (hl : len ≤ 1048576) (hc : Code w a len) :
    Calls Try.prog 15 #[.slice a len cap] w (TwoPost w) := by
  go_enter Try.func15, Try.ntmps15
  go_wp2_with (fail)
  refine (new_cur a len cap w hl hc).mono ?_
  rintro e w1 ⟨rfl, c1, b1, s1⟩
  go_wp2_with (fail)
  refine (l02_any w.heap.size a len cap w1 s1 c1).mono ?_
  rintro e w2 ⟨x, rfl, x0, x1, c2, g2⟩
  have s2 : w.heap.size < w2.heap.size := Nat.lt_of_lt_of_le s1 g2.size
  go_wp2_with (fail)
  refine (l02_any w.heap.size a len cap w2 s2 c2).mono ?_
  rintro e w3 ⟨y, rfl, y0, y1, c3, g3⟩
  have hb : Below w.heap.size w w3 := b1.grown (gr_trans g2 g3) b1.size (fun k hk => by simp at hk; omega)
  have HB := Lib.hid hb
  clear hb
  go_wp2
  go_ret2
  exact ⟨x, y, rfl, ⟨x0, x1⟩, ⟨y0, y1⟩, HB.out⟩
end Go.Proofs.Ytpkfdmngbgfjbaa

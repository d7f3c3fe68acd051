/-
  The draws spec.DrawShares, DrawScaled, DrawWanting and DrawEvenly: ints, and lists of at most 65 ints in rows of the call's own; all old memory stays. Conditions: at most 1048576 bytes.
-/
import Derived.Test.YtdhgachfenkbgaaDrW
namespace Go.Proofs.Ytdhgachfenkbgaa
open Go.ChangeShapes Go.WideShapes Go.ChangeAt Go.RowKit
set_option maxRecDepth 20000

def IsI (x : Int) : Prop := -9223372036854775808 ≤ x ∧ x ≤ 9223372036854775807
/-- An int and a list. -/
def IntListPost (w : World) (e : Ending) (w' : World) : Prop := ∃ (n : Int) (v : Value) (xs : List Int), e = .returned (.tuple #[.int .i64 n, v]) ∧ IsI n ∧ xs.length ≤ 65 ∧ AllI xs ∧ RowI w.heap.size v xs w' ∧ Below w.heap.size w w'
def ListsPost (w : World) (e : Ending) (w' : World) : Prop := ∃ (v u : Value) (xs ys : List Int), e = .returned (.tuple #[v, u]) ∧ xs.length ≤ 65 ∧ AllI xs ∧ RowI w.heap.size v xs w' ∧ ys.length ≤ 65 ∧ AllI ys ∧ RowI w.heap.size u ys w' ∧ Below w.heap.size w w'
def IntsPost (w : World) (e : Ending) (w' : World) : Prop := ∃ x y : Int, e = .returned (.tuple #[.int .i64 x, .int .i64 y]) ∧ IsI x ∧ IsI y ∧ Below w.heap.size w w'
/-- A small number and a list. -/
def WantPost (w : World) (e : Ending) (w' : World) : Prop := ∃ (n : Int) (v : Value) (xs : List Int), e = .returned (.tuple #[.int .i64 n, v]) ∧ 0 ≤ n ∧ n ≤ 99999 ∧ xs.length ≤ 65 ∧ AllI xs ∧ RowI w.heap.size v xs w' ∧ Below w.heap.size w w'
theorem RowI.lower {b b' : Nat} {v : Value} {xs : List Int} {w : World} (h : RowI b v xs w) (hb : b' ≤ b) : RowI b' v xs w := by
  refine ⟨h.1, ?_⟩
  rcases h.2 with h1 | ⟨g, cap, cur, hv, hg, hr⟩
  · exact Or.inl h1
  · exact Or.inr ⟨g, cap, cur, hv, by omega, hr⟩
theorem lt_more {w w1 : World} {a : Option Addr} {len : Nat} (h : Code w a len) (hs : w.heap.size ≤ w1.heap.size) : 0 < len → ∀ b off, a = some ⟨b, off, none⟩ → b < w1.heap.size :=
  fun h0 b off e => Nat.lt_of_lt_of_le (code_lt h h0 b off e) hs

theorem draw_shares (a : Option Addr) (len cap : Nat) (w : World) (hl : len ≤ 1048576) (hc : Code w a len) :
    Calls Try.prog 42 #[.slice a len cap] w (IntListPost w) := by
  go_enter Try.func42, Try.ntmps42
  go_wp2_with (fail)
  refine (new_cur a len cap w hl hc).mono ?_
  rintro e w1 ⟨rfl, c1, b1, s1⟩
  go_wp2_with (fail)
  refine (l02_any w.heap.size a len cap w1 s1 c1).mono ?_
  rintro e w2 ⟨x, rfl, x0, x1, c2, g2⟩
  have s2 : w.heap.size < w2.heap.size := Nat.lt_of_lt_of_le s1 g2.size
  go_wp2_with (fail)
  refine (l03w_any w.heap.size a len cap w2 s2 (lt_more hc (by omega)) c2).mono ?_
  rintro e w3 ⟨v, xs, rfl, hxl, hxa, hr, c3, g3⟩
  have HB := Lib.hid (show Below w.heap.size w w3 from b1.grown (gr_trans g2 g3) b1.size (fun k hk => by simp at hk; omega))
  have HR := Lib.hid (hr.lower (show w.heap.size ≤ w2.heap.size by omega))
  have HA := Lib.hid hxa
  clear hr hxa
  go_wp2
  go_ret2
  exact ⟨x, v, xs, rfl, ⟨x0, x1⟩, hxl, HA.out, HR.out, HB.out⟩
theorem draw_wanting (a : Option Addr) (len cap : Nat) (w : World) (hl : len ≤ 1048576) (hc : Code w a len) :
    Calls Try.prog 53 #[.slice a len cap] w (WantPost w) := by
  go_enter Try.func53, Try.ntmps53
  go_wp2_with (fail)
  refine (new_cur a len cap w hl hc).mono ?_
  rintro e w1 ⟨rfl, c1, b1, s1⟩
  go_wp2_with (fail)
  refine (below_pos 100000 w.heap.size a len cap w1 (by omega) (by omega) c1).mono ?_
  rintro e w2 ⟨x, rfl, x0, x1, c2, g2, z2⟩
  have s2 : w.heap.size < w2.heap.size := Nat.lt_of_lt_of_le s1 g2.size
  clear z2
  go_wp2_with (fail)
  refine (l02list_any w.heap.size a len cap w2 s2 (lt_more hc (by omega)) c2).mono ?_
  rintro e w3 ⟨v, xs, rfl, hxl, hxa, hr, c3, g3⟩
  have HB := Lib.hid (show Below w.heap.size w w3 from b1.grown (gr_trans g2 g3) b1.size (fun k hk => by simp at hk; omega))
  have HR := Lib.hid (hr.lower (show w.heap.size ≤ w2.heap.size by omega))
  have HA := Lib.hid hxa
  clear hr hxa
  go_wp2
  go_ret2
  exact ⟨x, v, xs, rfl, x0, by omega, by omega, HA.out, HR.out, HB.out⟩
theorem draw_scaled (a : Option Addr) (len cap : Nat) (w : World) (hl : len ≤ 1048576) (hc : Code w a len) :
    Calls Try.prog 52 #[.slice a len cap] w (ListsPost w) := by
  go_enter Try.func52, Try.ntmps52
  go_wp2_with (fail)
  refine (new_cur a len cap w hl hc).mono ?_
  rintro e w1 ⟨rfl, c1, b1, s1⟩
  go_wp2_with (fail)
  refine (l02list_any w.heap.size a len cap w1 s1 (lt_more hc (by omega)) c1).mono ?_
  rintro e w2 ⟨v, xs, rfl, hxl, hxa, hr, c2, g2⟩
  have s2 : w.heap.size < w2.heap.size := Nat.lt_of_lt_of_le s1 g2.size
  have HR := Lib.hid hr
  have HA := Lib.hid hxa
  clear hr hxa
  go_wp2_with (fail)
  refine (l03w_any w.heap.size a len cap w2 s2 (lt_more hc (by omega)) c2).mono ?_
  rintro e w3 ⟨u, ys, rfl, hyl, hya, hr3, c3, g3⟩
  have HB := Lib.hid (show Below w.heap.size w w3 from b1.grown (gr_trans g2 g3) b1.size (fun k hk => by simp at hk; omega))
  have HR2 := Lib.hid ((HR.out.cur g3 s1).lower (show w.heap.size ≤ w1.heap.size by omega))
  have HR3 := Lib.hid (hr3.lower (show w.heap.size ≤ w2.heap.size by omega))
  have HA3 := Lib.hid hya
  clear hr3 hya HR
  go_wp2
  go_ret2
  exact ⟨v, u, xs, ys, rfl, by omega, HA.out, HR2.out, hyl, HA3.out, HR3.out, HB.out⟩
theorem draw_evenly (a : Option Addr) (len cap : Nat) (w : World) (hl : len ≤ 1048576) (hc : Code w a len) :
    Calls Try.prog 49 #[.slice a len cap] w (IntsPost w) := by
  go_enter Try.func49, Try.ntmps49
  go_wp2_with (fail)
  refine (new_cur a len cap w hl hc).mono ?_
  rintro e w1 ⟨rfl, c1, b1, s1⟩
  go_wp2_with (fail)
  refine (l02_any w.heap.size a len cap w1 s1 c1).mono ?_
  rintro e w2 ⟨x, rfl, x0, x1, c2, g2⟩
  have s2 : w.heap.size < w2.heap.size := Nat.lt_of_lt_of_le s1 g2.size
  go_wp2_with (fail)
  have hl2 := lit_ints w2 [0, 1, 3, 5, 64, 65, -1, 9223372036854775807] (by decide)
  have ga := World.grownBy_alloc w2 (.cells ([0, 1, 3, 5, 64, 65, -1, 9223372036854775807].map (Value.int .i64)).toArray 3) none
  have hc5 : Cur w.heap.size a len cap (w2.alloc (.cells ([0, 1, 3, 5, 64, 65, -1, 9223372036854775807].map (Value.int .i64)).toArray 3)) := c2.kept s2 ga (fun k hk => by cases hk)
  refine (pick_any w2.heap.size 0 8 8 _ w.heap.size a len cap _ (by omega) (by omega) hl2 (by omega) hc5).mono ?_
  rintro e w3 ⟨y, rfl, y0, y1, c3, g3⟩
  have HB := Lib.hid (show Below w.heap.size w w3 from b1.grown (gr_trans (gr_trans g2 (gr_none ga (some w.heap.size))) g3) b1.size (fun k hk => by simp at hk; omega))
  clear hl2 ga hc5 g3
  go_wp2
  go_ret2
  exact ⟨x, y, rfl, ⟨x0, x1⟩, ⟨y0, y1⟩, HB.out⟩
end Go.Proofs.Ytdhgachfenkbgaa

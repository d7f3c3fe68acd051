/-
  The drawing of one length (spec.l02Int): it returns an int, and turns nothing but its own cursor. Conditions: those of the cursor.
-/
import Derived.Test.YtdpibpelghnihaaPick
namespace Go.Proofs.Ytdpibpelghnihaa
open Go.ChangeShapes Go.WideShapes Go.ChangeAt Go.RowKit

set_option maxHeartbeats 400000 in
theorem l02_any (cb : Nat) (a : Option Addr) (len cap : Nat) (w : World) (hcb : cb < w.heap.size) (hc : Cur cb a len cap w) :
    Calls Try.prog 45 #[.pointer (some ⟨cb, 0, none⟩)] w (DrewPost (-9223372036854775808) 9223372036854775807 cb a len cap w) := by
  go_enter Try.func45, Try.ntmps45
  go_wp2_with (fail)
  refine (below_pos 6 cb a len cap w (by omega) (by omega) hc).mono ?_
  rintro e w1 ⟨x, rfl, x0, x1, c1, g1, s1⟩
  have hcb1 : cb < w1.heap.size := Nat.lt_of_lt_of_le hcb g1.size
  have S1 := Lib.hid s1
  clear s1
  by_cases e0 : x = 0
  · subst e0
    go_wp2_with (fail)
    have hl := lit_ints w1 [0, 1, -1, 64, 1048576, 1048577, -1048576, -1048577, 9223372036854775807, -9223372036854775808] (by decide)
    have ga := World.grownBy_alloc w1 (.cells ([0, 1, -1, 64, 1048576, 1048577, -1048576, -1048577, 9223372036854775807, -9223372036854775808].map (Value.int .i64)).toArray 3) none
    have hc2 : Cur cb a len cap (w1.alloc (.cells ([0, 1, -1, 64, 1048576, 1048577, -1048576, -1048577, 9223372036854775807, -9223372036854775808].map (Value.int .i64)).toArray 3)) := c1.kept hcb1 ga (fun k hk => by cases hk)
    refine (pick_any w1.heap.size 0 10 10 _ cb a len cap _ (by omega) (by omega) hl (by omega) hc2).mono ?_
    rintro e w2 ⟨y, rfl, y0, y1, c2, g2⟩
    have G := Lib.hid (gr_trans (gr_trans g1 (gr_none ga (some cb))) g2)
    clear hl ga hc2 g2
    go_wp2
    go_ret
    exact ⟨y, rfl, y0, y1, c2, G.out⟩
  · by_cases e1 : x = 1
    · subst e1
      go_wp2_with (fail)
      refine (below_pos 5000 cb a len cap w1 (by omega) (by omega) c1).mono ?_
      rintro e w2 ⟨y, rfl, y0, y1, c2, g2, s2⟩
      have S2 := Lib.hid s2
      clear s2
      go_wp2
      go_ret
      exact ⟨_, rfl, by omega, by omega, c2, gr_trans g1 g2⟩
    · go_wp2_with (fail)
      refine (below_pos 8000 cb a len cap w1 (by omega) (by omega) c1).mono ?_
      rintro e w2 ⟨y, rfl, y0, y1, c2, g2, s2⟩
      have S2 := Lib.hid s2
      clear s2
      go_wp2
      go_ret
      exact ⟨_, rfl, by omega, by omega, c2, gr_trans g1 g2⟩
end Go.Proofs.Ytdpibpelghnihaa

/-
  The contract of laws.toStyle: it hands on the style as it stands. Conditions: none.
-/
import Derived.Test.YtfnnfjpbplbjmaaSty
import Derived.Test.YtfnnfjpbplbjmaaSidM
import Derived.Test.YtfnnfjpbplbjmaaToE
namespace Go.Proofs.Ytfnnfjpbplbjmaa
open Go.ChangeShapes Go.WideShapes Go.ChangeAt Go.RowKit

set_option maxHeartbeats 1000000 in
set_option maxRecDepth 100000 in
theorem toSty (f : Nat → Int) (w : World) :
    Calls Try.prog 154 #[.agg (sCells f)] w fun e w' => e = .returned (.agg (sCells f)) ∧ Below w.heap.size w w' := by
  have hA := hp_on (hp_on (hp_new w (.cells (sCells f) 154)) (.cells (.int .i64 0 :: .int .i64 0 :: .int .i64 0 :: .int .i64 0 :: .int .i64 0 :: .int .i64 0 :: .bool false :: .bool false :: .int .i64 0 :: .int .i64 0 :: .int .i64 0 :: .int .i64 0 :: .int .i64 0 :: .int .i64 0 :: .int .i64 0 :: .int .i64 0 :: .int .i64 0 :: .int .i64 0 :: .int .i64 0 :: .int .i64 0 :: .int .i64 0 :: .int .i64 0 :: .int .i64 0 :: .int .i64 0 :: .int .i64 0 :: .int .i64 0 :: .int .i64 0 :: .int .i64 0 :: .int .i64 0 :: .int .i64 0 :: .int .i64 0 :: .int .i64 0 :: .int .i64 0 :: .int .i64 0 :: .int .i64 0 :: .int .i64 0 :: .int .i64 0 :: .int .i64 0 :: .int .i64 0 :: .int .i64 0 :: .int .i64 0 :: .int .i64 0 :: .int .i64 0 :: .int .i64 0 :: .int .i64 0 :: .int .i64 0 :: .int .i64 0 :: .int .i64 0 :: .int .i64 0 :: .int .i64 0 :: .int .i64 0 :: .int .i64 0 :: .int .i64 0 :: .int .i64 0 :: .int .i64 0 :: .int .i64 0 :: .int .i64 0 :: .int .i64 0 :: .int .i64 0 :: .int .i64 0 :: []).toArray 41)) (.cells (.int .i64 0 :: .int .i64 0 :: .int .i64 0 :: .int .i64 0 :: .int .i64 0 :: .int .i64 0 :: .bool false :: .bool false :: .int .i64 0 :: .int .i64 0 :: .int .i64 0 :: .int .i64 0 :: .int .i64 0 :: .int .i64 0 :: .int .i64 0 :: .int .i64 0 :: .int .i64 0 :: .int .i64 0 :: .int .i64 0 :: .int .i64 0 :: .int .i64 0 :: .int .i64 0 :: .int .i64 0 :: .int .i64 0 :: .int .i64 0 :: .int .i64 0 :: .int .i64 0 :: .int .i64 0 :: .int .i64 0 :: .int .i64 0 :: .int .i64 0 :: .int .i64 0 :: .int .i64 0 :: .int .i64 0 :: .int .i64 0 :: .int .i64 0 :: .int .i64 0 :: .int .i64 0 :: .int .i64 0 :: .int .i64 0 :: .int .i64 0 :: .int .i64 0 :: .int .i64 0 :: .int .i64 0 :: .int .i64 0 :: .int .i64 0 :: .int .i64 0 :: .int .i64 0 :: .int .i64 0 :: .int .i64 0 :: .int .i64 0 :: .int .i64 0 :: .int .i64 0 :: .int .i64 0 :: .int .i64 0 :: .int .i64 0 :: .int .i64 0 :: .int .i64 0 :: .int .i64 0 :: .int .i64 0 :: []).toArray 41)
  have hR := hp_on (hp_new (w.alloc (.cells (sCells f) 154)) (.cells (.int .i64 0 :: .int .i64 0 :: .int .i64 0 :: .int .i64 0 :: .int .i64 0 :: .int .i64 0 :: .bool false :: .bool false :: .int .i64 0 :: .int .i64 0 :: .int .i64 0 :: .int .i64 0 :: .int .i64 0 :: .int .i64 0 :: .int .i64 0 :: .int .i64 0 :: .int .i64 0 :: .int .i64 0 :: .int .i64 0 :: .int .i64 0 :: .int .i64 0 :: .int .i64 0 :: .int .i64 0 :: .int .i64 0 :: .int .i64 0 :: .int .i64 0 :: .int .i64 0 :: .int .i64 0 :: .int .i64 0 :: .int .i64 0 :: .int .i64 0 :: .int .i64 0 :: .int .i64 0 :: .int .i64 0 :: .int .i64 0 :: .int .i64 0 :: .int .i64 0 :: .int .i64 0 :: .int .i64 0 :: .int .i64 0 :: .int .i64 0 :: .int .i64 0 :: .int .i64 0 :: .int .i64 0 :: .int .i64 0 :: .int .i64 0 :: .int .i64 0 :: .int .i64 0 :: .int .i64 0 :: .int .i64 0 :: .int .i64 0 :: .int .i64 0 :: .int .i64 0 :: .int .i64 0 :: .int .i64 0 :: .int .i64 0 :: .int .i64 0 :: .int .i64 0 :: .int .i64 0 :: .int .i64 0 :: []).toArray 41)) (.cells (.int .i64 0 :: .int .i64 0 :: .int .i64 0 :: .int .i64 0 :: .int .i64 0 :: .int .i64 0 :: .bool false :: .bool false :: .int .i64 0 :: .int .i64 0 :: .int .i64 0 :: .int .i64 0 :: .int .i64 0 :: .int .i64 0 :: .int .i64 0 :: .int .i64 0 :: .int .i64 0 :: .int .i64 0 :: .int .i64 0 :: .int .i64 0 :: .int .i64 0 :: .int .i64 0 :: .int .i64 0 :: .int .i64 0 :: .int .i64 0 :: .int .i64 0 :: .int .i64 0 :: .int .i64 0 :: .int .i64 0 :: .int .i64 0 :: .int .i64 0 :: .int .i64 0 :: .int .i64 0 :: .int .i64 0 :: .int .i64 0 :: .int .i64 0 :: .int .i64 0 :: .int .i64 0 :: .int .i64 0 :: .int .i64 0 :: .int .i64 0 :: .int .i64 0 :: .int .i64 0 :: .int .i64 0 :: .int .i64 0 :: .int .i64 0 :: .int .i64 0 :: .int .i64 0 :: .int .i64 0 :: .int .i64 0 :: .int .i64 0 :: .int .i64 0 :: .int .i64 0 :: .int .i64 0 :: .int .i64 0 :: .int .i64 0 :: .int .i64 0 :: .int .i64 0 :: .int .i64 0 :: .int .i64 0 :: []).toArray 41)
  have hO := hp_new ((w.alloc (.cells (sCells f) 154)).alloc (.cells (.int .i64 0 :: .int .i64 0 :: .int .i64 0 :: .int .i64 0 :: .int .i64 0 :: .int .i64 0 :: .bool false :: .bool false :: .int .i64 0 :: .int .i64 0 :: .int .i64 0 :: .int .i64 0 :: .int .i64 0 :: .int .i64 0 :: .int .i64 0 :: .int .i64 0 :: .int .i64 0 :: .int .i64 0 :: .int .i64 0 :: .int .i64 0 :: .int .i64 0 :: .int .i64 0 :: .int .i64 0 :: .int .i64 0 :: .int .i64 0 :: .int .i64 0 :: .int .i64 0 :: .int .i64 0 :: .int .i64 0 :: .int .i64 0 :: .int .i64 0 :: .int .i64 0 :: .int .i64 0 :: .int .i64 0 :: .int .i64 0 :: .int .i64 0 :: .int .i64 0 :: .int .i64 0 :: .int .i64 0 :: .int .i64 0 :: .int .i64 0 :: .int .i64 0 :: .int .i64 0 :: .int .i64 0 :: .int .i64 0 :: .int .i64 0 :: .int .i64 0 :: .int .i64 0 :: .int .i64 0 :: .int .i64 0 :: .int .i64 0 :: .int .i64 0 :: .int .i64 0 :: .int .i64 0 :: .int .i64 0 :: .int .i64 0 :: .int .i64 0 :: .int .i64 0 :: .int .i64 0 :: .int .i64 0 :: []).toArray 41)) (.cells (.int .i64 0 :: .int .i64 0 :: .int .i64 0 :: .int .i64 0 :: .int .i64 0 :: .int .i64 0 :: .bool false :: .bool false :: .int .i64 0 :: .int .i64 0 :: .int .i64 0 :: .int .i64 0 :: .int .i64 0 :: .int .i64 0 :: .int .i64 0 :: .int .i64 0 :: .int .i64 0 :: .int .i64 0 :: .int .i64 0 :: .int .i64 0 :: .int .i64 0 :: .int .i64 0 :: .int .i64 0 :: .int .i64 0 :: .int .i64 0 :: .int .i64 0 :: .int .i64 0 :: .int .i64 0 :: .int .i64 0 :: .int .i64 0 :: .int .i64 0 :: .int .i64 0 :: .int .i64 0 :: .int .i64 0 :: .int .i64 0 :: .int .i64 0 :: .int .i64 0 :: .int .i64 0 :: .int .i64 0 :: .int .i64 0 :: .int .i64 0 :: .int .i64 0 :: .int .i64 0 :: .int .i64 0 :: .int .i64 0 :: .int .i64 0 :: .int .i64 0 :: .int .i64 0 :: .int .i64 0 :: .int .i64 0 :: .int .i64 0 :: .int .i64 0 :: .int .i64 0 :: .int .i64 0 :: .int .i64 0 :: .int .i64 0 :: .int .i64 0 :: .int .i64 0 :: .int .i64 0 :: .int .i64 0 :: []).toArray 41)
  have bb := Go.Joins.below_alloc3 w (.cells (sCells f) 154) (.cells (.int .i64 0 :: .int .i64 0 :: .int .i64 0 :: .int .i64 0 :: .int .i64 0 :: .int .i64 0 :: .bool false :: .bool false :: .int .i64 0 :: .int .i64 0 :: .int .i64 0 :: .int .i64 0 :: .int .i64 0 :: .int .i64 0 :: .int .i64 0 :: .int .i64 0 :: .int .i64 0 :: .int .i64 0 :: .int .i64 0 :: .int .i64 0 :: .int .i64 0 :: .int .i64 0 :: .int .i64 0 :: .int .i64 0 :: .int .i64 0 :: .int .i64 0 :: .int .i64 0 :: .int .i64 0 :: .int .i64 0 :: .int .i64 0 :: .int .i64 0 :: .int .i64 0 :: .int .i64 0 :: .int .i64 0 :: .int .i64 0 :: .int .i64 0 :: .int .i64 0 :: .int .i64 0 :: .int .i64 0 :: .int .i64 0 :: .int .i64 0 :: .int .i64 0 :: .int .i64 0 :: .int .i64 0 :: .int .i64 0 :: .int .i64 0 :: .int .i64 0 :: .int .i64 0 :: .int .i64 0 :: .int .i64 0 :: .int .i64 0 :: .int .i64 0 :: .int .i64 0 :: .int .i64 0 :: .int .i64 0 :: .int .i64 0 :: .int .i64 0 :: .int .i64 0 :: .int .i64 0 :: .int .i64 0 :: []).toArray 41) (.cells (.int .i64 0 :: .int .i64 0 :: .int .i64 0 :: .int .i64 0 :: .int .i64 0 :: .int .i64 0 :: .bool false :: .bool false :: .int .i64 0 :: .int .i64 0 :: .int .i64 0 :: .int .i64 0 :: .int .i64 0 :: .int .i64 0 :: .int .i64 0 :: .int .i64 0 :: .int .i64 0 :: .int .i64 0 :: .int .i64 0 :: .int .i64 0 :: .int .i64 0 :: .int .i64 0 :: .int .i64 0 :: .int .i64 0 :: .int .i64 0 :: .int .i64 0 :: .int .i64 0 :: .int .i64 0 :: .int .i64 0 :: .int .i64 0 :: .int .i64 0 :: .int .i64 0 :: .int .i64 0 :: .int .i64 0 :: .int .i64 0 :: .int .i64 0 :: .int .i64 0 :: .int .i64 0 :: .int .i64 0 :: .int .i64 0 :: .int .i64 0 :: .int .i64 0 :: .int .i64 0 :: .int .i64 0 :: .int .i64 0 :: .int .i64 0 :: .int .i64 0 :: .int .i64 0 :: .int .i64 0 :: .int .i64 0 :: .int .i64 0 :: .int .i64 0 :: .int .i64 0 :: .int .i64 0 :: .int .i64 0 :: .int .i64 0 :: .int .i64 0 :: .int .i64 0 :: .int .i64 0 :: .int .i64 0 :: []).toArray 41)
  simp only [World.size_alloc] at hA hR hO
  obtain ⟨u, eu⟩ : ∃ u, u = ((w.alloc (.cells (sCells f) 154)).alloc (.cells (.int .i64 0 :: .int .i64 0 :: .int .i64 0 :: .int .i64 0 :: .int .i64 0 :: .int .i64 0 :: .bool false :: .bool false :: .int .i64 0 :: .int .i64 0 :: .int .i64 0 :: .int .i64 0 :: .int .i64 0 :: .int .i64 0 :: .int .i64 0 :: .int .i64 0 :: .int .i64 0 :: .int .i64 0 :: .int .i64 0 :: .int .i64 0 :: .int .i64 0 :: .int .i64 0 :: .int .i64 0 :: .int .i64 0 :: .int .i64 0 :: .int .i64 0 :: .int .i64 0 :: .int .i64 0 :: .int .i64 0 :: .int .i64 0 :: .int .i64 0 :: .int .i64 0 :: .int .i64 0 :: .int .i64 0 :: .int .i64 0 :: .int .i64 0 :: .int .i64 0 :: .int .i64 0 :: .int .i64 0 :: .int .i64 0 :: .int .i64 0 :: .int .i64 0 :: .int .i64 0 :: .int .i64 0 :: .int .i64 0 :: .int .i64 0 :: .int .i64 0 :: .int .i64 0 :: .int .i64 0 :: .int .i64 0 :: .int .i64 0 :: .int .i64 0 :: .int .i64 0 :: .int .i64 0 :: .int .i64 0 :: .int .i64 0 :: .int .i64 0 :: .int .i64 0 :: .int .i64 0 :: .int .i64 0 :: []).toArray 41)).alloc (.cells (.int .i64 0 :: .int .i64 0 :: .int .i64 0 :: .int .i64 0 :: .int .i64 0 :: .int .i64 0 :: .bool false :: .bool false :: .int .i64 0 :: .int .i64 0 :: .int .i64 0 :: .int .i64 0 :: .int .i64 0 :: .int .i64 0 :: .int .i64 0 :: .int .i64 0 :: .int .i64 0 :: .int .i64 0 :: .int .i64 0 :: .int .i64 0 :: .int .i64 0 :: .int .i64 0 :: .int .i64 0 :: .int .i64 0 :: .int .i64 0 :: .int .i64 0 :: .int .i64 0 :: .int .i64 0 :: .int .i64 0 :: .int .i64 0 :: .int .i64 0 :: .int .i64 0 :: .int .i64 0 :: .int .i64 0 :: .int .i64 0 :: .int .i64 0 :: .int .i64 0 :: .int .i64 0 :: .int .i64 0 :: .int .i64 0 :: .int .i64 0 :: .int .i64 0 :: .int .i64 0 :: .int .i64 0 :: .int .i64 0 :: .int .i64 0 :: .int .i64 0 :: .int .i64 0 :: .int .i64 0 :: .int .i64 0 :: .int .i64 0 :: .int .i64 0 :: .int .i64 0 :: .int .i64 0 :: .int .i64 0 :: .int .i64 0 :: .int .i64 0 :: .int .i64 0 :: .int .i64 0 :: .int .i64 0 :: []).toArray 41) := ⟨_, rfl⟩
  rw [← eu] at hA hR hO bb
  have EU := Lib.hid eu
  clear eu
  rw [zero_sty] at hR hO
  rw [cut_zero f] at hO
  go_enter Try.func154, Try.ntmps154
  have c0 := sty_int hA 0 (by decide)
  have c1 := sty_int hA 1 (by decide)
  have c2 := sty_int hA 2 (by decide)
  have c3 := sty_int hA 3 (by decide)
  have c4 := sty_int hA 4 (by decide)
  have c5 := sty_int hA 5 (by decide)
  have c6 := sty_bool hA 6 (by decide)
  have c7 := sty_bool hA 7 (by decide)
  have c8 := sty_int hA 8 (by decide)
  have c9 := sty_int hA 9 (by decide)
  have c10 := sty_int hA 10 (by decide)
  have c11 := sty_int hA 11 (by decide)
  have c12 := sty_int hA 12 (by decide)
  have z0 := sty_int hO 0 (by decide)
  have F0 := sty_free hO 0
  have z1 := sty_int hO 1 (by decide)
  have F1 := sty_free hO 1
  have z2 := sty_int hO 2 (by decide)
  have F2 := sty_free hO 2
  have z3 := sty_int hO 3 (by decide)
  have F3 := sty_free hO 3
  have z4 := sty_int hO 4 (by decide)
  have F4 := sty_free hO 4
  have z5 := sty_int hO 5 (by decide)
  have F5 := sty_free hO 5
  have z6 := sty_bool hO 6 (by decide)
  have F6 := sty_free hO 6
  have z7 := sty_bool hO 7 (by decide)
  have F7 := sty_free hO 7
  have z8 := sty_int hO 8 (by decide)
  have F8 := sty_free hO 8
  have z9 := sty_int hO 9 (by decide)
  have F9 := sty_free hO 9
  have z10 := sty_int hO 10 (by decide)
  have F10 := sty_free hO 10
  have HO := Lib.hid hO
  have HR := Lib.hid hR
  have HA := Lib.hid hA
  clear hO hR hA
  go_wp2_with (rw [← EU.out])
  clear EU
  clear c0 c1 c2 c3 c4 c5 c6 c7 c8 c9 c10 c11 c12 z0 F0 z1 F1 z2 F2 z3 F3 z4 F4 z5 F5 z6 F6 z7 F7 z8 F8 z9 F9 z10 F10
  have hO := (sty_step (sty_step (sty_step (sty_step (sty_step (sty_step (sty_step (sty_step (sty_step (sty_step (sty_step HO.out (.int .i64 (f 0)) (by decide) (by simp [sCell])) (.int .i64 (f 1)) (by decide) (by simp [sCell])) (.int .i64 (f 2)) (by decide) (by simp [sCell])) (.int .i64 (f 3)) (by decide) (by simp [sCell])) (.int .i64 (f 4)) (by decide) (by simp [sCell])) (.int .i64 (f 5)) (by decide) (by simp [sCell])) (.bool (bz (f 6))) (by decide) (by simp [sCell])) (.bool (bz (f 7))) (by decide) (by simp [sCell])) (.int .i64 (f 8)) (by decide) (by simp [sCell])) (.int .i64 (f 9)) (by decide) (by simp [sCell])) (.int .i64 (f 10)) (by decide) (by simp [sCell]))
  have hA := (hp_set (g' := w.heap.size + 1 + 1) (hp_set (g' := w.heap.size + 1 + 1) (hp_set (g' := w.heap.size + 1 + 1) (hp_set (g' := w.heap.size + 1 + 1) (hp_set (g' := w.heap.size + 1 + 1) (hp_set (g' := w.heap.size + 1 + 1) (hp_set (g' := w.heap.size + 1 + 1) (hp_set (g' := w.heap.size + 1 + 1) (hp_set (g' := w.heap.size + 1 + 1) (hp_set (g' := w.heap.size + 1 + 1) (hp_set (g' := w.heap.size + 1 + 1) HA.out (by omega) 0 (.int .i64 (f 0))) (by omega) 1 (.int .i64 (f 1))) (by omega) 2 (.int .i64 (f 2))) (by omega) 3 (.int .i64 (f 3))) (by omega) 4 (.int .i64 (f 4))) (by omega) 5 (.int .i64 (f 5))) (by omega) 6 (.bool (bz (f 6)))) (by omega) 7 (.bool (bz (f 7)))) (by omega) 8 (.int .i64 (f 8))) (by omega) 9 (.int .i64 (f 9))) (by omega) 10 (.int .i64 (f 10)))
  have hR := (hp_set (g' := w.heap.size + 1 + 1) (hp_set (g' := w.heap.size + 1 + 1) (hp_set (g' := w.heap.size + 1 + 1) (hp_set (g' := w.heap.size + 1 + 1) (hp_set (g' := w.heap.size + 1 + 1) (hp_set (g' := w.heap.size + 1 + 1) (hp_set (g' := w.heap.size + 1 + 1) (hp_set (g' := w.heap.size + 1 + 1) (hp_set (g' := w.heap.size + 1 + 1) (hp_set (g' := w.heap.size + 1 + 1) (hp_set (g' := w.heap.size + 1 + 1) HR.out (by omega) 0 (.int .i64 (f 0))) (by omega) 1 (.int .i64 (f 1))) (by omega) 2 (.int .i64 (f 2))) (by omega) 3 (.int .i64 (f 3))) (by omega) 4 (.int .i64 (f 4))) (by omega) 5 (.int .i64 (f 5))) (by omega) 6 (.bool (bz (f 6)))) (by omega) 7 (.bool (bz (f 7)))) (by omega) 8 (.int .i64 (f 8))) (by omega) 9 (.int .i64 (f 9))) (by omega) 10 (.int .i64 (f 10)))
  replace bb := (bl_set (bl_set (bl_set (bl_set (bl_set (bl_set (bl_set (bl_set (bl_set (bl_set (bl_set bb (g := w.heap.size + 1 + 1) 0 (by omega) (.int .i64 (f 0))) (g := w.heap.size + 1 + 1) 1 (by omega) (.int .i64 (f 1))) (g := w.heap.size + 1 + 1) 2 (by omega) (.int .i64 (f 2))) (g := w.heap.size + 1 + 1) 3 (by omega) (.int .i64 (f 3))) (g := w.heap.size + 1 + 1) 4 (by omega) (.int .i64 (f 4))) (g := w.heap.size + 1 + 1) 5 (by omega) (.int .i64 (f 5))) (g := w.heap.size + 1 + 1) 6 (by omega) (.bool (bz (f 6)))) (g := w.heap.size + 1 + 1) 7 (by omega) (.bool (bz (f 7)))) (g := w.heap.size + 1 + 1) 8 (by omega) (.int .i64 (f 8))) (g := w.heap.size + 1 + 1) 9 (by omega) (.int .i64 (f 9))) (g := w.heap.size + 1 + 1) 10 (by omega) (.int .i64 (f 10)))
  clear HO HA HR
  generalize (((((((((((u).setCell ⟨w.heap.size + 1 + 1, 0, none⟩ (.int .i64 (f 0))).setCell ⟨w.heap.size + 1 + 1, 1, none⟩ (.int .i64 (f 1))).setCell ⟨w.heap.size + 1 + 1, 2, none⟩ (.int .i64 (f 2))).setCell ⟨w.heap.size + 1 + 1, 3, none⟩ (.int .i64 (f 3))).setCell ⟨w.heap.size + 1 + 1, 4, none⟩ (.int .i64 (f 4))).setCell ⟨w.heap.size + 1 + 1, 5, none⟩ (.int .i64 (f 5))).setCell ⟨w.heap.size + 1 + 1, 6, none⟩ (.bool (bz (f 6)))).setCell ⟨w.heap.size + 1 + 1, 7, none⟩ (.bool (bz (f 7)))).setCell ⟨w.heap.size + 1 + 1, 8, none⟩ (.int .i64 (f 8))).setCell ⟨w.heap.size + 1 + 1, 9, none⟩ (.int .i64 (f 9))).setCell ⟨w.heap.size + 1 + 1, 10, none⟩ (.int .i64 (f 10)) = u0 at *
  simp only [Nat.reduceAdd] at hO
  refine (toVal (f 11) (f 12) _).mono ?_
  rintro e v0 ⟨rfl, b0⟩
  replace hA := hp_below hA b0
  replace hR := hp_below hR b0
  replace hO := hp_below hO b0
  replace bb := bb.trans (b0.mono bb.size)
  clear b0
  have c13 := sty_int hA 13 (by decide)
  have c14 := sty_int hA 14 (by decide)
  have z11 := sty_int hO 11 (by decide)
  have F11 := sty_free hO 11
  have z12 := sty_int hO 12 (by decide)
  have F12 := sty_free hO 12
  have HO := Lib.hid hO
  have HR := Lib.hid hR
  have HA := Lib.hid hA
  clear hO hR hA
  go_wp2_with (fail)
  clear c13 c14 z11 F11 z12 F12
  have hO := (sty_step (sty_step HO.out (.int .i64 (f 11)) (by decide) (by simp [sCell])) (.int .i64 (f 12)) (by decide) (by simp [sCell]))
  have hA := (hp_set (g' := w.heap.size + 1 + 1) (hp_set (g' := w.heap.size + 1 + 1) HA.out (by omega) 11 (.int .i64 (f 11))) (by omega) 12 (.int .i64 (f 12)))
  have hR := (hp_set (g' := w.heap.size + 1 + 1) (hp_set (g' := w.heap.size + 1 + 1) HR.out (by omega) 11 (.int .i64 (f 11))) (by omega) 12 (.int .i64 (f 12)))
  replace bb := (bl_set (bl_set bb (g := w.heap.size + 1 + 1) 11 (by omega) (.int .i64 (f 11))) (g := w.heap.size + 1 + 1) 12 (by omega) (.int .i64 (f 12)))
  clear HO HA HR
  generalize ((v0).setCell ⟨w.heap.size + 1 + 1, 11, none⟩ (.int .i64 (f 11))).setCell ⟨w.heap.size + 1 + 1, 12, none⟩ (.int .i64 (f 12)) = u1 at *
  simp only [Nat.reduceAdd] at hO
  refine (toVal (f 13) (f 14) _).mono ?_
  rintro e v1 ⟨rfl, b1⟩
  replace hA := hp_below hA b1
  replace hR := hp_below hR b1
  replace hO := hp_below hO b1
  replace bb := bb.trans (b1.mono bb.size)
  clear b1
  have c15 := sty_int hA 15 (by decide)
  have c16 := sty_int hA 16 (by decide)
  have z13 := sty_int hO 13 (by decide)
  have F13 := sty_free hO 13
  have z14 := sty_int hO 14 (by decide)
  have F14 := sty_free hO 14
  have HO := Lib.hid hO
  have HR := Lib.hid hR
  have HA := Lib.hid hA
  clear hO hR hA
  go_wp2_with (fail)
  clear c15 c16 z13 F13 z14 F14
  have hO := (sty_step (sty_step HO.out (.int .i64 (f 13)) (by decide) (by simp [sCell])) (.int .i64 (f 14)) (by decide) (by simp [sCell]))
  have hA := (hp_set (g' := w.heap.size + 1 + 1) (hp_set (g' := w.heap.size + 1 + 1) HA.out (by omega) 13 (.int .i64 (f 13))) (by omega) 14 (.int .i64 (f 14)))
  have hR := (hp_set (g' := w.heap.size + 1 + 1) (hp_set (g' := w.heap.size + 1 + 1) HR.out (by omega) 13 (.int .i64 (f 13))) (by omega) 14 (.int .i64 (f 14)))
  replace bb := (bl_set (bl_set bb (g := w.heap.size + 1 + 1) 13 (by omega) (.int .i64 (f 13))) (g := w.heap.size + 1 + 1) 14 (by omega) (.int .i64 (f 14)))
  clear HO HA HR
  generalize ((v1).setCell ⟨w.heap.size + 1 + 1, 13, none⟩ (.int .i64 (f 13))).setCell ⟨w.heap.size + 1 + 1, 14, none⟩ (.int .i64 (f 14)) = u2 at *
  simp only [Nat.reduceAdd] at hO
  refine (toVal (f 15) (f 16) _).mono ?_
  rintro e v2 ⟨rfl, b2⟩
  replace hA := hp_below hA b2
  replace hR := hp_below hR b2
  replace hO := hp_below hO b2
  replace bb := bb.trans (b2.mono bb.size)
  clear b2
  have c17 := sty_int hA 17 (by decide)
  have c18 := sty_int hA 18 (by decide)
  have z15 := sty_int hO 15 (by decide)
  have F15 := sty_free hO 15
  have z16 := sty_int hO 16 (by decide)
  have F16 := sty_free hO 16
  have HO := Lib.hid hO
  have HR := Lib.hid hR
  have HA := Lib.hid hA
  clear hO hR hA
  go_wp2_with (fail)
  clear c17 c18 z15 F15 z16 F16
  have hO := (sty_step (sty_step HO.out (.int .i64 (f 15)) (by decide) (by simp [sCell])) (.int .i64 (f 16)) (by decide) (by simp [sCell]))
  have hA := (hp_set (g' := w.heap.size + 1 + 1) (hp_set (g' := w.heap.size + 1 + 1) HA.out (by omega) 15 (.int .i64 (f 15))) (by omega) 16 (.int .i64 (f 16)))
  have hR := (hp_set (g' := w.heap.size + 1 + 1) (hp_set (g' := w.heap.size + 1 + 1) HR.out (by omega) 15 (.int .i64 (f 15))) (by omega) 16 (.int .i64 (f 16)))
  replace bb := (bl_set (bl_set bb (g := w.heap.size + 1 + 1) 15 (by omega) (.int .i64 (f 15))) (g := w.heap.size + 1 + 1) 16 (by omega) (.int .i64 (f 16)))
  clear HO HA HR
  generalize ((v2).setCell ⟨w.heap.size + 1 + 1, 15, none⟩ (.int .i64 (f 15))).setCell ⟨w.heap.size + 1 + 1, 16, none⟩ (.int .i64 (f 16)) = u3 at *
  simp only [Nat.reduceAdd] at hO
  refine (toVal (f 17) (f 18) _).mono ?_
  rintro e v3 ⟨rfl, b3⟩
  replace hA := hp_below hA b3
  replace hR := hp_below hR b3
  replace hO := hp_below hO b3
  replace bb := bb.trans (b3.mono bb.size)
  clear b3
  have c19 := sty_int hA 19 (by decide)
  have c20 := sty_int hA 20 (by decide)
  have z17 := sty_int hO 17 (by decide)
  have F17 := sty_free hO 17
  have z18 := sty_int hO 18 (by decide)
  have F18 := sty_free hO 18
  have HO := Lib.hid hO
  have HR := Lib.hid hR
  have HA := Lib.hid hA
  clear hO hR hA
  go_wp2_with (fail)
  clear c19 c20 z17 F17 z18 F18
  have hO := (sty_step (sty_step HO.out (.int .i64 (f 17)) (by decide) (by simp [sCell])) (.int .i64 (f 18)) (by decide) (by simp [sCell]))
  have hA := (hp_set (g' := w.heap.size + 1 + 1) (hp_set (g' := w.heap.size + 1 + 1) HA.out (by omega) 17 (.int .i64 (f 17))) (by omega) 18 (.int .i64 (f 18)))
  have hR := (hp_set (g' := w.heap.size + 1 + 1) (hp_set (g' := w.heap.size + 1 + 1) HR.out (by omega) 17 (.int .i64 (f 17))) (by omega) 18 (.int .i64 (f 18)))
  replace bb := (bl_set (bl_set bb (g := w.heap.size + 1 + 1) 17 (by omega) (.int .i64 (f 17))) (g := w.heap.size + 1 + 1) 18 (by omega) (.int .i64 (f 18)))
  clear HO HA HR
  generalize ((v3).setCell ⟨w.heap.size + 1 + 1, 17, none⟩ (.int .i64 (f 17))).setCell ⟨w.heap.size + 1 + 1, 18, none⟩ (.int .i64 (f 18)) = u4 at *
  simp only [Nat.reduceAdd] at hO
  refine (toVal (f 19) (f 20) _).mono ?_
  rintro e v4 ⟨rfl, b4⟩
  replace hA := hp_below hA b4
  replace hR := hp_below hR b4
  replace hO := hp_below hO b4
  replace bb := bb.trans (b4.mono bb.size)
  clear b4
  have c21 := sty_int hA 21 (by decide)
  have c22 := sty_int hA 22 (by decide)
  have z19 := sty_int hO 19 (by decide)
  have F19 := sty_free hO 19
  have z20 := sty_int hO 20 (by decide)
  have F20 := sty_free hO 20
  have HO := Lib.hid hO
  have HR := Lib.hid hR
  have HA := Lib.hid hA
  clear hO hR hA
  go_wp2_with (fail)
  clear c21 c22 z19 F19 z20 F20
  have hO := (sty_step (sty_step HO.out (.int .i64 (f 19)) (by decide) (by simp [sCell])) (.int .i64 (f 20)) (by decide) (by simp [sCell]))
  have hA := (hp_set (g' := w.heap.size + 1 + 1) (hp_set (g' := w.heap.size + 1 + 1) HA.out (by omega) 19 (.int .i64 (f 19))) (by omega) 20 (.int .i64 (f 20)))
  have hR := (hp_set (g' := w.heap.size + 1 + 1) (hp_set (g' := w.heap.size + 1 + 1) HR.out (by omega) 19 (.int .i64 (f 19))) (by omega) 20 (.int .i64 (f 20)))
  replace bb := (bl_set (bl_set bb (g := w.heap.size + 1 + 1) 19 (by omega) (.int .i64 (f 19))) (g := w.heap.size + 1 + 1) 20 (by omega) (.int .i64 (f 20)))
  clear HO HA HR
  generalize ((v4).setCell ⟨w.heap.size + 1 + 1, 19, none⟩ (.int .i64 (f 19))).setCell ⟨w.heap.size + 1 + 1, 20, none⟩ (.int .i64 (f 20)) = u5 at *
  simp only [Nat.reduceAdd] at hO
  refine (toVal (f 21) (f 22) _).mono ?_
  rintro e v5 ⟨rfl, b5⟩
  replace hA := hp_below hA b5
  replace hR := hp_below hR b5
  replace hO := hp_below hO b5
  replace bb := bb.trans (b5.mono bb.size)
  clear b5
  have c23 := sty_int hA 23 (by decide)
  have c24 := sty_int hA 24 (by decide)
  have z21 := sty_int hO 21 (by decide)
  have F21 := sty_free hO 21
  have z22 := sty_int hO 22 (by decide)
  have F22 := sty_free hO 22
  have HO := Lib.hid hO
  have HR := Lib.hid hR
  have HA := Lib.hid hA
  clear hO hR hA
  go_wp2_with (fail)
  clear c23 c24 z21 F21 z22 F22
  have hO := (sty_step (sty_step HO.out (.int .i64 (f 21)) (by decide) (by simp [sCell])) (.int .i64 (f 22)) (by decide) (by simp [sCell]))
  have hA := (hp_set (g' := w.heap.size + 1 + 1) (hp_set (g' := w.heap.size + 1 + 1) HA.out (by omega) 21 (.int .i64 (f 21))) (by omega) 22 (.int .i64 (f 22)))
  have hR := (hp_set (g' := w.heap.size + 1 + 1) (hp_set (g' := w.heap.size + 1 + 1) HR.out (by omega) 21 (.int .i64 (f 21))) (by omega) 22 (.int .i64 (f 22)))
  replace bb := (bl_set (bl_set bb (g := w.heap.size + 1 + 1) 21 (by omega) (.int .i64 (f 21))) (g := w.heap.size + 1 + 1) 22 (by omega) (.int .i64 (f 22)))
  clear HO HA HR
  generalize ((v5).setCell ⟨w.heap.size + 1 + 1, 21, none⟩ (.int .i64 (f 21))).setCell ⟨w.heap.size + 1 + 1, 22, none⟩ (.int .i64 (f 22)) = u6 at *
  simp only [Nat.reduceAdd] at hO
  refine (toVal (f 23) (f 24) _).mono ?_
  rintro e v6 ⟨rfl, b6⟩
  replace hA := hp_below hA b6
  replace hR := hp_below hR b6
  replace hO := hp_below hO b6
  replace bb := bb.trans (b6.mono bb.size)
  clear b6
  have c25 := sty_int hA 25 (by decide)
  have c26 := sty_int hA 26 (by decide)
  have c27 := sty_int hA 27 (by decide)
  have c28 := sty_int hA 28 (by decide)
  have c29 := sty_int hA 29 (by decide)
  have c30 := sty_int hA 30 (by decide)
  have c31 := sty_int hA 31 (by decide)
  have c32 := sty_int hA 32 (by decide)
  have c33 := sty_int hA 33 (by decide)
  have c34 := sty_int hA 34 (by decide)
  have c35 := sty_int hA 35 (by decide)
  have c36 := sty_int hA 36 (by decide)
  have c37 := sty_int hA 37 (by decide)
  have z23 := sty_int hO 23 (by decide)
  have F23 := sty_free hO 23
  have z24 := sty_int hO 24 (by decide)
  have F24 := sty_free hO 24
  have z25 := sty_int hO 25 (by decide)
  have F25 := sty_free hO 25
  have HO := Lib.hid hO
  have HR := Lib.hid hR
  have HA := Lib.hid hA
  clear hO hR hA
  go_wp2_with (fail)
  clear c25 c26 c27 c28 c29 c30 c31 c32 c33 c34 c35 c36 c37 z23 F23 z24 F24 z25 F25
  have hO := (sty_step (sty_step (sty_step HO.out (.int .i64 (f 23)) (by decide) (by simp [sCell])) (.int .i64 (f 24)) (by decide) (by simp [sCell])) (.int .i64 (f 25)) (by decide) (by simp [sCell]))
  have hA := (hp_set (g' := w.heap.size + 1 + 1) (hp_set (g' := w.heap.size + 1 + 1) (hp_set (g' := w.heap.size + 1 + 1) HA.out (by omega) 23 (.int .i64 (f 23))) (by omega) 24 (.int .i64 (f 24))) (by omega) 25 (.int .i64 (f 25)))
  have hR := (hp_set (g' := w.heap.size + 1 + 1) (hp_set (g' := w.heap.size + 1 + 1) (hp_set (g' := w.heap.size + 1 + 1) HR.out (by omega) 23 (.int .i64 (f 23))) (by omega) 24 (.int .i64 (f 24))) (by omega) 25 (.int .i64 (f 25)))
  replace bb := (bl_set (bl_set (bl_set bb (g := w.heap.size + 1 + 1) 23 (by omega) (.int .i64 (f 23))) (g := w.heap.size + 1 + 1) 24 (by omega) (.int .i64 (f 24))) (g := w.heap.size + 1 + 1) 25 (by omega) (.int .i64 (f 25)))
  clear HO HA HR
  generalize (((v6).setCell ⟨w.heap.size + 1 + 1, 23, none⟩ (.int .i64 (f 23))).setCell ⟨w.heap.size + 1 + 1, 24, none⟩ (.int .i64 (f 24))).setCell ⟨w.heap.size + 1 + 1, 25, none⟩ (.int .i64 (f 25)) = u7 at *
  simp only [Nat.reduceAdd] at hO
  refine (toSid (f 26) (f 27) (f 28) (f 29) (f 30) (f 31) (f 32) (f 33) (f 34) (f 35) (f 36) (f 37) _).mono ?_
  rintro e v7 ⟨rfl, b7⟩
  replace hA := hp_below hA b7
  replace hR := hp_below hR b7
  replace hO := hp_below hO b7
  replace bb := bb.trans (b7.mono bb.size)
  clear b7
  have c38 := sty_int hA 38 (by decide)
  have c39 := sty_int hA 39 (by decide)
  have c40 := sty_int hA 40 (by decide)
  have c41 := sty_int hA 41 (by decide)
  have c42 := sty_int hA 42 (by decide)
  have c43 := sty_int hA 43 (by decide)
  have c44 := sty_int hA 44 (by decide)
  have c45 := sty_int hA 45 (by decide)
  have c46 := sty_int hA 46 (by decide)
  have c47 := sty_int hA 47 (by decide)
  have c48 := sty_int hA 48 (by decide)
  have c49 := sty_int hA 49 (by decide)
  have z26 := sty_int hO 26 (by decide)
  have F26 := sty_free hO 26
  have z27 := sty_int hO 27 (by decide)
  have F27 := sty_free hO 27
  have z28 := sty_int hO 28 (by decide)
  have F28 := sty_free hO 28
  have z29 := sty_int hO 29 (by decide)
  have F29 := sty_free hO 29
  have z30 := sty_int hO 30 (by decide)
  have F30 := sty_free hO 30
  have z31 := sty_int hO 31 (by decide)
  have F31 := sty_free hO 31
  have z32 := sty_int hO 32 (by decide)
  have F32 := sty_free hO 32
  have z33 := sty_int hO 33 (by decide)
  have F33 := sty_free hO 33
  have z34 := sty_int hO 34 (by decide)
  have F34 := sty_free hO 34
  have z35 := sty_int hO 35 (by decide)
  have F35 := sty_free hO 35
  have z36 := sty_int hO 36 (by decide)
  have F36 := sty_free hO 36
  have z37 := sty_int hO 37 (by decide)
  have F37 := sty_free hO 37
  have HO := Lib.hid hO
  have HR := Lib.hid hR
  have HA := Lib.hid hA
  clear hO hR hA
  go_wp2_with (fail)
  clear c38 c39 c40 c41 c42 c43 c44 c45 c46 c47 c48 c49 z26 F26 z27 F27 z28 F28 z29 F29 z30 F30 z31 F31 z32 F32 z33 F33 z34 F34 z35 F35 z36 F36 z37 F37
  have hO := (sty_step (sty_step (sty_step (sty_step (sty_step (sty_step (sty_step (sty_step (sty_step (sty_step (sty_step (sty_step HO.out (.int .i64 (f 26)) (by decide) (by simp [sCell])) (.int .i64 (f 27)) (by decide) (by simp [sCell])) (.int .i64 (f 28)) (by decide) (by simp [sCell])) (.int .i64 (f 29)) (by decide) (by simp [sCell])) (.int .i64 (f 30)) (by decide) (by simp [sCell])) (.int .i64 (f 31)) (by decide) (by simp [sCell])) (.int .i64 (f 32)) (by decide) (by simp [sCell])) (.int .i64 (f 33)) (by decide) (by simp [sCell])) (.int .i64 (f 34)) (by decide) (by simp [sCell])) (.int .i64 (f 35)) (by decide) (by simp [sCell])) (.int .i64 (f 36)) (by decide) (by simp [sCell])) (.int .i64 (f 37)) (by decide) (by simp [sCell]))
  have hA := (hp_set (g' := w.heap.size + 1 + 1) (hp_set (g' := w.heap.size + 1 + 1) (hp_set (g' := w.heap.size + 1 + 1) (hp_set (g' := w.heap.size + 1 + 1) (hp_set (g' := w.heap.size + 1 + 1) (hp_set (g' := w.heap.size + 1 + 1) (hp_set (g' := w.heap.size + 1 + 1) (hp_set (g' := w.heap.size + 1 + 1) (hp_set (g' := w.heap.size + 1 + 1) (hp_set (g' := w.heap.size + 1 + 1) (hp_set (g' := w.heap.size + 1 + 1) (hp_set (g' := w.heap.size + 1 + 1) HA.out (by omega) 26 (.int .i64 (f 26))) (by omega) 27 (.int .i64 (f 27))) (by omega) 28 (.int .i64 (f 28))) (by omega) 29 (.int .i64 (f 29))) (by omega) 30 (.int .i64 (f 30))) (by omega) 31 (.int .i64 (f 31))) (by omega) 32 (.int .i64 (f 32))) (by omega) 33 (.int .i64 (f 33))) (by omega) 34 (.int .i64 (f 34))) (by omega) 35 (.int .i64 (f 35))) (by omega) 36 (.int .i64 (f 36))) (by omega) 37 (.int .i64 (f 37)))
  have hR := (hp_set (g' := w.heap.size + 1 + 1) (hp_set (g' := w.heap.size + 1 + 1) (hp_set (g' := w.heap.size + 1 + 1) (hp_set (g' := w.heap.size + 1 + 1) (hp_set (g' := w.heap.size + 1 + 1) (hp_set (g' := w.heap.size + 1 + 1) (hp_set (g' := w.heap.size + 1 + 1) (hp_set (g' := w.heap.size + 1 + 1) (hp_set (g' := w.heap.size + 1 + 1) (hp_set (g' := w.heap.size + 1 + 1) (hp_set (g' := w.heap.size + 1 + 1) (hp_set (g' := w.heap.size + 1 + 1) HR.out (by omega) 26 (.int .i64 (f 26))) (by omega) 27 (.int .i64 (f 27))) (by omega) 28 (.int .i64 (f 28))) (by omega) 29 (.int .i64 (f 29))) (by omega) 30 (.int .i64 (f 30))) (by omega) 31 (.int .i64 (f 31))) (by omega) 32 (.int .i64 (f 32))) (by omega) 33 (.int .i64 (f 33))) (by omega) 34 (.int .i64 (f 34))) (by omega) 35 (.int .i64 (f 35))) (by omega) 36 (.int .i64 (f 36))) (by omega) 37 (.int .i64 (f 37)))
  replace bb := (bl_set (bl_set (bl_set (bl_set (bl_set (bl_set (bl_set (bl_set (bl_set (bl_set (bl_set (bl_set bb (g := w.heap.size + 1 + 1) 26 (by omega) (.int .i64 (f 26))) (g := w.heap.size + 1 + 1) 27 (by omega) (.int .i64 (f 27))) (g := w.heap.size + 1 + 1) 28 (by omega) (.int .i64 (f 28))) (g := w.heap.size + 1 + 1) 29 (by omega) (.int .i64 (f 29))) (g := w.heap.size + 1 + 1) 30 (by omega) (.int .i64 (f 30))) (g := w.heap.size + 1 + 1) 31 (by omega) (.int .i64 (f 31))) (g := w.heap.size + 1 + 1) 32 (by omega) (.int .i64 (f 32))) (g := w.heap.size + 1 + 1) 33 (by omega) (.int .i64 (f 33))) (g := w.heap.size + 1 + 1) 34 (by omega) (.int .i64 (f 34))) (g := w.heap.size + 1 + 1) 35 (by omega) (.int .i64 (f 35))) (g := w.heap.size + 1 + 1) 36 (by omega) (.int .i64 (f 36))) (g := w.heap.size + 1 + 1) 37 (by omega) (.int .i64 (f 37)))
  clear HO HA HR
  generalize ((((((((((((v7).setCell ⟨w.heap.size + 1 + 1, 26, none⟩ (.int .i64 (f 26))).setCell ⟨w.heap.size + 1 + 1, 27, none⟩ (.int .i64 (f 27))).setCell ⟨w.heap.size + 1 + 1, 28, none⟩ (.int .i64 (f 28))).setCell ⟨w.heap.size + 1 + 1, 29, none⟩ (.int .i64 (f 29))).setCell ⟨w.heap.size + 1 + 1, 30, none⟩ (.int .i64 (f 30))).setCell ⟨w.heap.size + 1 + 1, 31, none⟩ (.int .i64 (f 31))).setCell ⟨w.heap.size + 1 + 1, 32, none⟩ (.int .i64 (f 32))).setCell ⟨w.heap.size + 1 + 1, 33, none⟩ (.int .i64 (f 33))).setCell ⟨w.heap.size + 1 + 1, 34, none⟩ (.int .i64 (f 34))).setCell ⟨w.heap.size + 1 + 1, 35, none⟩ (.int .i64 (f 35))).setCell ⟨w.heap.size + 1 + 1, 36, none⟩ (.int .i64 (f 36))).setCell ⟨w.heap.size + 1 + 1, 37, none⟩ (.int .i64 (f 37)) = u8 at *
  simp only [Nat.reduceAdd] at hO
  refine (toSid (f 38) (f 39) (f 40) (f 41) (f 42) (f 43) (f 44) (f 45) (f 46) (f 47) (f 48) (f 49) _).mono ?_
  rintro e v8 ⟨rfl, b8⟩
  replace hA := hp_below hA b8
  replace hR := hp_below hR b8
  replace hO := hp_below hO b8
  replace bb := bb.trans (b8.mono bb.size)
  clear b8
  have c50 := sty_int hA 50 (by decide)
  have c51 := sty_int hA 51 (by decide)
  have c52 := sty_int hA 52 (by decide)
  have c53 := sty_int hA 53 (by decide)
  have z38 := sty_int hO 38 (by decide)
  have F38 := sty_free hO 38
  have z39 := sty_int hO 39 (by decide)
  have F39 := sty_free hO 39
  have z40 := sty_int hO 40 (by decide)
  have F40 := sty_free hO 40
  have z41 := sty_int hO 41 (by decide)
  have F41 := sty_free hO 41
  have z42 := sty_int hO 42 (by decide)
  have F42 := sty_free hO 42
  have z43 := sty_int hO 43 (by decide)
  have F43 := sty_free hO 43
  have z44 := sty_int hO 44 (by decide)
  have F44 := sty_free hO 44
  have z45 := sty_int hO 45 (by decide)
  have F45 := sty_free hO 45
  have z46 := sty_int hO 46 (by decide)
  have F46 := sty_free hO 46
  have z47 := sty_int hO 47 (by decide)
  have F47 := sty_free hO 47
  have z48 := sty_int hO 48 (by decide)
  have F48 := sty_free hO 48
  have z49 := sty_int hO 49 (by decide)
  have F49 := sty_free hO 49
  have HO := Lib.hid hO
  have HR := Lib.hid hR
  have HA := Lib.hid hA
  clear hO hR hA
  go_wp2_with (fail)
  clear c50 c51 c52 c53 z38 F38 z39 F39 z40 F40 z41 F41 z42 F42 z43 F43 z44 F44 z45 F45 z46 F46 z47 F47 z48 F48 z49 F49
  have hO := (sty_step (sty_step (sty_step (sty_step (sty_step (sty_step (sty_step (sty_step (sty_step (sty_step (sty_step (sty_step HO.out (.int .i64 (f 38)) (by decide) (by simp [sCell])) (.int .i64 (f 39)) (by decide) (by simp [sCell])) (.int .i64 (f 40)) (by decide) (by simp [sCell])) (.int .i64 (f 41)) (by decide) (by simp [sCell])) (.int .i64 (f 42)) (by decide) (by simp [sCell])) (.int .i64 (f 43)) (by decide) (by simp [sCell])) (.int .i64 (f 44)) (by decide) (by simp [sCell])) (.int .i64 (f 45)) (by decide) (by simp [sCell])) (.int .i64 (f 46)) (by decide) (by simp [sCell])) (.int .i64 (f 47)) (by decide) (by simp [sCell])) (.int .i64 (f 48)) (by decide) (by simp [sCell])) (.int .i64 (f 49)) (by decide) (by simp [sCell]))
  have hA := (hp_set (g' := w.heap.size + 1 + 1) (hp_set (g' := w.heap.size + 1 + 1) (hp_set (g' := w.heap.size + 1 + 1) (hp_set (g' := w.heap.size + 1 + 1) (hp_set (g' := w.heap.size + 1 + 1) (hp_set (g' := w.heap.size + 1 + 1) (hp_set (g' := w.heap.size + 1 + 1) (hp_set (g' := w.heap.size + 1 + 1) (hp_set (g' := w.heap.size + 1 + 1) (hp_set (g' := w.heap.size + 1 + 1) (hp_set (g' := w.heap.size + 1 + 1) (hp_set (g' := w.heap.size + 1 + 1) HA.out (by omega) 38 (.int .i64 (f 38))) (by omega) 39 (.int .i64 (f 39))) (by omega) 40 (.int .i64 (f 40))) (by omega) 41 (.int .i64 (f 41))) (by omega) 42 (.int .i64 (f 42))) (by omega) 43 (.int .i64 (f 43))) (by omega) 44 (.int .i64 (f 44))) (by omega) 45 (.int .i64 (f 45))) (by omega) 46 (.int .i64 (f 46))) (by omega) 47 (.int .i64 (f 47))) (by omega) 48 (.int .i64 (f 48))) (by omega) 49 (.int .i64 (f 49)))
  have hR := (hp_set (g' := w.heap.size + 1 + 1) (hp_set (g' := w.heap.size + 1 + 1) (hp_set (g' := w.heap.size + 1 + 1) (hp_set (g' := w.heap.size + 1 + 1) (hp_set (g' := w.heap.size + 1 + 1) (hp_set (g' := w.heap.size + 1 + 1) (hp_set (g' := w.heap.size + 1 + 1) (hp_set (g' := w.heap.size + 1 + 1) (hp_set (g' := w.heap.size + 1 + 1) (hp_set (g' := w.heap.size + 1 + 1) (hp_set (g' := w.heap.size + 1 + 1) (hp_set (g' := w.heap.size + 1 + 1) HR.out (by omega) 38 (.int .i64 (f 38))) (by omega) 39 (.int .i64 (f 39))) (by omega) 40 (.int .i64 (f 40))) (by omega) 41 (.int .i64 (f 41))) (by omega) 42 (.int .i64 (f 42))) (by omega) 43 (.int .i64 (f 43))) (by omega) 44 (.int .i64 (f 44))) (by omega) 45 (.int .i64 (f 45))) (by omega) 46 (.int .i64 (f 46))) (by omega) 47 (.int .i64 (f 47))) (by omega) 48 (.int .i64 (f 48))) (by omega) 49 (.int .i64 (f 49)))
  replace bb := (bl_set (bl_set (bl_set (bl_set (bl_set (bl_set (bl_set (bl_set (bl_set (bl_set (bl_set (bl_set bb (g := w.heap.size + 1 + 1) 38 (by omega) (.int .i64 (f 38))) (g := w.heap.size + 1 + 1) 39 (by omega) (.int .i64 (f 39))) (g := w.heap.size + 1 + 1) 40 (by omega) (.int .i64 (f 40))) (g := w.heap.size + 1 + 1) 41 (by omega) (.int .i64 (f 41))) (g := w.heap.size + 1 + 1) 42 (by omega) (.int .i64 (f 42))) (g := w.heap.size + 1 + 1) 43 (by omega) (.int .i64 (f 43))) (g := w.heap.size + 1 + 1) 44 (by omega) (.int .i64 (f 44))) (g := w.heap.size + 1 + 1) 45 (by omega) (.int .i64 (f 45))) (g := w.heap.size + 1 + 1) 46 (by omega) (.int .i64 (f 46))) (g := w.heap.size + 1 + 1) 47 (by omega) (.int .i64 (f 47))) (g := w.heap.size + 1 + 1) 48 (by omega) (.int .i64 (f 48))) (g := w.heap.size + 1 + 1) 49 (by omega) (.int .i64 (f 49)))
  clear HO HA HR
  generalize ((((((((((((v8).setCell ⟨w.heap.size + 1 + 1, 38, none⟩ (.int .i64 (f 38))).setCell ⟨w.heap.size + 1 + 1, 39, none⟩ (.int .i64 (f 39))).setCell ⟨w.heap.size + 1 + 1, 40, none⟩ (.int .i64 (f 40))).setCell ⟨w.heap.size + 1 + 1, 41, none⟩ (.int .i64 (f 41))).setCell ⟨w.heap.size + 1 + 1, 42, none⟩ (.int .i64 (f 42))).setCell ⟨w.heap.size + 1 + 1, 43, none⟩ (.int .i64 (f 43))).setCell ⟨w.heap.size + 1 + 1, 44, none⟩ (.int .i64 (f 44))).setCell ⟨w.heap.size + 1 + 1, 45, none⟩ (.int .i64 (f 45))).setCell ⟨w.heap.size + 1 + 1, 46, none⟩ (.int .i64 (f 46))).setCell ⟨w.heap.size + 1 + 1, 47, none⟩ (.int .i64 (f 47))).setCell ⟨w.heap.size + 1 + 1, 48, none⟩ (.int .i64 (f 48))).setCell ⟨w.heap.size + 1 + 1, 49, none⟩ (.int .i64 (f 49)) = u9 at *
  simp only [Nat.reduceAdd] at hO
  refine (toEdg (f 50) (f 51) (f 52) (f 53) _).mono ?_
  rintro e v9 ⟨rfl, b9⟩
  replace hA := hp_below hA b9
  replace hR := hp_below hR b9
  replace hO := hp_below hO b9
  replace bb := bb.trans (b9.mono bb.size)
  clear b9
  have c54 := sty_int hA 54 (by decide)
  have c55 := sty_int hA 55 (by decide)
  have c56 := sty_int hA 56 (by decide)
  have c57 := sty_int hA 57 (by decide)
  have z50 := sty_int hO 50 (by decide)
  have F50 := sty_free hO 50
  have z51 := sty_int hO 51 (by decide)
  have F51 := sty_free hO 51
  have z52 := sty_int hO 52 (by decide)
  have F52 := sty_free hO 52
  have z53 := sty_int hO 53 (by decide)
  have F53 := sty_free hO 53
  have HO := Lib.hid hO
  have HR := Lib.hid hR
  have HA := Lib.hid hA
  clear hO hR hA
  go_wp2_with (fail)
  clear c54 c55 c56 c57 z50 F50 z51 F51 z52 F52 z53 F53
  have hO := (sty_step (sty_step (sty_step (sty_step HO.out (.int .i64 (f 50)) (by decide) (by simp [sCell])) (.int .i64 (f 51)) (by decide) (by simp [sCell])) (.int .i64 (f 52)) (by decide) (by simp [sCell])) (.int .i64 (f 53)) (by decide) (by simp [sCell]))
  have hA := (hp_set (g' := w.heap.size + 1 + 1) (hp_set (g' := w.heap.size + 1 + 1) (hp_set (g' := w.heap.size + 1 + 1) (hp_set (g' := w.heap.size + 1 + 1) HA.out (by omega) 50 (.int .i64 (f 50))) (by omega) 51 (.int .i64 (f 51))) (by omega) 52 (.int .i64 (f 52))) (by omega) 53 (.int .i64 (f 53)))
  have hR := (hp_set (g' := w.heap.size + 1 + 1) (hp_set (g' := w.heap.size + 1 + 1) (hp_set (g' := w.heap.size + 1 + 1) (hp_set (g' := w.heap.size + 1 + 1) HR.out (by omega) 50 (.int .i64 (f 50))) (by omega) 51 (.int .i64 (f 51))) (by omega) 52 (.int .i64 (f 52))) (by omega) 53 (.int .i64 (f 53)))
  replace bb := (bl_set (bl_set (bl_set (bl_set bb (g := w.heap.size + 1 + 1) 50 (by omega) (.int .i64 (f 50))) (g := w.heap.size + 1 + 1) 51 (by omega) (.int .i64 (f 51))) (g := w.heap.size + 1 + 1) 52 (by omega) (.int .i64 (f 52))) (g := w.heap.size + 1 + 1) 53 (by omega) (.int .i64 (f 53)))
  clear HO HA HR
  generalize ((((v9).setCell ⟨w.heap.size + 1 + 1, 50, none⟩ (.int .i64 (f 50))).setCell ⟨w.heap.size + 1 + 1, 51, none⟩ (.int .i64 (f 51))).setCell ⟨w.heap.size + 1 + 1, 52, none⟩ (.int .i64 (f 52))).setCell ⟨w.heap.size + 1 + 1, 53, none⟩ (.int .i64 (f 53)) = u10 at *
  simp only [Nat.reduceAdd] at hO
  refine (toEdg (f 54) (f 55) (f 56) (f 57) _).mono ?_
  rintro e v10 ⟨rfl, b10⟩
  replace hA := hp_below hA b10
  replace hR := hp_below hR b10
  replace hO := hp_below hO b10
  replace bb := bb.trans (b10.mono bb.size)
  clear b10
  have c58 := sty_int hA 58 (by decide)
  have c59 := sty_int hA 59 (by decide)
  have z54 := sty_int hO 54 (by decide)
  have F54 := sty_free hO 54
  have z55 := sty_int hO 55 (by decide)
  have F55 := sty_free hO 55
  have z56 := sty_int hO 56 (by decide)
  have F56 := sty_free hO 56
  have z57 := sty_int hO 57 (by decide)
  have F57 := sty_free hO 57
  have z58 := sty_int hO 58 (by decide)
  have F58 := sty_free hO 58
  have z59 := sty_int hO 59 (by decide)
  have F59 := sty_free hO 59
  have HO := Lib.hid hO
  have HR := Lib.hid hR
  have HA := Lib.hid hA
  clear hO hR hA
  have hO := (sty_step (sty_step (sty_step (sty_step (sty_step (sty_step HO.out (.int .i64 (f 54)) (by decide) (by simp [sCell])) (.int .i64 (f 55)) (by decide) (by simp [sCell])) (.int .i64 (f 56)) (by decide) (by simp [sCell])) (.int .i64 (f 57)) (by decide) (by simp [sCell])) (.int .i64 (f 58)) (by decide) (by simp [sCell])) (.int .i64 (f 59)) (by decide) (by simp [sCell]))
  have hR := (hp_set (g' := w.heap.size + 1 + 1) (hp_set (g' := w.heap.size + 1 + 1) (hp_set (g' := w.heap.size + 1 + 1) (hp_set (g' := w.heap.size + 1 + 1) (hp_set (g' := w.heap.size + 1 + 1) (hp_set (g' := w.heap.size + 1 + 1) HR.out (by omega) 54 (.int .i64 (f 54))) (by omega) 55 (.int .i64 (f 55))) (by omega) 56 (.int .i64 (f 56))) (by omega) 57 (.int .i64 (f 57))) (by omega) 58 (.int .i64 (f 58))) (by omega) 59 (.int .i64 (f 59)))
  have B9 := Lib.hid (below_setRow (bl_set (bl_set (bl_set (bl_set (bl_set (bl_set bb (g := w.heap.size + 1 + 1) 54 (by omega) (.int .i64 (f 54))) (g := w.heap.size + 1 + 1) 55 (by omega) (.int .i64 (f 55))) (g := w.heap.size + 1 + 1) 56 (by omega) (.int .i64 (f 56))) (g := w.heap.size + 1 + 1) 57 (by omega) (.int .i64 (f 57))) (g := w.heap.size + 1 + 1) 58 (by omega) (.int .i64 (f 58))) (g := w.heap.size + 1 + 1) 59 (by omega) (.int .i64 (f 59))) (g := w.heap.size + 1) (by omega) (sCells (cut f 60)))
  have h9 := setRow_heap _ _ _ (sCells (cut f 60)) _ _ hR
  clear HO HR
  simp only [Nat.reduceAdd] at hO
  have HO := Lib.hid hO
  have HR := Lib.hid hR
  have H9 := Lib.hid h9
  clear hO hR h9
  dsimp only
  iterate 46 (first | go_skip | go_guarded | go_step | go_upon | go_back)
  with_reducible apply list_load_sty
  exact rfl
  exact rfl
  exact rfl
  with_reducible exact HO.out
  simp only [Act.put, List.setIfInBounds_toArray, List.set_cons_succ, List.set_cons_zero]
  with_reducible apply list_store_sty
  exact rfl
  exact rfl
  exact rfl
  exact rfl
  with_reducible exact HR.out
  simp only [Act.put]
  go_wp2
  refine bodyPost_ret (results_sty rfl rfl H9.out) rfl ⟨?_, B9.out⟩
  rw [cut_all]
end Go.Proofs.Ytfnnfjpbplbjmaa

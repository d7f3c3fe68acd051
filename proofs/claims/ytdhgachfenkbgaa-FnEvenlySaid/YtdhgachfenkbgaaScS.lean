/-
  The contract of spec.Scaled. Conditions: at most 1048576 sizes and factors.
-/
import Derived.Test.YtdhgachfenkbgaaScM
import Derived.Deep.RegionLaw
import Derived.Deep.AppendLies
namespace Go.Proofs.Ytdhgachfenkbgaa
open Go.ChangeShapes Go.WideShapes Go.ChangeAt Go.RowKit

set_option linter.unusedVariables false
def ScsRel (xs ys : List Int) (m : Nat) (w : World) (o i : Value) (wr : World) : Prop :=
  ∃ k : Nat, k ≤ m ∧ i = .int .i64 k ∧ RowI w.heap.size o (scK xs ys k) wr ∧ Below w.heap.size w wr

set_option maxHeartbeats 800000 in
theorem ssc_any (a : Option Addr) (len cap : Nat) (xs : List Int) (a' : Option Addr) (len' cap' : Nat) (ys : List Int) (w : World) (hx : Ints w a len xs) (hl : len ≤ 1048576) (hy : Ints w a' len' ys) (hl' : len' ≤ 1048576) :
    Calls Try.prog 55 #[.slice a len cap, .slice a' len' cap'] w (OutPost (scL xs ys) w) := by
  obtain ⟨i0, hi, hz0, hz1, hz2⟩ := info_parts info_intS
  have hxl := hx.1
  have hyl := hy.1
  have HX := Lib.hid hx
  have HY := Lib.hid hy
  clear hx hy
  obtain ⟨m, hm⟩ : ∃ m : Nat, m = min len len' := ⟨_, rfl⟩
  have hm1 : m ≤ len := by omega
  have hm2 : m ≤ len' := by omega
  have hm3 : len ≤ m ∨ len' ≤ m := by omega
  have HM := Lib.hid hm
  have HM3 := Lib.hid hm3
  clear hm hm3
  go_enter Try.func55, Try.ntmps55
  go_wp2_with (fail)
  have hr0 : RowI w.heap.size (.slice (some ⟨w.heap.size, 0, none⟩) 0 0) [] (w.alloc (.cells #[] 3)) := World.ownsRow_lit w #[] 0 (Nat.le_refl _) (by unfold maxLen; omega) rfl
  have hb0 : Below w.heap.size w (w.alloc (.cells #[] 3)) := (Below.refl _ _).alloc (Nat.le_refl _) _
  have HR0 := Lib.hid hr0
  clear hr0
  generalize w.alloc (.cells #[] 3) = w0 at *
  go_loopw [5, 6] (ScsRel xs ys m w) (fun _ i _ => m - (intOf i).toNat)
  case atStart => exact ⟨0, Nat.zero_le _, rfl, HR0.out, hb0⟩
  case round =>
    obtain ⟨k, hk, rfl, ho, hb⟩ := hrel
    by_cases hlt : k < m
    · obtain ⟨b, off, rfl, hbl, hc⟩ := HX.out.look (show k < len by omega)
      obtain ⟨b', off', rfl, hbl', hc'⟩ := HY.out.look (show k < len' by omega)
      have hc1 : wr.cell? ⟨b, off + k, none⟩ = some (.int .i64 (xs.getD k 0)) := (hb.cell (p := ⟨b, off + k, none⟩) hbl).trans hc
      have hc2 : wr.cell? ⟨b', off' + k, none⟩ = some (.int .i64 (ys.getD k 0)) := (hb.cell (p := ⟨b', off' + k, none⟩) hbl').trans hc'
      have hlo : (0 : Int) ≤ (k : Int) := Int.natCast_nonneg _
      have hhi : (k : Int) < (len : Int) := by omega
      have hhi' : (k : Int) < (len' : Int) := by omega
      have hin := sc_in (xs.getD k 0) (ys.getD k 0)
      have hsc : clI (xs.getD k 0) * facI (ys.getD k 0) = scA xs ys k := rfl
      clear hc hc' HR0
      have HO := Lib.hid ho
      clear ho
      generalize xs.getD k 0 = x at *
      generalize ys.getD k 0 = y at *
      have r1 : IntKind.i64.wrap (clI x * brI y 0 1000) = scA xs ys k := by rw [← hsc]; exact IntWalk.i64_in (clI x * facI y) (by omega)
      go_wp2
      have h63 : (scK xs ys k).length + 1 ≤ maxLen := by rw [scK_len]; unfold maxLen; omega
      have hbt : ((scK xs ys k).length + 1) * 8 ≤ 140737488355328 := by rw [scK_len]; omega
      have hsz := hb.size
      go_region_law (first
        | (go_simp; go_at_call 113; ((with_reducible refine (sclamped x _).mono ?_); rintro e w' ⟨rfl, rfl⟩))
        | (go_simp; go_at_call 46; ((with_reducible refine (sbr_any y 0 1000 _).mono ?_); rintro e w' ⟨rfl, rfl⟩))
        | (refine step_append_lies _ (by rfl) _ _ _ (by rfl) w.heap.size 3 i0 (.int .i64 0) 1 8 Try.underlying59 hi hz0 hz1 hz2 rfl (by decide) u5 _ _ (by rfl) ((World.ownsRow.alloc HO.out _).drew) ⟨wr.heap.size, 0, none⟩ 1 1 [.int .i64 (scA xs ys k)] (by rfl) (by rfl) (World.news_of_block (cs := #[.int .i64 (scA xs ys k)]) (t := 3) (fr := (0, 0)) (heap_alloc_new wr _)) (by simp [Value.oneCell']) (by decide) h63 hbt (by simp; omega) (wr.heap.size + 1) (by simp) ?_; intro g cap w3 hown hgr _ _))
      all_goals
        have hbw3 : Below w.heap.size w w3 := (((hb.alloc hb.size _).drew).grown hgr (by simp; omega) (fun g hg => (World.ownsRow.lt HO.out g hg).1))
        have HR := Lib.hid (show ScsRel xs ys m w (.slice (some ⟨g, 0, none⟩) ((scK xs ys k).length + 1) cap) (.int .i64 ((k : Int) + 1)) w3 from ⟨k + 1, by omega, by go_num, by
          rw [scK_succ]; unfold RowI; simpa using hown, hbw3⟩)
        clear hown hgr HO
        go_wp2
        go_roundw
        case rel => exact HR.out
        case measure => simp [intOf]; omega
    · obtain rfl : k = m := by omega
      have HO := Lib.hid (show RowI w.heap.size u5 (scL xs ys) wr by rw [scL, show min xs.length ys.length = k by have := HM.out; omega]; exact ho)
      clear ho HR0
      by_cases h1 : k < len
      · have h2 : ¬ k < len' := by have := HM3.out; omega
        go_wp2
        go_ret
        exact ⟨_, rfl, HO.out, hb⟩
      · go_wp2
        go_ret
        exact ⟨_, rfl, HO.out, hb⟩
end Go.Proofs.Ytdhgachfenkbgaa

/-
  The contract of impl.Scaled. Conditions: at most 1048576 sizes and factors.
-/
import Derived.Test.YtdhgachfenkbgaaScM
import Derived.Deep.RegionWith
namespace Go.Proofs.Ytdhgachfenkbgaa
open Go.ChangeShapes Go.WideShapes Go.ChangeAt Go.RowKit

def ScRel (xs ys : List Int) (m : Nat) (w : World) (i : Value) (wr : World) : Prop :=
  ∃ k : Nat, k ≤ m ∧ i = .int .i64 k ∧ RowI w.heap.size (.slice (some ⟨w.heap.size, 0, none⟩) m m) (scK xs ys k ++ (List.replicate m 0).drop k) wr ∧ Below w.heap.size w wr

set_option maxHeartbeats 800000 in
theorem isc_less (a : Option Addr) (len cap : Nat) (xs : List Int) (a' : Option Addr) (len' cap' : Nat) (ys : List Int) (w : World) (hx : Ints w a len xs) (hl : len ≤ 1048576) (hy : Ints w a' len' ys) (hl' : len' ≤ 1048576) (hm : len' < len) :
    Calls Try.prog 54 #[.slice a len cap, .slice a' len' cap'] w (OutPost (scL xs ys) w) := by
  obtain ⟨i0, hi, hz0, hz1, hz2⟩ := info_parts info_intS
  have hxl := hx.1
  have hyl := hy.1
  have HX := Lib.hid hx
  have HY := Lib.hid hy
  clear hx hy
  go_enter Try.func54, Try.ntmps54
  go_wp2_with (first
    | (at_make; refine wpList_make_full _ rfl _ _ 59 rfl w.heap.size 3 i0 (.int .i64 0) 1 Try.underlying59 hi hz0 hz1 .i64 .i64 _ _ len' rfl rfl rfl rfl (by rw [hz2]; omega) (by unfold maxLen; omega) (Nat.le_refl _) ?_; intro w0 hown0 hgrow0))
  have hr0 : RowI w.heap.size (.slice (some ⟨w.heap.size, 0, none⟩) len' len') (scK xs ys 0 ++ (List.replicate len' 0).drop 0) w0 := by
    unfold RowI
    have e1 : (madeCells (Value.int .i64 0).cells (len' * 1)).toList = (List.replicate len' (0 : Int)).map (Value.int .i64) := by
      rw [show (Value.int .i64 0).cells = #[Value.int .i64 0] from rfl, Nat.mul_one, toList_madeCells_one]; simp
    rw [e1] at hown0
    simpa [scK] using hown0
  have hb0 : Below w.heap.size w w0 := (Below.refl _ _).grown hgrow0 (Nat.le_refl _) (fun g hg => by cases hg)
  clear hown0 hgrow0
  have HR0 := Lib.hid hr0
  clear hr0
  go_wp2
  go_loopw [15] (ScRel xs ys len' w) (fun i _ => len' - (intOf i).toNat)
  case atStart => exact ⟨0, Nat.zero_le _, rfl, HR0.out, hb0⟩
  case round =>
    obtain ⟨k, hk, rfl, ho, hb⟩ := hrel
    have hll : (scK xs ys k ++ (List.replicate len' (0 : Int)).drop k).length = len' := by simp [scK_len]; omega
    by_cases hlt : k < len'
    · obtain ⟨b, off, rfl, hbl, hc⟩ := HX.out.look (show k < len by omega)
      obtain ⟨b', off', rfl, hbl', hc'⟩ := HY.out.look (show k < len' by omega)
      have hc1 : wr.cell? ⟨b, off + k, none⟩ = some (.int .i64 (xs.getD k 0)) := (hb.cell (p := ⟨b, off + k, none⟩) hbl).trans hc
      have hc2 : wr.cell? ⟨b', off' + k, none⟩ = some (.int .i64 (ys.getD k 0)) := (hb.cell (p := ⟨b', off' + k, none⟩) hbl').trans hc'
      have hlo : (0 : Int) ≤ (k : Int) := Int.natCast_nonneg _
      have hhi : (k : Int) < (len : Int) := by omega
      have hhi' : (k : Int) < (len' : Int) := by omega
      have ho' : wr.ownsRow w.heap.size 3 1 (.slice (some ⟨w.heap.size, 0, none⟩) len' len') len' ((scK xs ys k ++ (List.replicate len' (0 : Int)).drop k).map (Value.int .i64)) := by
        have h := ho; unfold RowI at h; rwa [hll] at h
      have hst := ho'.stored k (.int .i64 (scA xs ys k))
      rw [← List.map_set, scK_set (by simp; omega)] at hst
      have c2 : ∃ x, wr.cell? ⟨w.heap.size, k, none⟩ = some x := by
        rw [ho'.cellAt k (by omega)]
        exact ⟨_, List.getElem?_eq_getElem (by simp [scK_len]; omega)⟩
      obtain ⟨x2, c2⟩ := c2
      have f2 := ho'.frozenAt k
      have hin := sc_in (xs.getD k 0) (ys.getD k 0)
      have hsc : clI (xs.getD k 0) * facI (ys.getD k 0) = scA xs ys k := rfl
      have HS := Lib.hid hst
      clear hc hc' ho ho' hst hll HR0
      generalize xs.getD k 0 = x at *
      generalize ys.getD k 0 = y at *
      have r1 : IntKind.i64.wrap (clI x * brI y 0 1000) = scA xs ys k := by rw [← hsc]; exact IntWalk.i64_in (clI x * facI y) (by omega)
      go_wp2
      go_region_with (first
        | (go_at_call 111; refine (iclamped x _).mono ?_; rintro e w4 ⟨rfl, rfl⟩)
        | (go_at_call 112; refine (ibr_any y 0 1000 _).mono ?_; rintro e w5 ⟨rfl, rfl⟩)
        | fail)
      all_goals (
        go_wp2
        go_roundw
        case rel =>
          refine ⟨k + 1, by omega, by go_num, ?_, (hb.grown HS.out.2 hb.size (fun g hg => by simp at hg; omega)).drew⟩
          unfold RowI
          rw [show (scK xs ys (k + 1) ++ (List.replicate len' (0 : Int)).drop (k + 1)).length = len' by simp [scK_len]; omega]
          exact World.ownsRow.drew HS.out.1
        case measure => simp [intOf]; omega)
    · obtain rfl : k = len' := by omega
      rw [List.drop_of_length_le (by simp), List.append_nil] at ho
      clear hll HR0
      go_wp2
      go_ret
      exact ⟨_, rfl, by rw [scL, show min xs.length ys.length = k by omega]; simpa [RowI, scK] using ho, hb⟩

set_option maxHeartbeats 800000 in
theorem isc_more (a : Option Addr) (len cap : Nat) (xs : List Int) (a' : Option Addr) (len' cap' : Nat) (ys : List Int) (w : World) (hx : Ints w a len xs) (hl : len ≤ 1048576) (hy : Ints w a' len' ys) (hl' : len' ≤ 1048576) (hm : ¬ len' < len) :
    Calls Try.prog 54 #[.slice a len cap, .slice a' len' cap'] w (OutPost (scL xs ys) w) := by
  obtain ⟨i0, hi, hz0, hz1, hz2⟩ := info_parts info_intS
  have hxl := hx.1
  have hyl := hy.1
  have HX := Lib.hid hx
  have HY := Lib.hid hy
  clear hx hy
  go_enter Try.func54, Try.ntmps54
  go_wp2_with (first
    | (at_make; refine wpList_make_full _ rfl _ _ 59 rfl w.heap.size 3 i0 (.int .i64 0) 1 Try.underlying59 hi hz0 hz1 .i64 .i64 _ _ len rfl rfl rfl rfl (by rw [hz2]; omega) (by unfold maxLen; omega) (Nat.le_refl _) ?_; intro w0 hown0 hgrow0))
  have hr0 : RowI w.heap.size (.slice (some ⟨w.heap.size, 0, none⟩) len len) (scK xs ys 0 ++ (List.replicate len 0).drop 0) w0 := by
    unfold RowI
    have e1 : (madeCells (Value.int .i64 0).cells (len * 1)).toList = (List.replicate len (0 : Int)).map (Value.int .i64) := by
      rw [show (Value.int .i64 0).cells = #[Value.int .i64 0] from rfl, Nat.mul_one, toList_madeCells_one]; simp
    rw [e1] at hown0
    simpa [scK] using hown0
  have hb0 : Below w.heap.size w w0 := (Below.refl _ _).grown hgrow0 (Nat.le_refl _) (fun g hg => by cases hg)
  clear hown0 hgrow0
  have HR0 := Lib.hid hr0
  clear hr0
  go_wp2
  go_loopw [15] (ScRel xs ys len w) (fun i _ => len - (intOf i).toNat)
  case atStart => exact ⟨0, Nat.zero_le _, rfl, HR0.out, hb0⟩
  case round =>
    obtain ⟨k, hk, rfl, ho, hb⟩ := hrel
    have hll : (scK xs ys k ++ (List.replicate len (0 : Int)).drop k).length = len := by simp [scK_len]; omega
    by_cases hlt : k < len
    · obtain ⟨b, off, rfl, hbl, hc⟩ := HX.out.look (show k < len by omega)
      obtain ⟨b', off', rfl, hbl', hc'⟩ := HY.out.look (show k < len' by omega)
      have hc1 : wr.cell? ⟨b, off + k, none⟩ = some (.int .i64 (xs.getD k 0)) := (hb.cell (p := ⟨b, off + k, none⟩) hbl).trans hc
      have hc2 : wr.cell? ⟨b', off' + k, none⟩ = some (.int .i64 (ys.getD k 0)) := (hb.cell (p := ⟨b', off' + k, none⟩) hbl').trans hc'
      have hlo : (0 : Int) ≤ (k : Int) := Int.natCast_nonneg _
      have hhi : (k : Int) < (len : Int) := by omega
      have hhi' : (k : Int) < (len' : Int) := by omega
      have ho' : wr.ownsRow w.heap.size 3 1 (.slice (some ⟨w.heap.size, 0, none⟩) len len) len ((scK xs ys k ++ (List.replicate len (0 : Int)).drop k).map (Value.int .i64)) := by
        have h := ho; unfold RowI at h; rwa [hll] at h
      have hst := ho'.stored k (.int .i64 (scA xs ys k))
      rw [← List.map_set, scK_set (by simp; omega)] at hst
      have c2 : ∃ x, wr.cell? ⟨w.heap.size, k, none⟩ = some x := by
        rw [ho'.cellAt k (by omega)]
        exact ⟨_, List.getElem?_eq_getElem (by simp [scK_len]; omega)⟩
      obtain ⟨x2, c2⟩ := c2
      have f2 := ho'.frozenAt k
      have hin := sc_in (xs.getD k 0) (ys.getD k 0)
      have hsc : clI (xs.getD k 0) * facI (ys.getD k 0) = scA xs ys k := rfl
      have HS := Lib.hid hst
      clear hc hc' ho ho' hst hll HR0
      generalize xs.getD k 0 = x at *
      generalize ys.getD k 0 = y at *
      have r1 : IntKind.i64.wrap (clI x * brI y 0 1000) = scA xs ys k := by rw [← hsc]; exact IntWalk.i64_in (clI x * facI y) (by omega)
      go_wp2
      go_region_with (first
        | (go_at_call 111; refine (iclamped x _).mono ?_; rintro e w4 ⟨rfl, rfl⟩)
        | (go_at_call 112; refine (ibr_any y 0 1000 _).mono ?_; rintro e w5 ⟨rfl, rfl⟩)
        | fail)
      all_goals (
        go_wp2
        go_roundw
        case rel =>
          refine ⟨k + 1, by omega, by go_num, ?_, (hb.grown HS.out.2 hb.size (fun g hg => by simp at hg; omega)).drew⟩
          unfold RowI
          rw [show (scK xs ys (k + 1) ++ (List.replicate len (0 : Int)).drop (k + 1)).length = len by simp [scK_len]; omega]
          exact World.ownsRow.drew HS.out.1
        case measure => simp [intOf]; omega)
    · obtain rfl : k = len := by omega
      rw [List.drop_of_length_le (by simp), List.append_nil] at ho
      clear hll HR0
      go_wp2
      go_ret
      exact ⟨_, rfl, by rw [scL, show min xs.length ys.length = k by omega]; simpa [RowI, scK] using ho, hb⟩

theorem isc_any (a : Option Addr) (len cap : Nat) (xs : List Int) (a' : Option Addr) (len' cap' : Nat) (ys : List Int) (w : World) (hx : Ints w a len xs) (hl : len ≤ 1048576) (hy : Ints w a' len' ys) (hl' : len' ≤ 1048576) :
    Calls Try.prog 54 #[.slice a len cap, .slice a' len' cap'] w (OutPost (scL xs ys) w) := by
  by_cases hm : len' < len
  · exact isc_less a len cap xs a' len' cap' ys w hx hl hy hl' hm
  · exact isc_more a len cap xs a' len' cap' ys w hx hl hy hl' hm
end Go.Proofs.Ytdhgachfenkbgaa

import Derived.Test.YtnncdpkmhpjmbaaZnAK
import Derived.Test.YtnncdpkmhpjmbaaZnBE
import Derived.Test.YtnncdpkmhpjmbaaZnBM
section
namespace Go.Proofs.Ytnncdpkmhpjmbaa
open Go.ChangeShapes Go.WideShapes Go.ChangeAt Go.RowKit
set_option linter.unusedVariables false
set_option linter.unusedSimpArgs false
set_option maxRecDepth 8000

/-- The spaces behind the first items. -/
def spcK (free many js : Int) (k : Nat) : List Int := (List.range k).map (fun i => spV free many js (i + 1))
theorem spcK_len (free many js : Int) (k : Nat) : (spcK free many js k).length = k := by simp [spcK]
theorem spcK_set {free many js : Int} {l : List Int} {k : Nat} (h : k < l.length) : (spcK free many js k ++ l.drop k).set k (spV free many js (k + 1)) = spcK free many js (k + 1) ++ l.drop (k + 1) := by
  rw [List.set_append_right _ _ (by simp [spcK]), List.drop_eq_getElem_cons h, show k - (spcK free many js k).length = 0 by simp [spcK], List.set_cons_zero]
  simp [spcK, List.range_succ]
def scV (free : Int) (n : Nat) (js : Int) : List Int := spcK free n js (n - 1) ++ (List.replicate n (0 : Int)).drop (n - 1)
theorem scV_len (free : Int) (n : Nat) (js : Int) : (scV free n js).length = n := by
  unfold scV; rw [List.length_append, spcK_len, List.length_drop, List.length_replicate]; omega
theorem scV_at {free : Int} {n : Nat} {js : Int} {i : Nat} (h : i + 1 < n) : (scV free n js).getD i 0 = spV free n js (i + 1) := by
  unfold scV
  rw [List.getD_eq_getElem?_getD, List.getElem?_append_left (by rw [spcK_len]; omega)]
  simp [spcK, show i < n - 1 by omega]
theorem scK_zero {free : Int} {n : Nat} {js : Int} (h : ∀ i, i < n → spV free n js (i + 1) = 0) : ∀ k, k ≤ n → spcK free n js k = List.replicate k 0 := by
  intro k hk
  apply List.ext_getElem?
  intro i
  by_cases hi : i < k
  · simp [spcK, hi, h i (by omega)]
  · rw [List.getElem?_eq_none (by rw [spcK_len]; omega), List.getElem?_eq_none (by simp; omega)]
theorem scV_zero {free : Int} {n : Nat} {js : Int} (h : ∀ i, i < n → spV free n js (i + 1) = 0) : scV free n js = List.replicate n 0 := by
  unfold scV
  rw [scK_zero h (n - 1) (by omega), List.drop_replicate, List.replicate_append_replicate]
  congr 1
  omega
theorem scV_all {free : Int} {n : Nat} {js : Int} (h0 : -1048576 ≤ free) (h1 : free ≤ 1048576) : AllI (scV free n js) := by
  intro z hz
  rcases List.mem_append.1 hz with h | h
  · obtain ⟨i, _, rfl⟩ := List.mem_map.1 h
    have := sp_bd (many := n) (js := js) h0 h1 (i + 1)
    omega
  · have := List.eq_of_mem_replicate (List.mem_of_mem_drop h)
    omega
def SpcRel (free : Int) (n : Nat) (js : Int) (w : World) (i : Value) (wr : World) : Prop :=
  ∃ k : Nat, k ≤ n - 1 ∧ i = .int .i64 k ∧ RowI w.heap.size (.slice (some ⟨w.heap.size, 0, none⟩) n n) (spcK free n js k ++ (List.replicate n 0).drop k) wr ∧ Below w.heap.size w wr
set_option maxHeartbeats 4000000 in
theorem sspaces (free : Int) (n : Nat) (js : Int) (w : World) (f0 : -1048576 ≤ free) (f1 : free ≤ 1048576) (hn : n ≤ 12) :
    Calls Try.prog 47 #[.int .i64 free, .int .i64 (n : Int), .int .i64 js] w (OutPost (scV free n js) w) := by
  obtain ⟨i0, hi, hz0, hz1, hz2⟩ := info_parts info_intP
  have hn0 : (0 : Int) ≤ (n : Int) := Int.natCast_nonneg _
  by_cases hf : free < 0
  · rw [scV_zero (fun i _ => sp_neg (by omega) hf)]
    go_enter Try.func47, Try.ntmps47
    go_wp2_with (first
      | (at_make; refine wpList_make_full _ rfl _ _ 24 rfl w.heap.size 3 i0 (.int .i64 0) 1 Try.underlying24 hi hz0 hz1 .i64 .i64 _ _ n rfl rfl rfl rfl (by rw [hz2]; omega) (by unfold maxLen; omega) (Nat.le_refl _) ?_))
    intro w0 hown0 hgrow0
    have HR0 := Lib.hid (show RowI w.heap.size (.slice (some ⟨w.heap.size, 0, none⟩) n n) (List.replicate n 0) w0 by
      unfold RowI
      rw [toList_madeCells_one] at hown0
      simpa using hown0)
    have HB0 := Lib.hid ((Below.refl _ _).grown hgrow0 (Nat.le_refl _) (fun g hg => by cases hg) : Below w.heap.size w w0)
    clear hown0 hgrow0
    go_wp2
    go_ret
    exact ⟨_, rfl, HR0.out, HB0.out⟩
  · have hf0 : 0 ≤ free := by omega
    go_enter Try.func47, Try.ntmps47
    go_wp2_with (first
      | (at_make; refine wpList_make_full _ rfl _ _ 24 rfl w.heap.size 3 i0 (.int .i64 0) 1 Try.underlying24 hi hz0 hz1 .i64 .i64 _ _ n rfl rfl rfl rfl (by rw [hz2]; omega) (by unfold maxLen; omega) (Nat.le_refl _) ?_))
    intro w0 hown0 hgrow0
    have HR0 := Lib.hid (show RowI w.heap.size (.slice (some ⟨w.heap.size, 0, none⟩) n n) (spcK free n js 0 ++ (List.replicate n 0).drop 0) w0 by
      unfold RowI
      rw [toList_madeCells_one] at hown0
      simpa [spcK] using hown0)
    have HB0 := Lib.hid ((Below.refl _ _).grown hgrow0 (Nat.le_refl _) (fun g hg => by cases hg) : Below w.heap.size w w0)
    clear hown0 hgrow0
    go_wp2
    go_loopw [8] (SpcRel free n js w) (fun i _ => n - (intOf i).toNat)
    case atStart => exact ⟨0, Nat.zero_le _, rfl, HR0.out, HB0.out⟩
    case round =>
      clear HR0 HB0
      obtain ⟨k, hk, rfl, ho, hb⟩ := hrel
      have hlo : (0 : Int) ≤ (k : Int) := Int.natCast_nonneg _
      by_cases hlt : k + 1 < n
      · have hhi : (k : Int) + 1 < (n : Int) := by omega
        have hhi2 : (k : Int) < (n : Int) := by omega
        have hk12 : (k : Int) < 12 := by omega
        have hll : (spcK free n js k ++ (List.replicate n (0 : Int)).drop k).length = n := by rw [List.length_append, spcK_len, List.length_drop, List.length_replicate]; omega
        have HSET := Lib.hid (spcK_set (free := free) (many := n) (js := js) (l := List.replicate n 0) (k := k) (by rw [List.length_replicate]; omega))
        have HO := Lib.hid ho
        have HB := Lib.hid hb
        have HLL := Lib.hid hll
        have hge := hb.size
        clear ho hb hll
        by_cases h4 : js = 4
        · subst h4
          rw [sp_4 (i := k + 1) (by omega) (by omega)] at HSET
          have KE := Lib.hid (sev_any free ((n : Int) - 1) wr)
          have hall := evn_all free ((n : Int) - 1)
          have hlen : (pcV free n 4).length = n - 1 := by rw [pc_4, evn_lenI (by omega) (by omega)]; omega
          rw [← pc_4] at KE hall
          have HALL := Lib.hid hall
          have hix : ((k : Int) : Int) < ((pcV free n 4).length : Int) := by omega
          clear hall hf0
          go_wp2_with (fail)
          refine KE.out.mono ?_
          rintro e w1 ⟨v, rfl, r1, b1⟩
          obtain ⟨a1, c1, rfl, hin⟩ := r1.slice HALL.out
          obtain ⟨b2, o2, rfl, hbl, hc⟩ := hin.look (k := k + 1 - 1) (by omega)
          (try rw [Nat.add_sub_cancel] at hc HSET)
          obtain ⟨⟨q2, c2⟩, f2, hput⟩ := (HO.out.below b1).put HLL.out (show k < n by omega) ((pcV free n 4).getD (k) 0)
          rw [HSET.out] at hput
          have HR3 := Lib.hid hput
          have HB3 := Lib.hid (bl_set (HB.out.trans (b1.mono HB.out.size)) (g := w.heap.size) k (Nat.le_refl _) (.int .i64 ((pcV free n 4).getD (k) 0)))
          clear hput b1 r1 hin KE HSET HO
          generalize (pcV free n 4).getD (k) 0 = z at *
          generalize (pcV free n 4).length = m at *
          (try dsimp only)
          go_wp2
          go_roundw
          case rel => exact ⟨k + 1, by omega, by go_num, HR3.out, HB3.out⟩
          case measure => simp [intOf]; omega
        by_cases h5 : js = 5
        · subst h5
          rw [sp_5 (i := k + 1) (by omega) (by omega), show 2 * (k + 1) - 1 = 2 * k + 1 by omega, show 2 * (k + 1) = 2 * k + 2 by omega] at HSET
          have KE := Lib.hid (sev_any free (2 * (n : Int)) wr)
          have hall := evn_all free (2 * (n : Int))
          have hlen : (pcV free n 5).length = 2 * n := by rw [pc_5, evn_lenI (by omega) (by omega)]; omega
          have hb1 := pc_bd free n 5 (2 * k + 1)
          have hb2 := pc_bd free n 5 (2 * k + 2)
          rw [← pc_5] at KE hall
          have HALL := Lib.hid hall
          have hix1 : 2 * (k : Int) + 1 < ((pcV free n 5).length : Int) := by omega
          have hix2 : 2 * (k : Int) + 2 < ((pcV free n 5).length : Int) := by omega
          clear hall hf0
          go_wp2_with (fail)
          refine KE.out.mono ?_
          rintro e w1 ⟨v, rfl, r1, b1⟩
          obtain ⟨a1, c1, rfl, hin⟩ := r1.slice HALL.out
          have HO1 := Lib.hid (HO.out.below b1)
          have HB1 := Lib.hid (HB.out.trans (b1.mono HB.out.size))
          have HIN := Lib.hid hin
          clear b1 r1 hin KE HO HB
          (try dsimp only)
          go_wp2_with (fail)
          obtain ⟨b2, o2, rfl, hbl, hc⟩ := HIN.out.look (k := 2 * k + 1) (by omega)
          obtain ⟨b3, o3, e3, hbl3, hc3⟩ := HIN.out.look (k := 2 * k + 2) (by omega)
          injection e3 with e3
          injection e3 with e31 e32
          subst e31 e32
          have D1 := fun d os => cell_regrown hc d os
          have D2 := fun d os => cell_regrown hc3 d os
          have HSET2 := HSET
          clear HSET hc hc3
          generalize (pcV free n 5).getD (2 * k + 1) 0 = z at *
          generalize (pcV free n 5).getD (2 * k + 2) 0 = y at *
          have hx3 : (2 * (k : Int) + 1).toNat = 2 * k + 1 := by omega
          have hx4 : (2 * (k : Int) + 2).toNat = 2 * k + 2 := by omega
          have hwr : IntKind.i64.wrap (z + y) = z + y := IntWalk.i64_in _ (by omega)
          refine region_qtail 16 (by kernel_rfl) (by kernel_rfl) ?_
          simp only [blank, nopOf, Nat.reduceAdd, Nat.reduceEqDiff, Nat.reduceLeDiff, or_self, or_true, false_or, or_false, true_or, ↓reduceIte]
          repeat (go_big_quiet_step (fail))
          refine wpQuiet_nil ?_
          intro w4 hw
          have bd := below_of hw
          have HO4 := Lib.hid (HO1.out.below bd)
          have HB4 := Lib.hid (HB1.out.trans (bd.mono HB1.out.size))
          clear hw bd D1 D2
          obtain ⟨⟨q2, c2⟩, f2, hput⟩ := HO4.out.put HLL.out (show k < n by omega) (z + y)
          rw [HSET2.out] at hput
          have HR3 := Lib.hid hput
          have HB3 := Lib.hid (bl_set HB4.out (g := w.heap.size) k (Nat.le_refl _) (.int .i64 (z + y)))
          clear hput HSET2
          simp only [List.drop_succ_cons, List.drop_zero]
          (try dsimp only)
          go_wp2
          go_roundw
          case rel => exact ⟨k + 1, by omega, by go_num, HR3.out, HB3.out⟩
          case measure => simp [intOf]; omega
        by_cases h6 : js = 6
        · subst h6
          rw [sp_6 (i := k + 1) (by omega) (by omega)] at HSET
          have KE := Lib.hid (sev_any free ((n : Int) + 1) wr)
          have hall := evn_all free ((n : Int) + 1)
          have hlen : (pcV free n 6).length = n + 1 := by rw [pc_6, evn_lenI (by omega) (by omega)]; omega
          rw [← pc_6] at KE hall
          have HALL := Lib.hid hall
          have hix : ((k : Int) + 1 : Int) < ((pcV free n 6).length : Int) := by omega
          clear hall hf0
          go_wp2_with (fail)
          refine KE.out.mono ?_
          rintro e w1 ⟨v, rfl, r1, b1⟩
          obtain ⟨a1, c1, rfl, hin⟩ := r1.slice HALL.out
          obtain ⟨b2, o2, rfl, hbl, hc⟩ := hin.look (k := k + 1) (by omega)
          (try rw [Nat.add_sub_cancel] at hc HSET)
          obtain ⟨⟨q2, c2⟩, f2, hput⟩ := (HO.out.below b1).put HLL.out (show k < n by omega) ((pcV free n 6).getD (k + 1) 0)
          rw [HSET.out] at hput
          have HR3 := Lib.hid hput
          have HB3 := Lib.hid (bl_set (HB.out.trans (b1.mono HB.out.size)) (g := w.heap.size) k (Nat.le_refl _) (.int .i64 ((pcV free n 6).getD (k + 1) 0)))
          clear hput b1 r1 hin KE HSET HO
          generalize (pcV free n 6).getD (k + 1) 0 = z at *
          generalize (pcV free n 6).length = m at *
          (try dsimp only)
          go_wp2
          go_roundw
          case rel => exact ⟨k + 1, by omega, by go_num, HR3.out, HB3.out⟩
          case measure => simp [intOf]; omega
        · have HS0 := Lib.hid (sp_else (free := free) (many := n) (i := k + 1) (by omega) h4 h5 h6)
          have HR3 := Lib.hid (show RowI w.heap.size (.slice (some ⟨w.heap.size, 0, none⟩) n n) (spcK free n js (k + 1) ++ (List.replicate n 0).drop (k + 1)) wr by
            have h := HSET.out
            rw [HS0.out] at h
            rw [← h, show (spcK free n js k ++ (List.replicate n (0 : Int)).drop k).set k 0 = spcK free n js k ++ (List.replicate n (0 : Int)).drop k from by
              rw [List.set_append_right _ _ (by simp [spcK]), List.drop_replicate, show n - k = (n - k - 1) + 1 by omega, List.replicate_succ, show k - (spcK free n js k).length = 0 by simp [spcK], List.set_cons_zero]]
            exact HO.out)
          clear hf0
          go_wp2
          go_roundw
          case rel => exact ⟨k + 1, by omega, by go_num, HR3.out, HB.out⟩
          case measure => simp [intOf]; omega
      · have hhi : ¬ (k : Int) + 1 < (n : Int) := by omega
        have hk12 : (k : Int) < 12 := by omega
        have HO := Lib.hid (show RowI w.heap.size (.slice (some ⟨w.heap.size, 0, none⟩) n n) (scV free n js) wr by
          have : k = n - 1 := by omega
          unfold scV; rw [← this]; exact ho)
        have HB := Lib.hid hb
        clear ho hb
        go_wp2
        go_ret
        exact ⟨_, rfl, HO.out, HB.out⟩
end Go.Proofs.Ytnncdpkmhpjmbaa
end

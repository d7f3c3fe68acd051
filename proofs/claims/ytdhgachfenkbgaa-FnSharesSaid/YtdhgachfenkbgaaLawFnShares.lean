/-
  For every code of bytes, laws.FnShares returns true: shares add up to the whole, each is less than 1 from the exact share, a weight of 0 gets nothing; the code reads as before. Conditions: none.
-/
import Derived.Test.YtdhgachfenkbgaaCodeIn
import Derived.Test.YtdhgachfenkbgaaDr3
import Derived.Test.YtdhgachfenkbgaaShT
import Derived.Test.YtdhgachfenkbgaaSame
import Derived.Test.YtdhgachfenkbgaaShAt
import Derived.Deep.RegionHeld3
import Derived.Deep.RegionWith
namespace Go.Proofs.Ytdhgachfenkbgaa.fnShares
open Go.ChangeShapes Go.WideShapes Go.ChangeAt Go.RowKit
set_option maxRecDepth 20000

set_option maxRecDepth 100000 in
set_option maxHeartbeats 2000000 in
theorem walk (a : Option Addr) (len cap : Nat) (w : World) (hl : len ≤ 1048576) (hc : Code w a len) :
    Calls Try.prog 6 #[.slice a len cap] w fun e w' => e = .returned (.bool true) ∧ Below w.heap.size w w' := by
  go_enter Try.func6, Try.ntmps6
  go_wp2_with (first | (go_at_call 42; refine (draw_shares a len cap w hl hc).mono ?_; rintro e w1 ⟨n, v, zs, rfl, hn, hzl, hza, hr1, b1⟩) | (go_at_call 8; go_in))
  obtain ⟨az, cz, rfl, hz1⟩ := hr1.slice hza
  have HZ1 := Lib.hid hz1
  have B1 := Lib.hid b1
  clear hz1 hr1 hza b1 hn hc
  go_wp2_with (fail)
  refine (ish_any n az zs.length cz zs w1 HZ1.out (by omega)).mono ?_
  rintro e w2 ⟨v2, rfl, hr2, b2⟩
  have HXA := Lib.hid (shrL_all n zs)
  have hxl := shrL_le n zs
  obtain ⟨ax, cx, rfl, hx2⟩ := hr2.slice HXA.out
  have HZ2 := Lib.hid (HZ1.out.below b2)
  have HX2 := Lib.hid hx2
  have B2 := Lib.hid (B1.out.trans (b2.mono B1.out.size))
  clear hr2 hx2 b2 HZ1 B1
  go_wp2_with (fail)
  refine (ssh_any n az zs.length cz zs w2 HZ2.out (by omega)).mono ?_
  rintro e w3 ⟨v3, rfl, hr3, b3⟩
  obtain ⟨a3, c3, rfl, hx3⟩ := hr3.slice HXA.out
  have HZ3 := Lib.hid (HZ2.out.below b3)
  have HX3 := Lib.hid (HX2.out.below b3)
  have HY3 := Lib.hid hx3
  have B3 := Lib.hid (B2.out.trans (b3.mono B2.out.size))
  clear hr3 hx3 b3 HZ2 HX2 B2
  go_wp2_with (fail)
  refine (same_any ax a3 (shrL n zs).length cx c3 (shrL n zs) w3 HX3.out HY3.out (by omega)).mono ?_
  rintro e w4 ⟨rfl, b4⟩
  have HZ4 := Lib.hid (HZ3.out.below b4)
  have HX4 := Lib.hid (HX3.out.below b4)
  have B4 := Lib.hid (B3.out.trans (b4.mono B3.out.size))
  clear b4 HZ3 HX3 HY3 B3
  go_wp2_with (fail)
  refine (swok_any az zs.length cz zs w4 HZ4.out (by omega)).mono ?_
  rintro e w5 ⟨rfl, rfl⟩
  cases hw : wokI zs with
  | false =>
    have hx0 : (shrL n zs).length = 0 := by simp [shrL, hw]
    rw [hx0]
    go_wp2_with (fail)
    have hl7 := lit_ints w5 [1, 2] (by decide)
    have bl7 : Below w5.heap.size w5 (w5.alloc (.cells ([1, 2].map (Value.int .i64)).toArray 3)) := (Below.refl _ _).alloc (Nat.le_refl _) _
    refine (ish_any 7 _ 2 2 [1, 2] _ hl7 (by omega)).mono ?_
    rw [shr_seven]
    rintro e w16 ⟨v16, rfl, hr16, b16⟩
    obtain ⟨a16, c16, hv16, h16⟩ := hr16.slice (by unfold AllI; decide)
    have hv16' : v16 = .slice a16 2 c16 := hv16
    have h16' : Ints w16 a16 2 [2, 5] := h16
    have B7 := Lib.hid (B4.out.trans (bl7.mono B4.out.size))
    have B16 := Lib.hid (B7.out.trans (b16.mono B7.out.size))
    subst hv16'
    have H16 := Lib.hid h16'
    clear hl7 bl7 hr16 b16 h16 h16' hv16 B7
    go_wp2_with (fail)
    have hl25 := lit_ints w16 [2, 5] (by decide)
    have bl25 : Below w16.heap.size w16 (w16.alloc (.cells ([2, 5].map (Value.int .i64)).toArray 3)) := (Below.refl _ _).alloc (Nat.le_refl _) _
    refine (same_any _ _ 2 c16 2 [2, 5] _ (H16.out.below bl25) hl25 (by omega)).mono ?_
    rintro e w17 ⟨rfl, b17⟩
    have B18 := Lib.hid (B16.out.trans (bl25.mono B16.out.size))
    have B17 := Lib.hid (B18.out.trans (b17.mono B18.out.size))
    clear hl25 bl25 b17 B18
    go_wp2
    go_ret
    exact ⟨rfl, B17.out⟩
  | true =>
    have ⟨h64, hok⟩ := wok_all hw
    have hxe : (shrL n zs).length = zs.length := shrL_len hw
    have HOK := Lib.hid hok
    rw [hxe]
    rw [hxe] at hxl HX4
    clear hok
    have HB4 := Lib.hid (Below.refl w5.heap.size w5)
    go_wp2
    go_loop [6, 7, 8] (fun t u i => ∃ k : Nat, k ≤ zs.length ∧ t = .int .i64 (posI (lenI n) zs k) ∧ u = .int .i64 (wsum zs k) ∧ i = .int .i64 k) (fun _ _ i => zs.length - (intOf i).toNat)
    case atStart => exact ⟨0, Nat.zero_le _, by rw [pos_zero], rfl, rfl⟩
    case round =>
      obtain ⟨k, hk, rfl, rfl, rfl⟩ := hrel
      have ht := wsum_small HOK.out h64 hk
      have hp := pos_in (n := n) HOK.out h64 hk
      by_cases hlt : k < zs.length
      · obtain ⟨b, off, rfl, hbl, hc⟩ := HZ4.out.look hlt
        obtain ⟨b', off', rfl, hbl', hc'⟩ := HX4.out.look hlt
        rw [shrL_at hw hlt] at hc'
        have hlo : (0 : Int) ≤ (k : Int) := Int.natCast_nonneg _
        have hhi : (k : Int) < (zs.length : Int) := by omega
        have hn := HOK.out k hlt
        have hs : wsum zs k + zs.getD k 0 = wsum zs (k + 1) := rfl
        have hq := pos_succ (lenI n) zs k
        have ht1 := wsum_small HOK.out h64 (show k + 1 ≤ zs.length by omega)
        have hp1 := pos_in (n := n) HOK.out h64 (show k + 1 ≤ zs.length by omega)
        generalize zs.getD k 0 = z at *
        generalize shrI (lenI n) zs k = x at *
        go_wp2
        go_round
        case rel => exact ⟨k + 1, by omega, rfl, rfl, by go_num⟩
        case measure => simp [intOf]; omega
      · obtain rfl : k = zs.length := by omega
        go_wp2_with (fail)
        refine (sbr_any n (-1048576) 1048576 w5).mono ?_
        rintro e w6 ⟨rfl, rfl⟩
        rw [show brI n (-1048576) 1048576 = lenI n from rfl]
        go_wp2
        go_loopw [10] (fun i wr => ∃ k : Nat, k ≤ zs.length ∧ i = .int .i64 k ∧ Below w6.heap.size w6 wr) (fun i _ => zs.length - (intOf i).toNat)
        case atStart => exact ⟨0, Nat.zero_le _, rfl, HB4.out⟩
        case round =>
          obtain ⟨k, hk, rfl, hbr⟩ := hrel
          by_cases hlt : k < zs.length
          · by_cases hS : 1 ≤ wsum zs zs.length
            · have HZr := Lib.hid (HZ4.out.below hbr)
              have HXr := Lib.hid (HX4.out.below hbr)
              obtain ⟨b, off, rfl, hbl, hc⟩ := HZr.out.look hlt
              obtain ⟨b', off', rfl, hbl', hc'⟩ := HXr.out.look hlt
              rw [shrL_at hw hlt] at hc'
              have hlo : (0 : Int) ≤ (k : Int) := Int.natCast_nonneg _
              have hhi : (k : Int) < (zs.length : Int) := by omega
              have hz := HOK.out k hlt
              have hlow := shr_low (m := lenI n) (k := k) hS
              have hzero := shr_zero (m := lenI n) (zs := zs) (k := k)
              have hat : atI (shrL n zs) k = shrI (lenI n) zs k := by rw [atI_nat, shrL_at hw hlt]
              have hll := lenI_in n
              have hpr := mul56 hll.1 hll.2 hz.1 (show zs.getD k 0 ≤ 68719476736 by omega)
              have hfb := fdI_bound (b := wsum zs zs.length) hpr.1 hpr.2
              have HAT := Lib.hid hat
              have HD := Lib.hid (HZr.out.below ((Below.refl _ wr).drew))
              clear hat
              generalize zs.getD k 0 = z at *
              generalize shrI (lenI n) zs k = x at *
              go_wp2_with (fail)
              refine (sfd_any (lenI n * z) (wsum zs zs.length) wr (by omega) (by omega)).mono ?_
              rintro e w7 ⟨rfl, rfl⟩
              generalize fdI (lenI n * z) (wsum zs zs.length) = low at *
              have r1 : IntKind.i64.wrap (low + 1) = low + 1 := IntWalk.i64_in _ (by omega)
              have t1 : decide (x < low) = false := decide_eq_false (by omega)
              have t2 : decide (low + 1 < x) = false := decide_eq_false (by omega)
              by_cases hz0 : z = 0
              · obtain rfl : x = 0 := hzero hz0
                subst hz0
                clear hzero
                go_wp2
                refine wp_region_held_drew (S := fun w' => w'.cell? ⟨b', off' + k, none⟩ = some (.int .i64 0) ∧ w'.cell? ⟨b, off + k, none⟩ = some (.int .i64 0)) (by kernel_rfl) ⟨hc', hc⟩ (fun hHeld => ?_)
                refine wpAnyH_take (i := 0) (oi := ⟨some 78, Op.move (Operand.tmp 5), 59, _, _, _⟩) (v := ?_) rfl (by kernel_rfl) (by kernel_rfl) (by kernel_rfl) (fun _ _ _ h => h) (Or.inl ⟨by rfl, ?_⟩) (by assumption) ?_
                rotate_left
                · intro W hSW; (try dsimp only at hSW); go_simp <;> with_reducible rfl
                simp only [Act.put, List.setIfInBounds_toArray, List.set_cons_zero, List.set_cons_succ]
                refine wpAnyH_take (i := 1) (oi := ⟨some 79, Op.move (Operand.tmp 10), 3, _, _, _⟩) (v := ?_) rfl (by kernel_rfl) (by kernel_rfl) (by kernel_rfl) (fun _ _ _ h => h) (Or.inl ⟨by rfl, ?_⟩) (by assumption) ?_
                rotate_left
                · intro W hSW; (try dsimp only at hSW); go_simp <;> with_reducible rfl
                simp only [Act.put, List.setIfInBounds_toArray, List.set_cons_zero, List.set_cons_succ]
                refine wpAnyH_take (i := 2) (oi := ⟨some 80, Op.indexAddr 59 (Operand.tmp 78) (Operand.tmp 79), 0, _, _, _⟩) (v := ?_) rfl (by kernel_rfl) (by kernel_rfl) (by kernel_rfl) (fun _ _ _ h => h) (Or.inl ⟨by rfl, ?_⟩) (by assumption) ?_
                rotate_left
                · intro W hSW; (try dsimp only at hSW); go_simp <;> with_reducible rfl
                simp only [Act.put, List.setIfInBounds_toArray, List.set_cons_zero, List.set_cons_succ]
                refine wpAnyH_take (i := 3) (oi := ⟨some 81, Op.load 3 (Operand.tmp 80), 3, _, _, _⟩) (v := ?_) rfl (by kernel_rfl) (by kernel_rfl) (by kernel_rfl) (fun _ _ _ h => h) (Or.inl ⟨by rfl, ?_⟩) (by assumption) ?_
                rotate_left
                · intro W hSW; (try dsimp only at hSW); go_simp <;> with_reducible rfl
                simp only [Act.put, List.setIfInBounds_toArray, List.set_cons_zero, List.set_cons_succ]
                refine wpAnyH_take (i := 4) (oi := ⟨some 82, Op.move (Operand.tmp 11), 3, _, _, _⟩) (v := ?_) rfl (by kernel_rfl) (by kernel_rfl) (by kernel_rfl) (fun _ _ _ h => h) (Or.inl ⟨by rfl, ?_⟩) (by assumption) ?_
                rotate_left
                · intro W hSW; (try dsimp only at hSW); go_simp <;> with_reducible rfl
                simp only [Act.put, List.setIfInBounds_toArray, List.set_cons_zero, List.set_cons_succ]
                refine wpAnyH_take (i := 5) (oi := ⟨some 83, Op.binOp BinOp.lss 3 (Operand.tmp 81) (Operand.tmp 82) 3, 4, _, _, _⟩) (v := ?_) rfl (by kernel_rfl) (by kernel_rfl) (by kernel_rfl) (fun _ _ _ h => h) (Or.inl ⟨by rfl, ?_⟩) (by assumption) ?_
                rotate_left
                · intro W hSW; (try dsimp only at hSW); go_simp <;> with_reducible rfl
                simp only [Act.put, List.setIfInBounds_toArray, List.set_cons_zero, List.set_cons_succ]
                refine wpAnyH_take (i := 6) (oi := ⟨some 84, Op.move (Operand.tmp 83), 4, _, _, _⟩) (v := ?_) rfl (by kernel_rfl) (by kernel_rfl) (by kernel_rfl) (fun _ _ _ h => h) (Or.inl ⟨by rfl, ?_⟩) (by assumption) ?_
                rotate_left
                · intro W hSW; (try dsimp only at hSW); go_simp <;> with_reducible rfl
                simp only [Act.put, List.setIfInBounds_toArray, List.set_cons_zero, List.set_cons_succ]
                refine wpAnyH_take (i := 7) (oi := ⟨some 85, Op.move (Operand.tmp 5), 59, _, _, _⟩) (v := ?_) rfl (by kernel_rfl) (by kernel_rfl) (by kernel_rfl) (fun _ _ _ h => h) (Or.inl ⟨by rfl, ?_⟩) (by assumption) ?_
                rotate_left
                · intro W hSW; (try dsimp only at hSW); go_simp <;> with_reducible rfl
                simp only [Act.put, List.setIfInBounds_toArray, List.set_cons_zero, List.set_cons_succ]
                refine wpAnyH_take (i := 8) (oi := ⟨some 86, Op.move (Operand.tmp 10), 3, _, _, _⟩) (v := ?_) rfl (by kernel_rfl) (by kernel_rfl) (by kernel_rfl) (fun _ _ _ h => h) (Or.inl ⟨by rfl, ?_⟩) (by assumption) ?_
                rotate_left
                · intro W hSW; (try dsimp only at hSW); go_simp <;> with_reducible rfl
                simp only [Act.put, List.setIfInBounds_toArray, List.set_cons_zero, List.set_cons_succ]
                refine wpAnyH_take (i := 9) (oi := ⟨some 87, Op.indexAddr 59 (Operand.tmp 85) (Operand.tmp 86), 0, _, _, _⟩) (v := ?_) rfl (by kernel_rfl) (by kernel_rfl) (by kernel_rfl) (fun _ _ _ h => h) (Or.inl ⟨by rfl, ?_⟩) (by assumption) ?_
                rotate_left
                · intro W hSW; (try dsimp only at hSW); go_simp <;> with_reducible rfl
                simp only [Act.put, List.setIfInBounds_toArray, List.set_cons_zero, List.set_cons_succ]
                refine wpAnyH_take (i := 10) (oi := ⟨some 88, Op.load 3 (Operand.tmp 87), 3, _, _, _⟩) (v := ?_) rfl (by kernel_rfl) (by kernel_rfl) (by kernel_rfl) (fun _ _ _ h => h) (Or.inl ⟨by rfl, ?_⟩) (by assumption) ?_
                rotate_left
                · intro W hSW; (try dsimp only at hSW); go_simp <;> with_reducible rfl
                simp only [Act.put, List.setIfInBounds_toArray, List.set_cons_zero, List.set_cons_succ]
                refine wpAnyH_take (i := 11) (oi := ⟨some 89, Op.move (Operand.tmp 11), 3, _, _, _⟩) (v := ?_) rfl (by kernel_rfl) (by kernel_rfl) (by kernel_rfl) (fun _ _ _ h => h) (Or.inl ⟨by rfl, ?_⟩) (by assumption) ?_
                rotate_left
                · intro W hSW; (try dsimp only at hSW); go_simp <;> with_reducible rfl
                simp only [Act.put, List.setIfInBounds_toArray, List.set_cons_zero, List.set_cons_succ]
                refine wpAnyH_take (i := 12) (oi := ⟨some 90, Op.binOp BinOp.add 3 (Operand.tmp 89) (Operand.const (Value.int IntKind.i64 1)) 3, 3, _, _, _⟩) (v := ?_) rfl (by kernel_rfl) (by kernel_rfl) (by kernel_rfl) (fun _ _ _ h => h) (Or.inl ⟨by rfl, ?_⟩) (by assumption) ?_
                rotate_left
                · intro W hSW; (try dsimp only at hSW); go_simp <;> with_reducible rfl
                simp only [Act.put, List.setIfInBounds_toArray, List.set_cons_zero, List.set_cons_succ]
                refine wpAnyH_take (i := 13) (oi := ⟨some 91, Op.binOp BinOp.gtr 3 (Operand.tmp 88) (Operand.tmp 90) 3, 4, _, _, _⟩) (v := ?_) rfl (by kernel_rfl) (by kernel_rfl) (by kernel_rfl) (fun _ _ _ h => h) (Or.inl ⟨by rfl, ?_⟩) (by assumption) ?_
                rotate_left
                · intro W hSW; (try dsimp only at hSW); go_simp <;> with_reducible rfl
                simp only [Act.put, List.setIfInBounds_toArray, List.set_cons_zero, List.set_cons_succ]
                refine wpAnyH_take (i := 14) (oi := ⟨some 92, Op.pick (Operand.tmp 84) (Operand.const (Value.bool true)) (Operand.tmp 91), 4, _, _, _⟩) (v := ?_) rfl (by kernel_rfl) (by kernel_rfl) (by kernel_rfl) (fun _ _ _ h => h) (Or.inl ⟨by rfl, ?_⟩) (by assumption) ?_
                rotate_left
                · intro W hSW; (try dsimp only at hSW); go_simp <;> with_reducible rfl
                simp only [Act.put, List.setIfInBounds_toArray, List.set_cons_zero, List.set_cons_succ]
                refine wpAnyH_take (i := 15) (oi := ⟨some 93, Op.move (Operand.tmp 92), 4, _, _, _⟩) (v := ?_) rfl (by kernel_rfl) (by kernel_rfl) (by kernel_rfl) (fun _ _ _ h => h) (Or.inl ⟨by rfl, ?_⟩) (by assumption) ?_
                rotate_left
                · intro W hSW; (try dsimp only at hSW); go_simp <;> with_reducible rfl
                simp only [Act.put, List.setIfInBounds_toArray, List.set_cons_zero, List.set_cons_succ]
                refine wpAnyH_take (i := 16) (oi := ⟨some 94, Op.move (Operand.tmp 4), 59, _, _, _⟩) (v := ?_) rfl (by kernel_rfl) (by kernel_rfl) (by kernel_rfl) (fun _ _ _ h => h) (Or.inl ⟨by rfl, ?_⟩) (by assumption) ?_
                rotate_left
                · intro W hSW; (try dsimp only at hSW); go_simp <;> with_reducible rfl
                simp only [Act.put, List.setIfInBounds_toArray, List.set_cons_zero, List.set_cons_succ]
                refine wpAnyH_take (i := 17) (oi := ⟨some 95, Op.move (Operand.tmp 10), 3, _, _, _⟩) (v := ?_) rfl (by kernel_rfl) (by kernel_rfl) (by kernel_rfl) (fun _ _ _ h => h) (Or.inl ⟨by rfl, ?_⟩) (by assumption) ?_
                rotate_left
                · intro W hSW; (try dsimp only at hSW); go_simp <;> with_reducible rfl
                simp only [Act.put, List.setIfInBounds_toArray, List.set_cons_zero, List.set_cons_succ]
                refine wpAnyH_take (i := 18) (oi := ⟨some 96, Op.indexAddr 59 (Operand.tmp 94) (Operand.tmp 95), 0, _, _, _⟩) (v := ?_) rfl (by kernel_rfl) (by kernel_rfl) (by kernel_rfl) (fun _ _ _ h => h) (Or.inl ⟨by rfl, ?_⟩) (by assumption) ?_
                rotate_left
                · intro W hSW; (try dsimp only at hSW); go_simp <;> with_reducible rfl
                simp only [Act.put, List.setIfInBounds_toArray, List.set_cons_zero, List.set_cons_succ]
                refine wpAnyH_take (i := 19) (oi := ⟨some 97, Op.load 3 (Operand.tmp 96), 3, _, _, _⟩) (v := ?_) rfl (by kernel_rfl) (by kernel_rfl) (by kernel_rfl) (fun _ _ _ h => h) (Or.inl ⟨by rfl, ?_⟩) (by assumption) ?_
                rotate_left
                · intro W hSW; (try dsimp only at hSW); go_simp <;> with_reducible rfl
                simp only [Act.put, List.setIfInBounds_toArray, List.set_cons_zero, List.set_cons_succ]
                refine wpAnyH_take (i := 20) (oi := ⟨some 98, Op.binOp BinOp.eql 3 (Operand.tmp 97) (Operand.const (Value.int IntKind.i64 0)) 3, 4, _, _, _⟩) (v := ?_) rfl (by kernel_rfl) (by kernel_rfl) (by kernel_rfl) (fun _ _ _ h => h) (Or.inl ⟨by rfl, ?_⟩) (by assumption) ?_
                rotate_left
                · intro W hSW; (try dsimp only at hSW); go_simp <;> with_reducible rfl
                simp only [Act.put, List.setIfInBounds_toArray, List.set_cons_zero, List.set_cons_succ]
                refine wpAnyH_take (i := 21) (oi := ⟨some 99, Op.move (Operand.tmp 98), 4, _, _, _⟩) (v := ?_) rfl (by kernel_rfl) (by kernel_rfl) (by kernel_rfl) (fun _ _ _ h => h) (Or.inl ⟨by rfl, ?_⟩) (by assumption) ?_
                rotate_left
                · intro W hSW; (try dsimp only at hSW); go_simp <;> with_reducible rfl
                simp only [Act.put, List.setIfInBounds_toArray, List.set_cons_zero, List.set_cons_succ]
                refine wpAnyH_take (i := 22) (oi := ⟨some 100, Op.move (Operand.tmp 5), 59, _, _, _⟩) (v := ?_) rfl (by kernel_rfl) (by kernel_rfl) (by kernel_rfl) (fun _ _ _ h => h) (Or.inl ⟨by rfl, ?_⟩) (by assumption) ?_
                rotate_left
                · intro W hSW; (try dsimp only at hSW); go_simp <;> with_reducible rfl
                simp only [Act.put, List.setIfInBounds_toArray, List.set_cons_zero, List.set_cons_succ]
                refine wpAnyH_take (i := 23) (oi := ⟨some 101, Op.move (Operand.tmp 10), 3, _, _, _⟩) (v := ?_) rfl (by kernel_rfl) (by kernel_rfl) (by kernel_rfl) (fun _ _ _ h => h) (Or.inl ⟨by rfl, ?_⟩) (by assumption) ?_
                rotate_left
                · intro W hSW; (try dsimp only at hSW); go_simp <;> with_reducible rfl
                simp only [Act.put, List.setIfInBounds_toArray, List.set_cons_zero, List.set_cons_succ]
                refine wpAnyH_take (i := 24) (oi := ⟨some 102, Op.indexAddr 59 (Operand.tmp 100) (Operand.tmp 101), 0, _, _, _⟩) (v := ?_) rfl (by kernel_rfl) (by kernel_rfl) (by kernel_rfl) (fun _ _ _ h => h) (Or.inl ⟨by rfl, ?_⟩) (by assumption) ?_
                rotate_left
                · intro W hSW; (try dsimp only at hSW); go_simp <;> with_reducible rfl
                simp only [Act.put, List.setIfInBounds_toArray, List.set_cons_zero, List.set_cons_succ]
                refine wpAnyH_take (i := 25) (oi := ⟨some 103, Op.load 3 (Operand.tmp 102), 3, _, _, _⟩) (v := ?_) rfl (by kernel_rfl) (by kernel_rfl) (by kernel_rfl) (fun _ _ _ h => h) (Or.inl ⟨by rfl, ?_⟩) (by assumption) ?_
                rotate_left
                · intro W hSW; (try dsimp only at hSW); go_simp <;> with_reducible rfl
                simp only [Act.put, List.setIfInBounds_toArray, List.set_cons_zero, List.set_cons_succ]
                refine wpAnyH_take (i := 26) (oi := ⟨some 104, Op.binOp BinOp.neq 3 (Operand.tmp 103) (Operand.const (Value.int IntKind.i64 0)) 3, 4, _, _, _⟩) (v := ?_) rfl (by kernel_rfl) (by kernel_rfl) (by kernel_rfl) (fun _ _ _ h => h) (Or.inl ⟨by rfl, ?_⟩) (by assumption) ?_
                rotate_left
                · intro W hSW; (try dsimp only at hSW); go_simp <;> with_reducible rfl
                simp only [Act.put, List.setIfInBounds_toArray, List.set_cons_zero, List.set_cons_succ]
                refine wpAnyH_take (i := 27) (oi := ⟨some 105, Op.pick (Operand.tmp 99) (Operand.tmp 104) (Operand.const (Value.bool false)), 4, _, _, _⟩) (v := ?_) rfl (by kernel_rfl) (by kernel_rfl) (by kernel_rfl) (fun _ _ _ h => h) (Or.inl ⟨by rfl, ?_⟩) (by assumption) ?_
                rotate_left
                · intro W hSW; (try dsimp only at hSW); go_simp <;> with_reducible rfl
                simp only [Act.put, List.setIfInBounds_toArray, List.set_cons_zero, List.set_cons_succ]
                refine wpAnyH_take (i := 28) (oi := ⟨some 106, Op.pick (Operand.tmp 93) (Operand.const (Value.bool true)) (Operand.tmp 105), 4, _, _, _⟩) (v := ?_) rfl (by kernel_rfl) (by kernel_rfl) (by kernel_rfl) (fun _ _ _ h => h) (Or.inl ⟨by rfl, ?_⟩) (by assumption) ?_
                rotate_left
                · intro W hSW; (try dsimp only at hSW); go_simp <;> with_reducible rfl
                simp only [Act.put, List.setIfInBounds_toArray, List.set_cons_zero, List.set_cons_succ]
                refine wpAnyH_take (i := 29) (oi := ⟨some 107, Op.move (Operand.tmp 106), 4, _, _, _⟩) (v := ?_) rfl (by kernel_rfl) (by kernel_rfl) (by kernel_rfl) (fun _ _ _ h => h) (Or.inl ⟨by rfl, ?_⟩) (by assumption) ?_
                rotate_left
                · intro W hSW; (try dsimp only at hSW); go_simp <;> with_reducible rfl
                simp only [Act.put, List.setIfInBounds_toArray, List.set_cons_zero, List.set_cons_succ]
                refine wpAnyH_take (i := 30) (oi := ⟨some 108, Op.move (Operand.tmp 3), 3, _, _, _⟩) (v := ?_) rfl (by kernel_rfl) (by kernel_rfl) (by kernel_rfl) (fun _ _ _ h => h) (Or.inl ⟨by rfl, ?_⟩) (by assumption) ?_
                rotate_left
                · intro W hSW; (try dsimp only at hSW); go_simp <;> with_reducible rfl
                simp only [Act.put, List.setIfInBounds_toArray, List.set_cons_zero, List.set_cons_succ]
                refine wpAnyH_take (i := 31) (oi := ⟨some 109, Op.move (Operand.tmp 4), 59, _, _, _⟩) (v := ?_) rfl (by kernel_rfl) (by kernel_rfl) (by kernel_rfl) (fun _ _ _ h => h) (Or.inl ⟨by rfl, ?_⟩) (by assumption) ?_
                rotate_left
                · intro W hSW; (try dsimp only at hSW); go_simp <;> with_reducible rfl
                simp only [Act.put, List.setIfInBounds_toArray, List.set_cons_zero, List.set_cons_succ]
                refine wpAnyH_take (i := 32) (oi := ⟨some 110, Op.move (Operand.tmp 10), 3, _, _, _⟩) (v := ?_) rfl (by kernel_rfl) (by kernel_rfl) (by kernel_rfl) (fun _ _ _ h => h) (Or.inl ⟨by rfl, ?_⟩) (by assumption) ?_
                rotate_left
                · intro W hSW; (try dsimp only at hSW); go_simp <;> with_reducible rfl
                simp only [Act.put, List.setIfInBounds_toArray, List.set_cons_zero, List.set_cons_succ]
                refine wpAnyH_take (i := 34) (oi := ⟨some 112, Op.move (Operand.tmp 5), 59, _, _, _⟩) (v := ?_) rfl (by kernel_rfl) (by kernel_rfl) (by kernel_rfl) (fun _ _ _ h => h) (Or.inl ⟨by rfl, ?_⟩) (by assumption) ?_
                rotate_left
                · intro W hSW; (try dsimp only at hSW); go_simp <;> with_reducible rfl
                simp only [Act.put, List.setIfInBounds_toArray, List.set_cons_zero, List.set_cons_succ]
                refine wpAnyH_take (i := 35) (oi := ⟨some 113, Op.move (Operand.tmp 10), 3, _, _, _⟩) (v := ?_) rfl (by kernel_rfl) (by kernel_rfl) (by kernel_rfl) (fun _ _ _ h => h) (Or.inl ⟨by rfl, ?_⟩) (by assumption) ?_
                rotate_left
                · intro W hSW; (try dsimp only at hSW); go_simp <;> with_reducible rfl
                simp only [Act.put, List.setIfInBounds_toArray, List.set_cons_zero, List.set_cons_succ]
                refine wpAnyH_take (i := 36) (oi := ⟨some 114, Op.indexAddr 59 (Operand.tmp 112) (Operand.tmp 113), 0, _, _, _⟩) (v := ?_) rfl (by kernel_rfl) (by kernel_rfl) (by kernel_rfl) (fun _ _ _ h => h) (Or.inl ⟨by rfl, ?_⟩) (by assumption) ?_
                rotate_left
                · intro W hSW; (try dsimp only at hSW); go_simp <;> with_reducible rfl
                simp only [Act.put, List.setIfInBounds_toArray, List.set_cons_zero, List.set_cons_succ]
                refine wpAnyH_take (i := 37) (oi := ⟨some 115, Op.load 3 (Operand.tmp 114), 3, _, _, _⟩) (v := ?_) rfl (by kernel_rfl) (by kernel_rfl) (by kernel_rfl) (fun _ _ _ h => h) (Or.inl ⟨by rfl, ?_⟩) (by assumption) ?_
                rotate_left
                · intro W hSW; (try dsimp only at hSW); go_simp <;> with_reducible rfl
                simp only [Act.put, List.setIfInBounds_toArray, List.set_cons_zero, List.set_cons_succ]
                refine wpAnyH_ready (rs := [33]) (by kernel_rfl) (by simp) ?_
                refine AllReadyH.cons rfl (fun K hK => ?_) AllReadyH.nil
                go_simp
                go_wp2_with (fail)
                refine (ishat_any n _ zs.length cz zs k _ HD.out (by omega)).mono ?_
                rw [HAT.out]
                rintro e w8 ⟨rfl, hb8⟩
                go_wp2
                refine hK.out _ _ ⟨(hb8.cell (p := ⟨b', off' + k, none⟩) hbl').trans hc', (hb8.cell (p := ⟨b, off + k, none⟩) hbl).trans hc⟩ (fun hHeld2 => ?_)
                clear hK K hHeld
                refine wpAnyH_take (i := 38) (oi := ⟨some 116, Op.binOp BinOp.neq 3 (Operand.tmp 111) (Operand.tmp 115) 3, 4, _, _, _⟩) (v := ?_) rfl (by kernel_rfl) (by kernel_rfl) (by kernel_rfl) (fun _ _ _ h => h) (Or.inl ⟨by rfl, ?_⟩) (by assumption) ?_
                rotate_left
                · intro W hSW; (try dsimp only at hSW); go_simp <;> with_reducible rfl
                simp only [Act.put, List.setIfInBounds_toArray, List.set_cons_zero, List.set_cons_succ]
                refine wpAnyH_take (i := 39) (oi := ⟨some 117, Op.pick (Operand.tmp 107) (Operand.const (Value.bool true)) (Operand.tmp 116), 4, _, _, _⟩) (v := ?_) rfl (by kernel_rfl) (by kernel_rfl) (by kernel_rfl) (fun _ _ _ h => h) (Or.inl ⟨by rfl, ?_⟩) (by assumption) ?_
                rotate_left
                · intro W hSW; (try dsimp only at hSW); go_simp <;> with_reducible rfl
                simp only [Act.put, List.setIfInBounds_toArray, List.set_cons_zero, List.set_cons_succ]
                refine wpAnyH_done (by kernel_rfl) ?_ _
                clear hHeld2
                have HB8 := Lib.hid (hbr.drew.trans (hb8.mono hbr.size))
                clear hb8
                go_wp2
                go_roundw
                case rel => exact ⟨k + 1, by omega, by go_num, HB8.out⟩
                case measure => simp [intOf]; omega
              · have t3 : decide (z = 0) = false := decide_eq_false hz0
                have t4 : (z == 0) = false := by simpa using hz0
                clear hzero
                go_wp2
                refine wp_region_held_drew (S := fun w' => w'.cell? ⟨b', off' + k, none⟩ = some (.int .i64 x) ∧ w'.cell? ⟨b, off + k, none⟩ = some (.int .i64 z)) (by kernel_rfl) ⟨hc', hc⟩ (fun hHeld => ?_)
                refine wpAnyH_take (i := 0) (oi := ⟨some 78, Op.move (Operand.tmp 5), 59, _, _, _⟩) (v := ?_) rfl (by kernel_rfl) (by kernel_rfl) (by kernel_rfl) (fun _ _ _ h => h) (Or.inl ⟨by rfl, ?_⟩) (by assumption) ?_
                rotate_left
                · intro W hSW; (try dsimp only at hSW); go_simp <;> with_reducible rfl
                simp only [Act.put, List.setIfInBounds_toArray, List.set_cons_zero, List.set_cons_succ]
                refine wpAnyH_take (i := 1) (oi := ⟨some 79, Op.move (Operand.tmp 10), 3, _, _, _⟩) (v := ?_) rfl (by kernel_rfl) (by kernel_rfl) (by kernel_rfl) (fun _ _ _ h => h) (Or.inl ⟨by rfl, ?_⟩) (by assumption) ?_
                rotate_left
                · intro W hSW; (try dsimp only at hSW); go_simp <;> with_reducible rfl
                simp only [Act.put, List.setIfInBounds_toArray, List.set_cons_zero, List.set_cons_succ]
                refine wpAnyH_take (i := 2) (oi := ⟨some 80, Op.indexAddr 59 (Operand.tmp 78) (Operand.tmp 79), 0, _, _, _⟩) (v := ?_) rfl (by kernel_rfl) (by kernel_rfl) (by kernel_rfl) (fun _ _ _ h => h) (Or.inl ⟨by rfl, ?_⟩) (by assumption) ?_
                rotate_left
                · intro W hSW; (try dsimp only at hSW); go_simp <;> with_reducible rfl
                simp only [Act.put, List.setIfInBounds_toArray, List.set_cons_zero, List.set_cons_succ]
                refine wpAnyH_take (i := 3) (oi := ⟨some 81, Op.load 3 (Operand.tmp 80), 3, _, _, _⟩) (v := ?_) rfl (by kernel_rfl) (by kernel_rfl) (by kernel_rfl) (fun _ _ _ h => h) (Or.inl ⟨by rfl, ?_⟩) (by assumption) ?_
                rotate_left
                · intro W hSW; (try dsimp only at hSW); go_simp <;> with_reducible rfl
                simp only [Act.put, List.setIfInBounds_toArray, List.set_cons_zero, List.set_cons_succ]
                refine wpAnyH_take (i := 4) (oi := ⟨some 82, Op.move (Operand.tmp 11), 3, _, _, _⟩) (v := ?_) rfl (by kernel_rfl) (by kernel_rfl) (by kernel_rfl) (fun _ _ _ h => h) (Or.inl ⟨by rfl, ?_⟩) (by assumption) ?_
                rotate_left
                · intro W hSW; (try dsimp only at hSW); go_simp <;> with_reducible rfl
                simp only [Act.put, List.setIfInBounds_toArray, List.set_cons_zero, List.set_cons_succ]
                refine wpAnyH_take (i := 5) (oi := ⟨some 83, Op.binOp BinOp.lss 3 (Operand.tmp 81) (Operand.tmp 82) 3, 4, _, _, _⟩) (v := ?_) rfl (by kernel_rfl) (by kernel_rfl) (by kernel_rfl) (fun _ _ _ h => h) (Or.inl ⟨by rfl, ?_⟩) (by assumption) ?_
                rotate_left
                · intro W hSW; (try dsimp only at hSW); go_simp <;> with_reducible rfl
                simp only [Act.put, List.setIfInBounds_toArray, List.set_cons_zero, List.set_cons_succ]
                refine wpAnyH_take (i := 6) (oi := ⟨some 84, Op.move (Operand.tmp 83), 4, _, _, _⟩) (v := ?_) rfl (by kernel_rfl) (by kernel_rfl) (by kernel_rfl) (fun _ _ _ h => h) (Or.inl ⟨by rfl, ?_⟩) (by assumption) ?_
                rotate_left
                · intro W hSW; (try dsimp only at hSW); go_simp <;> with_reducible rfl
                simp only [Act.put, List.setIfInBounds_toArray, List.set_cons_zero, List.set_cons_succ]
                refine wpAnyH_take (i := 7) (oi := ⟨some 85, Op.move (Operand.tmp 5), 59, _, _, _⟩) (v := ?_) rfl (by kernel_rfl) (by kernel_rfl) (by kernel_rfl) (fun _ _ _ h => h) (Or.inl ⟨by rfl, ?_⟩) (by assumption) ?_
                rotate_left
                · intro W hSW; (try dsimp only at hSW); go_simp <;> with_reducible rfl
                simp only [Act.put, List.setIfInBounds_toArray, List.set_cons_zero, List.set_cons_succ]
                refine wpAnyH_take (i := 8) (oi := ⟨some 86, Op.move (Operand.tmp 10), 3, _, _, _⟩) (v := ?_) rfl (by kernel_rfl) (by kernel_rfl) (by kernel_rfl) (fun _ _ _ h => h) (Or.inl ⟨by rfl, ?_⟩) (by assumption) ?_
                rotate_left
                · intro W hSW; (try dsimp only at hSW); go_simp <;> with_reducible rfl
                simp only [Act.put, List.setIfInBounds_toArray, List.set_cons_zero, List.set_cons_succ]
                refine wpAnyH_take (i := 9) (oi := ⟨some 87, Op.indexAddr 59 (Operand.tmp 85) (Operand.tmp 86), 0, _, _, _⟩) (v := ?_) rfl (by kernel_rfl) (by kernel_rfl) (by kernel_rfl) (fun _ _ _ h => h) (Or.inl ⟨by rfl, ?_⟩) (by assumption) ?_
                rotate_left
                · intro W hSW; (try dsimp only at hSW); go_simp <;> with_reducible rfl
                simp only [Act.put, List.setIfInBounds_toArray, List.set_cons_zero, List.set_cons_succ]
                refine wpAnyH_take (i := 10) (oi := ⟨some 88, Op.load 3 (Operand.tmp 87), 3, _, _, _⟩) (v := ?_) rfl (by kernel_rfl) (by kernel_rfl) (by kernel_rfl) (fun _ _ _ h => h) (Or.inl ⟨by rfl, ?_⟩) (by assumption) ?_
                rotate_left
                · intro W hSW; (try dsimp only at hSW); go_simp <;> with_reducible rfl
                simp only [Act.put, List.setIfInBounds_toArray, List.set_cons_zero, List.set_cons_succ]
                refine wpAnyH_take (i := 11) (oi := ⟨some 89, Op.move (Operand.tmp 11), 3, _, _, _⟩) (v := ?_) rfl (by kernel_rfl) (by kernel_rfl) (by kernel_rfl) (fun _ _ _ h => h) (Or.inl ⟨by rfl, ?_⟩) (by assumption) ?_
                rotate_left
                · intro W hSW; (try dsimp only at hSW); go_simp <;> with_reducible rfl
                simp only [Act.put, List.setIfInBounds_toArray, List.set_cons_zero, List.set_cons_succ]
                refine wpAnyH_take (i := 12) (oi := ⟨some 90, Op.binOp BinOp.add 3 (Operand.tmp 89) (Operand.const (Value.int IntKind.i64 1)) 3, 3, _, _, _⟩) (v := ?_) rfl (by kernel_rfl) (by kernel_rfl) (by kernel_rfl) (fun _ _ _ h => h) (Or.inl ⟨by rfl, ?_⟩) (by assumption) ?_
                rotate_left
                · intro W hSW; (try dsimp only at hSW); go_simp <;> with_reducible rfl
                simp only [Act.put, List.setIfInBounds_toArray, List.set_cons_zero, List.set_cons_succ]
                refine wpAnyH_take (i := 13) (oi := ⟨some 91, Op.binOp BinOp.gtr 3 (Operand.tmp 88) (Operand.tmp 90) 3, 4, _, _, _⟩) (v := ?_) rfl (by kernel_rfl) (by kernel_rfl) (by kernel_rfl) (fun _ _ _ h => h) (Or.inl ⟨by rfl, ?_⟩) (by assumption) ?_
                rotate_left
                · intro W hSW; (try dsimp only at hSW); go_simp <;> with_reducible rfl
                simp only [Act.put, List.setIfInBounds_toArray, List.set_cons_zero, List.set_cons_succ]
                refine wpAnyH_take (i := 14) (oi := ⟨some 92, Op.pick (Operand.tmp 84) (Operand.const (Value.bool true)) (Operand.tmp 91), 4, _, _, _⟩) (v := ?_) rfl (by kernel_rfl) (by kernel_rfl) (by kernel_rfl) (fun _ _ _ h => h) (Or.inl ⟨by rfl, ?_⟩) (by assumption) ?_
                rotate_left
                · intro W hSW; (try dsimp only at hSW); go_simp <;> with_reducible rfl
                simp only [Act.put, List.setIfInBounds_toArray, List.set_cons_zero, List.set_cons_succ]
                refine wpAnyH_take (i := 15) (oi := ⟨some 93, Op.move (Operand.tmp 92), 4, _, _, _⟩) (v := ?_) rfl (by kernel_rfl) (by kernel_rfl) (by kernel_rfl) (fun _ _ _ h => h) (Or.inl ⟨by rfl, ?_⟩) (by assumption) ?_
                rotate_left
                · intro W hSW; (try dsimp only at hSW); go_simp <;> with_reducible rfl
                simp only [Act.put, List.setIfInBounds_toArray, List.set_cons_zero, List.set_cons_succ]
                refine wpAnyH_take (i := 16) (oi := ⟨some 94, Op.move (Operand.tmp 4), 59, _, _, _⟩) (v := ?_) rfl (by kernel_rfl) (by kernel_rfl) (by kernel_rfl) (fun _ _ _ h => h) (Or.inl ⟨by rfl, ?_⟩) (by assumption) ?_
                rotate_left
                · intro W hSW; (try dsimp only at hSW); go_simp <;> with_reducible rfl
                simp only [Act.put, List.setIfInBounds_toArray, List.set_cons_zero, List.set_cons_succ]
                refine wpAnyH_take (i := 17) (oi := ⟨some 95, Op.move (Operand.tmp 10), 3, _, _, _⟩) (v := ?_) rfl (by kernel_rfl) (by kernel_rfl) (by kernel_rfl) (fun _ _ _ h => h) (Or.inl ⟨by rfl, ?_⟩) (by assumption) ?_
                rotate_left
                · intro W hSW; (try dsimp only at hSW); go_simp <;> with_reducible rfl
                simp only [Act.put, List.setIfInBounds_toArray, List.set_cons_zero, List.set_cons_succ]
                refine wpAnyH_take (i := 18) (oi := ⟨some 96, Op.indexAddr 59 (Operand.tmp 94) (Operand.tmp 95), 0, _, _, _⟩) (v := ?_) rfl (by kernel_rfl) (by kernel_rfl) (by kernel_rfl) (fun _ _ _ h => h) (Or.inl ⟨by rfl, ?_⟩) (by assumption) ?_
                rotate_left
                · intro W hSW; (try dsimp only at hSW); go_simp <;> with_reducible rfl
                simp only [Act.put, List.setIfInBounds_toArray, List.set_cons_zero, List.set_cons_succ]
                refine wpAnyH_take (i := 19) (oi := ⟨some 97, Op.load 3 (Operand.tmp 96), 3, _, _, _⟩) (v := ?_) rfl (by kernel_rfl) (by kernel_rfl) (by kernel_rfl) (fun _ _ _ h => h) (Or.inl ⟨by rfl, ?_⟩) (by assumption) ?_
                rotate_left
                · intro W hSW; (try dsimp only at hSW); go_simp <;> with_reducible rfl
                simp only [Act.put, List.setIfInBounds_toArray, List.set_cons_zero, List.set_cons_succ]
                refine wpAnyH_take (i := 20) (oi := ⟨some 98, Op.binOp BinOp.eql 3 (Operand.tmp 97) (Operand.const (Value.int IntKind.i64 0)) 3, 4, _, _, _⟩) (v := ?_) rfl (by kernel_rfl) (by kernel_rfl) (by kernel_rfl) (fun _ _ _ h => h) (Or.inl ⟨by rfl, ?_⟩) (by assumption) ?_
                rotate_left
                · intro W hSW; (try dsimp only at hSW); go_simp <;> with_reducible rfl
                simp only [Act.put, List.setIfInBounds_toArray, List.set_cons_zero, List.set_cons_succ]
                refine wpAnyH_take (i := 21) (oi := ⟨some 99, Op.move (Operand.tmp 98), 4, _, _, _⟩) (v := ?_) rfl (by kernel_rfl) (by kernel_rfl) (by kernel_rfl) (fun _ _ _ h => h) (Or.inl ⟨by rfl, ?_⟩) (by assumption) ?_
                rotate_left
                · intro W hSW; (try dsimp only at hSW); go_simp <;> with_reducible rfl
                simp only [Act.put, List.setIfInBounds_toArray, List.set_cons_zero, List.set_cons_succ]
                refine wpAnyH_take (i := 22) (oi := ⟨some 100, Op.move (Operand.tmp 5), 59, _, _, _⟩) (v := undef) rfl (by kernel_rfl) (by kernel_rfl) (by kernel_rfl) (fun _ _ _ h => h) (Or.inr ⟨by rfl, rfl⟩) (by assumption) ?_
                simp only [Act.put, List.setIfInBounds_toArray, List.set_cons_zero, List.set_cons_succ]
                refine wpAnyH_take (i := 23) (oi := ⟨some 101, Op.move (Operand.tmp 10), 3, _, _, _⟩) (v := undef) rfl (by kernel_rfl) (by kernel_rfl) (by kernel_rfl) (fun _ _ _ h => h) (Or.inr ⟨by rfl, rfl⟩) (by assumption) ?_
                simp only [Act.put, List.setIfInBounds_toArray, List.set_cons_zero, List.set_cons_succ]
                refine wpAnyH_take (i := 24) (oi := ⟨some 102, Op.indexAddr 59 (Operand.tmp 100) (Operand.tmp 101), 0, _, _, _⟩) (v := undef) rfl (by kernel_rfl) (by kernel_rfl) (by kernel_rfl) (fun _ _ _ h => h) (Or.inr ⟨by rfl, rfl⟩) (by assumption) ?_
                simp only [Act.put, List.setIfInBounds_toArray, List.set_cons_zero, List.set_cons_succ]
                refine wpAnyH_take (i := 25) (oi := ⟨some 103, Op.load 3 (Operand.tmp 102), 3, _, _, _⟩) (v := undef) rfl (by kernel_rfl) (by kernel_rfl) (by kernel_rfl) (fun _ _ _ h => h) (Or.inr ⟨by rfl, rfl⟩) (by assumption) ?_
                simp only [Act.put, List.setIfInBounds_toArray, List.set_cons_zero, List.set_cons_succ]
                refine wpAnyH_take (i := 26) (oi := ⟨some 104, Op.binOp BinOp.neq 3 (Operand.tmp 103) (Operand.const (Value.int IntKind.i64 0)) 3, 4, _, _, _⟩) (v := undef) rfl (by kernel_rfl) (by kernel_rfl) (by kernel_rfl) (fun _ _ _ h => h) (Or.inr ⟨by rfl, rfl⟩) (by assumption) ?_
                simp only [Act.put, List.setIfInBounds_toArray, List.set_cons_zero, List.set_cons_succ]
                refine wpAnyH_take (i := 27) (oi := ⟨some 105, Op.pick (Operand.tmp 99) (Operand.tmp 104) (Operand.const (Value.bool false)), 4, _, _, _⟩) (v := ?_) rfl (by kernel_rfl) (by kernel_rfl) (by kernel_rfl) (fun _ _ _ h => h) (Or.inl ⟨by rfl, ?_⟩) (by assumption) ?_
                rotate_left
                · intro W hSW; (try dsimp only at hSW); go_simp <;> with_reducible rfl
                simp only [Act.put, List.setIfInBounds_toArray, List.set_cons_zero, List.set_cons_succ]
                refine wpAnyH_take (i := 28) (oi := ⟨some 106, Op.pick (Operand.tmp 93) (Operand.const (Value.bool true)) (Operand.tmp 105), 4, _, _, _⟩) (v := ?_) rfl (by kernel_rfl) (by kernel_rfl) (by kernel_rfl) (fun _ _ _ h => h) (Or.inl ⟨by rfl, ?_⟩) (by assumption) ?_
                rotate_left
                · intro W hSW; (try dsimp only at hSW); go_simp <;> with_reducible rfl
                simp only [Act.put, List.setIfInBounds_toArray, List.set_cons_zero, List.set_cons_succ]
                refine wpAnyH_take (i := 29) (oi := ⟨some 107, Op.move (Operand.tmp 106), 4, _, _, _⟩) (v := ?_) rfl (by kernel_rfl) (by kernel_rfl) (by kernel_rfl) (fun _ _ _ h => h) (Or.inl ⟨by rfl, ?_⟩) (by assumption) ?_
                rotate_left
                · intro W hSW; (try dsimp only at hSW); go_simp <;> with_reducible rfl
                simp only [Act.put, List.setIfInBounds_toArray, List.set_cons_zero, List.set_cons_succ]
                refine wpAnyH_take (i := 30) (oi := ⟨some 108, Op.move (Operand.tmp 3), 3, _, _, _⟩) (v := ?_) rfl (by kernel_rfl) (by kernel_rfl) (by kernel_rfl) (fun _ _ _ h => h) (Or.inl ⟨by rfl, ?_⟩) (by assumption) ?_
                rotate_left
                · intro W hSW; (try dsimp only at hSW); go_simp <;> with_reducible rfl
                simp only [Act.put, List.setIfInBounds_toArray, List.set_cons_zero, List.set_cons_succ]
                refine wpAnyH_take (i := 31) (oi := ⟨some 109, Op.move (Operand.tmp 4), 59, _, _, _⟩) (v := ?_) rfl (by kernel_rfl) (by kernel_rfl) (by kernel_rfl) (fun _ _ _ h => h) (Or.inl ⟨by rfl, ?_⟩) (by assumption) ?_
                rotate_left
                · intro W hSW; (try dsimp only at hSW); go_simp <;> with_reducible rfl
                simp only [Act.put, List.setIfInBounds_toArray, List.set_cons_zero, List.set_cons_succ]
                refine wpAnyH_take (i := 32) (oi := ⟨some 110, Op.move (Operand.tmp 10), 3, _, _, _⟩) (v := ?_) rfl (by kernel_rfl) (by kernel_rfl) (by kernel_rfl) (fun _ _ _ h => h) (Or.inl ⟨by rfl, ?_⟩) (by assumption) ?_
                rotate_left
                · intro W hSW; (try dsimp only at hSW); go_simp <;> with_reducible rfl
                simp only [Act.put, List.setIfInBounds_toArray, List.set_cons_zero, List.set_cons_succ]
                refine wpAnyH_take (i := 34) (oi := ⟨some 112, Op.move (Operand.tmp 5), 59, _, _, _⟩) (v := ?_) rfl (by kernel_rfl) (by kernel_rfl) (by kernel_rfl) (fun _ _ _ h => h) (Or.inl ⟨by rfl, ?_⟩) (by assumption) ?_
                rotate_left
                · intro W hSW; (try dsimp only at hSW); go_simp <;> with_reducible rfl
                simp only [Act.put, List.setIfInBounds_toArray, List.set_cons_zero, List.set_cons_succ]
                refine wpAnyH_take (i := 35) (oi := ⟨some 113, Op.move (Operand.tmp 10), 3, _, _, _⟩) (v := ?_) rfl (by kernel_rfl) (by kernel_rfl) (by kernel_rfl) (fun _ _ _ h => h) (Or.inl ⟨by rfl, ?_⟩) (by assumption) ?_
                rotate_left
                · intro W hSW; (try dsimp only at hSW); go_simp <;> with_reducible rfl
                simp only [Act.put, List.setIfInBounds_toArray, List.set_cons_zero, List.set_cons_succ]
                refine wpAnyH_take (i := 36) (oi := ⟨some 114, Op.indexAddr 59 (Operand.tmp 112) (Operand.tmp 113), 0, _, _, _⟩) (v := ?_) rfl (by kernel_rfl) (by kernel_rfl) (by kernel_rfl) (fun _ _ _ h => h) (Or.inl ⟨by rfl, ?_⟩) (by assumption) ?_
                rotate_left
                · intro W hSW; (try dsimp only at hSW); go_simp <;> with_reducible rfl
                simp only [Act.put, List.setIfInBounds_toArray, List.set_cons_zero, List.set_cons_succ]
                refine wpAnyH_take (i := 37) (oi := ⟨some 115, Op.load 3 (Operand.tmp 114), 3, _, _, _⟩) (v := ?_) rfl (by kernel_rfl) (by kernel_rfl) (by kernel_rfl) (fun _ _ _ h => h) (Or.inl ⟨by rfl, ?_⟩) (by assumption) ?_
                rotate_left
                · intro W hSW; (try dsimp only at hSW); go_simp <;> with_reducible rfl
                simp only [Act.put, List.setIfInBounds_toArray, List.set_cons_zero, List.set_cons_succ]
                refine wpAnyH_ready (rs := [33]) (by kernel_rfl) (by simp) ?_
                refine AllReadyH.cons rfl (fun K hK => ?_) AllReadyH.nil
                go_simp
                go_wp2_with (fail)
                refine (ishat_any n _ zs.length cz zs k _ HD.out (by omega)).mono ?_
                rw [HAT.out]
                rintro e w8 ⟨rfl, hb8⟩
                go_wp2
                refine hK.out _ _ ⟨(hb8.cell (p := ⟨b', off' + k, none⟩) hbl').trans hc', (hb8.cell (p := ⟨b, off + k, none⟩) hbl).trans hc⟩ (fun hHeld2 => ?_)
                clear hK K hHeld
                refine wpAnyH_take (i := 38) (oi := ⟨some 116, Op.binOp BinOp.neq 3 (Operand.tmp 111) (Operand.tmp 115) 3, 4, _, _, _⟩) (v := ?_) rfl (by kernel_rfl) (by kernel_rfl) (by kernel_rfl) (fun _ _ _ h => h) (Or.inl ⟨by rfl, ?_⟩) (by assumption) ?_
                rotate_left
                · intro W hSW; (try dsimp only at hSW); go_simp <;> with_reducible rfl
                simp only [Act.put, List.setIfInBounds_toArray, List.set_cons_zero, List.set_cons_succ]
                refine wpAnyH_take (i := 39) (oi := ⟨some 117, Op.pick (Operand.tmp 107) (Operand.const (Value.bool true)) (Operand.tmp 116), 4, _, _, _⟩) (v := ?_) rfl (by kernel_rfl) (by kernel_rfl) (by kernel_rfl) (fun _ _ _ h => h) (Or.inl ⟨by rfl, ?_⟩) (by assumption) ?_
                rotate_left
                · intro W hSW; (try dsimp only at hSW); go_simp <;> with_reducible rfl
                simp only [Act.put, List.setIfInBounds_toArray, List.set_cons_zero, List.set_cons_succ]
                refine wpAnyH_done (by kernel_rfl) ?_ _
                clear hHeld2
                have HB8 := Lib.hid (hbr.drew.trans (hb8.mono hbr.size))
                clear hb8
                go_wp2
                go_roundw
                case rel => exact ⟨k + 1, by omega, by go_num, HB8.out⟩
                case measure => simp [intOf]; omega
            · have hS0 : wsum zs zs.length = 0 := by have := (wsum_small HOK.out h64 (Nat.le_refl _)).1; omega
              have BR := Lib.hid (B4.out.trans (hbr.mono B4.out.size))
              rw [pos_none hS0, hS0]
              clear hS hS0 hbr
              go_wp2_with (fail)
              have hl7 := lit_ints wr [1, 2] (by decide)
              have bl7 : Below wr.heap.size wr (wr.alloc (.cells ([1, 2].map (Value.int .i64)).toArray 3)) := (Below.refl _ _).alloc (Nat.le_refl _) _
              refine (ish_any 7 _ 2 2 [1, 2] _ hl7 (by omega)).mono ?_
              rw [shr_seven]
              rintro e w16 ⟨v16, rfl, hr16, b16⟩
              obtain ⟨a16, c16, hv16, h16⟩ := hr16.slice (by unfold AllI; decide)
              have hv16' : v16 = .slice a16 2 c16 := hv16
              have h16' : Ints w16 a16 2 [2, 5] := h16
              have B7 := Lib.hid (BR.out.trans (bl7.mono BR.out.size))
              have B16 := Lib.hid (B7.out.trans (b16.mono B7.out.size))
              subst hv16'
              have H16 := Lib.hid h16'
              clear hl7 bl7 hr16 b16 h16 h16' hv16 B7
              go_wp2_with (fail)
              have hl25 := lit_ints w16 [2, 5] (by decide)
              have bl25 : Below w16.heap.size w16 (w16.alloc (.cells ([2, 5].map (Value.int .i64)).toArray 3)) := (Below.refl _ _).alloc (Nat.le_refl _) _
              refine (same_any _ _ 2 c16 2 [2, 5] _ (H16.out.below bl25) hl25 (by omega)).mono ?_
              rintro e w17 ⟨rfl, b17⟩
              have B18 := Lib.hid (B16.out.trans (bl25.mono B16.out.size))
              have B17 := Lib.hid (B18.out.trans (b17.mono B18.out.size))
              clear hl25 bl25 b17 B18
              go_wp2
              go_ret
              exact ⟨rfl, B17.out⟩
          · obtain rfl : k = zs.length := by omega
            have BR := Lib.hid (B4.out.trans (hbr.mono B4.out.size))
            have hS1 := (wsum_small HOK.out h64 (Nat.le_refl _)).1
            clear hbr
            by_cases hS : 1 ≤ wsum zs zs.length
            · rw [pos_all hS]
              go_wp2_with (fail)
              have hl7 := lit_ints wr [1, 2] (by decide)
              have bl7 : Below wr.heap.size wr (wr.alloc (.cells ([1, 2].map (Value.int .i64)).toArray 3)) := (Below.refl _ _).alloc (Nat.le_refl _) _
              refine (ish_any 7 _ 2 2 [1, 2] _ hl7 (by omega)).mono ?_
              rw [shr_seven]
              rintro e w16 ⟨v16, rfl, hr16, b16⟩
              obtain ⟨a16, c16, hv16, h16⟩ := hr16.slice (by unfold AllI; decide)
              have hv16' : v16 = .slice a16 2 c16 := hv16
              have h16' : Ints w16 a16 2 [2, 5] := h16
              have B7 := Lib.hid (BR.out.trans (bl7.mono BR.out.size))
              have B16 := Lib.hid (B7.out.trans (b16.mono B7.out.size))
              subst hv16'
              have H16 := Lib.hid h16'
              clear hl7 bl7 hr16 b16 h16 h16' hv16 B7
              go_wp2_with (fail)
              have hl25 := lit_ints w16 [2, 5] (by decide)
              have bl25 : Below w16.heap.size w16 (w16.alloc (.cells ([2, 5].map (Value.int .i64)).toArray 3)) := (Below.refl _ _).alloc (Nat.le_refl _) _
              refine (same_any _ _ 2 c16 2 [2, 5] _ (H16.out.below bl25) hl25 (by omega)).mono ?_
              rintro e w17 ⟨rfl, b17⟩
              have B18 := Lib.hid (B16.out.trans (bl25.mono B16.out.size))
              have B17 := Lib.hid (B18.out.trans (b17.mono B18.out.size))
              clear hl25 bl25 b17 B18
              go_wp2
              go_ret
              exact ⟨rfl, B17.out⟩
            · have hS0 : wsum zs zs.length = 0 := by omega
              rw [pos_none hS0, hS0]
              clear hS hS0 hS1
              go_wp2_with (fail)
              have hl7 := lit_ints wr [1, 2] (by decide)
              have bl7 : Below wr.heap.size wr (wr.alloc (.cells ([1, 2].map (Value.int .i64)).toArray 3)) := (Below.refl _ _).alloc (Nat.le_refl _) _
              refine (ish_any 7 _ 2 2 [1, 2] _ hl7 (by omega)).mono ?_
              rw [shr_seven]
              rintro e w16 ⟨v16, rfl, hr16, b16⟩
              obtain ⟨a16, c16, hv16, h16⟩ := hr16.slice (by unfold AllI; decide)
              have hv16' : v16 = .slice a16 2 c16 := hv16
              have h16' : Ints w16 a16 2 [2, 5] := h16
              have B7 := Lib.hid (BR.out.trans (bl7.mono BR.out.size))
              have B16 := Lib.hid (B7.out.trans (b16.mono B7.out.size))
              subst hv16'
              have H16 := Lib.hid h16'
              clear hl7 bl7 hr16 b16 h16 h16' hv16 B7
              go_wp2_with (fail)
              have hl25 := lit_ints w16 [2, 5] (by decide)
              have bl25 : Below w16.heap.size w16 (w16.alloc (.cells ([2, 5].map (Value.int .i64)).toArray 3)) := (Below.refl _ _).alloc (Nat.le_refl _) _
              refine (same_any _ _ 2 c16 2 [2, 5] _ (H16.out.below bl25) hl25 (by omega)).mono ?_
              rintro e w17 ⟨rfl, b17⟩
              have B18 := Lib.hid (B16.out.trans (bl25.mono B16.out.size))
              have B17 := Lib.hid (B18.out.trans (b17.mono B18.out.size))
              clear hl25 bl25 b17 B18
              go_wp2
              go_ret
              exact ⟨rfl, B17.out⟩

set_option maxRecDepth 100000 in
theorem walk_big (a : Option Addr) (len cap : Nat) (w : World) (hl : 1048576 < len) (hm : len ≤ 9223372036854775807) :
    Calls Try.prog 6 #[.slice a len cap] w fun e w' => e = .returned (.bool true) ∧ Below w.heap.size w w' := by
  go_enter Try.func6, Try.ntmps6
  go_wp2
  go_ret
  exact ⟨rfl, Below.refl _ _⟩

theorem laidOut : laidOutB Try.prog = true := by kernel_rfl

theorem contract (H : Type) (enc : TypeId × Value → H) (W : World) (base : Nat) (args : Array Value) (ds gs : List (DataW H)) (before : List MemPlace)
    (hval : ∀ (j : Nat) t v, Try.f6.params[j]? = some t → args[j]? = some v → Value.okWide Try.prog W .any base t v)
    (hW : DataW.Whole enc Try.prog Try.f6.params.toList Rows.fnSharesSpec.vars false W args.toList ds gs before) :
    Calls Try.prog 6 args W fun e W' => ∃ v, e = .returned v ∧ Rows.fnSharesSpec.post enc Try.prog Try.f6 false true false false W args v W' := by
  have hW' := hW
  obtain ⟨p, q, hA0, hV, rfl, hfz, hnd⟩ := hW
  have hA : DataW.TrodAll enc Try.prog W 0 (fun _ => true) true Try.f6.params.toList args.toList ds p := hA0
  rw [Try.params6] at hA hval
  obtain ⟨v0, vs0, d0, ds0, p0, q0, hargs, rfl, rfl, h0, r0⟩ := trodAll_cons hA
  obtain ⟨rfl, rfl, rfl⟩ := trodAll_nil r0
  obtain rfl : args = #[v0] := by cases args; simp_all
  obtain ⟨rfl, rfl⟩ := trodVars_none hV
  obtain ⟨a, len, cap, rfl⟩ := okWide_slice Try.underlying22 (hval 0 22 v0 rfl rfl)
  have lt0 : ∀ x ∈ p0, x.block < W.heap.size := by obtain ⟨m, hm⟩ := h0; exact DataW.trod_lt m _ _ _ hm
  obtain ⟨hc, hm⟩ := code_of h0
  have all : Calls Try.prog 6 #[.slice a len cap] W fun e w' => e = .returned (.bool true) ∧ Below W.heap.size W w' := by
    by_cases hl : len ≤ 1048576
    · exact walk a len cap W hl hc
    · exact walk_big a len cap W (by omega) hm
  refine all.mono fun e W' ⟨he, bel⟩ => ?_
  subst he
  exact ⟨_, rfl, law_post (pa := _) (pv := []) hW' (trodAll_cons_mk (shut_bool Try.underlying4 _) trodAll_mk0) (trodAll_cons_mk (Below.trod laidOut (by kernel_rfl) (of_decide_eq_true (by kernel_rfl)) h0 bel lt0) trodAll_mk0) rfl rfl bel⟩


set_option maxRecDepth 100000 in
theorem lifted (os : Os) (started : os.Started) (H : Type) (enc : TypeId × Value → H) :
    ReturnsInHanded {} Try.checked os 6 .any (Rows.fnSharesSpec.pre6 enc Try.prog Try.f6 Rows.fnSharesRow.domain false) (Rows.fnSharesSpec.post enc Try.prog Try.f6 false true false false) := by
  refine returnsInHanded_of_change (C := Try.checked) own started (by kernel_rfl) Try.func6
    (ChangeSpec.witness6 (enc := enc) (C := Try.checked) false ⟨#[], #[.slice none 0 0], []⟩ 8 (by kernel_rfl) (by kernel_rfl) (by kernel_rfl) (by kernel_rfl)) ?_
  intro W base args ds gs before hval hW _ _
  exact contract H enc W base args ds gs before hval hW

/-- The given statement. -/
theorem proved : Rows.FnSharesSaid :=
  OpenClaim.holds_of_wide 6 Try.f6 rfl rfl rfl rfl rfl rfl rfl ⟨rfl, rfl, rfl, rfl, rfl⟩ rfl rfl rfl rfl rfl (by kernel_rfl) Try.func6 (by kernel_rfl)
    (of_decide_eq_true (by kernel_rfl)) (by unfold Func.isWrapper; first | (rw [if_pos (by decide +kernel)]; kernel_rfl) | (rw [if_neg (by decide +kernel)]; exact ⟨rfl, rfl⟩))
    (fun os started H enc _ => lifted os started H enc)
#print axioms proved
end Go.Proofs.Ytdhgachfenkbgaa.fnShares

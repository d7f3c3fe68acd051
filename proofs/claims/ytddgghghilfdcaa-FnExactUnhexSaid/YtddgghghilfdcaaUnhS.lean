/-
  The contract of spec.Unhex: the text that a hexadecimal text encodes and true, or the empty text and false. Conditions: a string's own length bound.
-/
import Derived.Test.YtddgghghilfdcaaOwnB
import Derived.Test.YtddgghghilfdcaaUnhR
namespace Go.Proofs.Ytddgghghilfdcaa
open Go.ChangeShapes Go.WideShapes Go.ChangeAt Go.RowKit

def lvI (c : UInt8) : Int := if Nums.hxB c then (Nums.hv c : Int) else -1
theorem lv_any (c : UInt8) (w : World) : Calls Try.prog 25 #[.int .u8 c.toNat] w fun e w' => e = .returned (.int .i64 (lvI c)) ∧ w = w' := by
  have hc := c.toNat_lt
  have hd := Nums.hxB_iff c
  by_cases h1 : 48 ≤ (c.toNat : Int) ∧ (c.toNat : Int) ≤ 57
  · obtain ⟨h1, h2⟩ := h1
    have HV := Lib.hid (show lvI c = (c.toNat : Int) - 48 by unfold lvI Nums.hv; rw [if_pos (hd.2 (by omega)), if_pos (by omega)]; omega)
    clear hd
    go_enter Try.func25, Try.ntmps25
    go_wp2
    go_ret
    exact ⟨ret_int (by rw [HV.out]), rfl⟩
  · by_cases h2 : 97 ≤ (c.toNat : Int) ∧ (c.toNat : Int) ≤ 102
    · obtain ⟨h2, h3⟩ := h2
      have h4 : 57 < (c.toNat : Int) := by omega
      have HV := Lib.hid (show lvI c = (c.toNat : Int) - 97 + 10 by unfold lvI Nums.hv; rw [if_pos (hd.2 (by omega)), if_neg (by omega)]; omega)
      clear hd h1
      go_enter Try.func25, Try.ntmps25
      go_wp2
      go_ret
      exact ⟨ret_int (by rw [HV.out]), rfl⟩
    · have HV := Lib.hid (show lvI c = -1 by unfold lvI; rw [if_neg (fun h => by have := hd.1 h; omega)])
      clear hd
      have h5 : ((c.toNat : Int) < 48 ∨ 57 < (c.toNat : Int)) := by omega
      have h6 : ((c.toNat : Int) < 97 ∨ 102 < (c.toNat : Int)) := by omega
      clear h1 h2
      rcases h5 with h5 | h5 <;> rcases h6 with h6 | h6
      all_goals (try omega)
      all_goals
        go_enter Try.func25, Try.ntmps25
        go_wp2
        go_ret
        exact ⟨ret_int (by rw [HV.out]), rfl⟩
theorem lvI_good {c : UInt8} (h : Nums.hxB c = true) : lvI c = (Nums.hv c : Int) := by unfold lvI; rw [if_pos h]
theorem lvI_bad {c : UInt8} (h : Nums.hxB c = false) : lvI c < 0 := by unfold lvI; rw [h]; exact (by decide : (-1 : Int) < 0)

def SUnRel (s : ByteArray) (w : World) (v i : Value) (wr : World) : Prop :=
  ∃ m : Nat, m ≤ s.size ∧ m % 2 = 0 ∧ i = .int .i64 m ∧ (s.data.toList.take m).all Nums.hxB = true ∧ wr.ownsRow w.heap.size 5 1 v (Nums.unL (s.data.toList.take m)).length (Lib.byteCells (Nums.unL (s.data.toList.take m))) ∧ Below w.heap.size w wr ∧ w.heap.size ≤ wr.heap.size

theorem info_u8' : (Try.prog.info? 5).map (fun i => (i.zero, i.size, i.bytes)) = some (some (.int .u8 0), 1, 1) := by kernel_rfl

set_option maxHeartbeats 800000 in
theorem sun_any (s : ByteArray) (w : World) (hs : s.size ≤ maxLen) :
    Calls Try.prog 10 #[.string s] w fun e w' => e = .returned (unR s) ∧ Below w.heap.size w w' := by
  unfold maxLen at hs
  obtain ⟨i0, hi, hz0, hz1, hz2⟩ := info_parts info_u8'
  by_cases hbig : 40000 < s.size
  · have HB := Lib.hid (Nums.unB_long hbig)
    go_enter Try.func10, Try.ntmps10
    go_wp2
    go_ret2
    exact ⟨unR_false HB.out, Below.refl _ _⟩
  · by_cases hodd : s.size % 2 = 0
    · have ho1 : ((s.size : Int) % 2 == 0) = true := by simp; omega
      have ho2 : ((s.size : Int) % 2 != 0) = false := by simp; omega
      have HO := Lib.hid hodd
      clear hodd
      go_enter Try.func10, Try.ntmps10
      go_wp2
      go_loopw [4, 5] (SUnRel s w) (fun _ i _ => s.size - (intOf i).toNat)
      case atStart => exact ⟨0, Nat.zero_le _, rfl, rfl, rfl, World.ownsRow_lit w #[] 0 (Nat.le_refl _) (by unfold maxLen; omega) rfl, (Below.refl _ _).alloc (Nat.le_refl _) _, by simp⟩
      case round =>
        obtain ⟨m, hm, hev, rfl, ha, his, hbw, hzw⟩ := hrel
        have HA := Lib.hid ha
        have HE := Lib.hid hev
        clear ha hev
        by_cases hlt : m < s.size
        · have hlt2 : m + 1 < s.size := by have := HE.out; have := HO.out; omega
          by_cases hx1 : Nums.hxB s[m] = true
          · have b1 := Nums.hv_lt hx1
            have e1 := lvI_good hx1
            have n1 : ¬ lvI s[m] < 0 := by omega
            have m1 : lvI s[m] ≤ 15 := by omega
            have E1 := Lib.hid e1
            have X1 := Lib.hid hx1
            clear e1 b1 hx1
            by_cases hx2 : Nums.hxB s[m + 1] = true
            · have b2 := Nums.hv_lt hx2
              have e2 := lvI_good hx2
              have n2 : ¬ lvI s[m + 1] < 0 := by omega
              have m2 : lvI s[m + 1] ≤ 15 := by omega
              have E2 := Lib.hid e2
              have X2 := Lib.hid hx2
              clear e2 b2 hx2
              have hlen : (Nums.unL (s.data.toList.take m)).length ≤ 40000 := Nat.le_trans (Nums.unL_len _) (by rw [List.length_take]; omega)
              go_wp2_with (first
                | (go_at_call 25; refine (lv_any _ _).mono ?_; rintro e w' ⟨rfl, rfl⟩)
                | (at_builtin; refine wpList_append_own _ rfl _ _ 34 rfl w.heap.size 5 i0 (.int .u8 0) 1 1 Try.underlying34 hi hz0 hz1 hz2 rfl (by decide) _ _ _ rfl (his.alloc _) ⟨wr.heap.size, 0, none⟩ 1 1 [.int .u8 (16 * lvI s[m] + lvI s[m + 1])] rfl rfl ?c1 ?c2 ?c3 ?c4 ?c5 ?_))
              case c1 =>
                intro j u hj
                cases j with
                | zero => simp at hj; subst hj; simp [Addr.add]
                | succ j => simp at hj
              case c2 => intro u hu; simp at hu; subst hu; rfl
              case c3 => unfold maxLen; omega
              case c4 => omega
              case c5 => simp; omega
              intro v' w3 hown hgr _
              have hbw3 : Below w.heap.size w w3 := (hbw.alloc hzw _).grown hgr (by simp; omega) (fun g hg => (his.lt g hg).1)
              have HR := Lib.hid (show SUnRel s w v' (.int .i64 ((m : Int) + 2)) w3 from by
                obtain ⟨q1, q2⟩ := Nums.un_next HE.out hlt2 HA.out X1.out X2.out
                refine ⟨m + 2, by omega, by have := HE.out; omega, by go_num, q1, ?_, hbw3, hbw3.size⟩
                rw [q2]
                have e3 : 16 * lvI s[m] + lvI s[m + 1] = ((Nums.byteOf s[m] s[m + 1]).toNat : Int) := by rw [Nums.byteOf_toNat X1.out X2.out, E1.out, E2.out]; omega
                rw [e3] at hown
                simpa [Lib.byteCells] using hown)
              clear hown hgr
              go_wp2
              go_roundw
              case rel => exact HR.out
              case measure => simp [intOf]; omega
            · have l2 := lvI_bad (Bool.eq_false_iff.2 hx2)
              have HB := Lib.hid (Nums.unB_bad hlt2 (Bool.eq_false_iff.2 hx2))
              clear hx2
              go_wp2_with (go_at_call 25; refine (lv_any _ _).mono ?_; rintro e w' ⟨rfl, rfl⟩)
              go_ret2
              exact ⟨unR_false HB.out, hbw⟩
          · have l1 := lvI_bad (Bool.eq_false_iff.2 hx1)
            have HB := Lib.hid (Nums.unB_bad hlt (Bool.eq_false_iff.2 hx1))
            clear hx1
            go_wp2_with (go_at_call 25; refine (lv_any _ _).mono ?_; rintro e w' ⟨rfl, rfl⟩)
            go_ret2
            exact ⟨unR_false HB.out, hbw⟩
        · have hcv := own_string wr _ _ _ his
          go_wp2
          go_ret2
          have HT := Nums.take_all s (k := m) (by omega)
          exact ⟨unR_true (Nums.unB_true HO.out (by omega) (by rw [← HT]; exact HA.out)) (by rw [HT]), hbw⟩
    · have HB := Lib.hid (Nums.unB_odd hodd)
      have ho1 : ((s.size : Int) % 2 == 0) = false := by simp; omega
      have ho2 : ((s.size : Int) % 2 != 0) = true := by simp; omega
      clear hodd
      go_enter Try.func10, Try.ntmps10
      go_wp2
      go_ret2
      exact ⟨unR_false HB.out, Below.refl _ _⟩
end Go.Proofs.Ytddgghghilfdcaa

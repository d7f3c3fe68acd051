/-
  The contract of impl.Unhex: the text that a hexadecimal text encodes and true, or the empty text and false. Conditions: a string's own length bound.
-/
import Derived.Test.YtddgghghilfdcaaBld
import Derived.Test.YtddgghghilfdcaaUnhR
namespace Go.Proofs.Ytddgghghilfdcaa
open Go.ChangeShapes Go.WideShapes Go.ChangeAt Go.RowKit

def ivI (c : UInt8) : Int := if Nums.hxB c then (Nums.hv c : Int) else 0
theorem iv_any (c : UInt8) (w : World) : Calls Try.prog 26 #[.int .u8 c.toNat] w fun e w' => e = .returned (.tuple #[.int .u8 (ivI c), .bool (Nums.hxB c)]) ∧ w = w' := by
  have hc := c.toNat_lt
  have hd := Nums.hxB_iff c
  by_cases h1 : 48 ≤ (c.toNat : Int) ∧ (c.toNat : Int) ≤ 57
  · obtain ⟨h1, h2⟩ := h1
    have HX := Lib.hid (hd.2 (by omega))
    have HV := Lib.hid (show ivI c = (c.toNat : Int) - 48 by unfold ivI Nums.hv; rw [if_pos HX.out, if_pos (by omega)]; omega)
    clear hd
    go_enter Try.func26, Try.ntmps26
    go_wp2
    go_ret2
    rw [HV.out, HX.out]
    exact ⟨rfl, rfl⟩
  · by_cases h2 : 97 ≤ (c.toNat : Int) ∧ (c.toNat : Int) ≤ 102
    · obtain ⟨h2, h3⟩ := h2
      have h4 : 57 < (c.toNat : Int) := by omega
      have HX := Lib.hid (hd.2 (by omega))
      have HV := Lib.hid (show ivI c = (c.toNat : Int) - 97 + 10 by unfold ivI Nums.hv; rw [if_pos HX.out, if_neg (by omega)]; omega)
      clear hd h1
      go_enter Try.func26, Try.ntmps26
      go_wp2
      go_ret2
      rw [HV.out, HX.out]
      exact ⟨rfl, rfl⟩
    · have HX := Lib.hid (show Nums.hxB c = false by rw [Bool.eq_false_iff]; intro h; have := hd.1 h; omega)
      have HV := Lib.hid (show ivI c = 0 by unfold ivI; rw [HX.out]; rfl)
      clear hd
      have h5 : ((c.toNat : Int) < 48 ∨ 57 < (c.toNat : Int)) := by omega
      have h6 : ((c.toNat : Int) < 97 ∨ 102 < (c.toNat : Int)) := by omega
      clear h1 h2
      rcases h5 with h5 | h5 <;> rcases h6 with h6 | h6
      all_goals (try omega)
      all_goals
        go_enter Try.func26, Try.ntmps26
        go_wp2
        go_ret2
        rw [HV.out, HX.out]
        exact ⟨rfl, rfl⟩

theorem or_fin : ∀ p q : Fin 16, bits .or .u8 (((p.val : Nat) : Int) * 16 % 256) ((q.val : Nat) : Int) = ((16 * p.val + q.val : Nat) : Int) := by decide +kernel
theorem or_byte {a b : UInt8} (h1 : Nums.hxB a = true) (h2 : Nums.hxB b = true) : bits .or .u8 (ivI a * 16 % 256) (ivI b) = ((Nums.byteOf a b).toNat : Int) := by
  rw [Nums.byteOf_toNat h1 h2]
  unfold ivI
  rw [if_pos h1, if_pos h2]
  exact or_fin ⟨Nums.hv a, Nums.hv_lt h1⟩ ⟨Nums.hv b, Nums.hv_lt h2⟩

def IUnRel (s : ByteArray) (w : World) (i : Value) (wr : World) : Prop :=
  ∃ m : Nat, m ≤ s.size ∧ m % 2 = 0 ∧ i = .int .i64 m ∧ (s.data.toList.take m).all Nums.hxB = true ∧ Bld.Is w.heap.size w.heap.size (Nums.unL (s.data.toList.take m)) wr ∧ Below w.heap.size w wr ∧ w.heap.size ≤ wr.heap.size

set_option maxHeartbeats 800000 in
theorem iun_any (s : ByteArray) (w : World) (hs : s.size ≤ maxLen) :
    Calls Try.prog 11 #[.string s] w fun e w' => e = .returned (unR s) ∧ Below w.heap.size w w' := by
  unfold maxLen at hs
  have hbk : (w.alloc (.cells #[.pointer none, .slice none 0 0] 38)).heap[w.heap.size]? = some (.cells #[.pointer none, .slice none 0 0] 38 (0, 0)) := (MapKept.heap_alloc w _).1
  have HK := Lib.hid hbk
  clear hbk
  by_cases hodd : s.size % 2 = 0
  · have ho1 : ((s.size : Int) % 2 == 0) = true := by simp; omega
    have ho2 : ((s.size : Int) % 2 != 0) = false := by simp; omega
    have HO := Lib.hid hodd
    clear hodd
    by_cases hbig : 40000 < s.size
    · have HB := Lib.hid (Nums.unB_long hbig)
      go_enter Try.func11, Try.ntmps11
      go_wp2
      go_ret2
      exact ⟨unR_false HB.out, Below.refl _ _⟩
    · go_enter Try.func11, Try.ntmps11
      go_wp2_with (go_at_call 22; refine (Bld.grow w.heap.size w.heap.size (s.size / 2) _ _ (by omega) (Nat.le_refl _) HK.out (by simp) (by omega)).mono ?_; rintro e w1 ⟨rfl, hi, hb⟩)
      have hb1 : Below w.heap.size w w1 := ((Below.refl _ _).alloc (Nat.le_refl _) _).trans hb
      have hz1 : w.heap.size ≤ w1.heap.size := hb1.size
      clear hb HK
      go_loopw [5] (IUnRel s w) (fun i _ => s.size - (intOf i).toNat)
      case atStart => exact ⟨0, Nat.zero_le _, rfl, rfl, rfl, by simpa [Nums.unL] using hi, hb1, hz1⟩
      case round =>
        obtain ⟨m, hm, hev, rfl, ha, his, hbw, hzw⟩ := hrel
        have HA := Lib.hid ha
        have HE := Lib.hid hev
        clear ha hev
        by_cases hlt : m < s.size
        · have hlt2 : m + 1 < s.size := by have := HE.out; have := HO.out; omega
          by_cases hx1 : Nums.hxB s[m] = true
          · have b1 := Nums.hv_lt hx1
            have X1 := Lib.hid hx1
            by_cases hx2 : Nums.hxB s[m + 1] = true
            · have b2 := Nums.hv_lt hx2
              have X2 := Lib.hid hx2
              have hlen : (Nums.unL (s.data.toList.take m)).length ≤ 40000 := Nat.le_trans (Nums.unL_len _) (by rw [List.length_take]; omega)
              go_wp2_with (go_at_call 26; refine (iv_any _ _).mono ?_; rintro e w' ⟨rfl, rfl⟩)
              refine (Bld.writeByte w.heap.size w.heap.size _ (Nums.byteOf s[m] s[m + 1]) _ _ (or_byte X1.out X2.out) his (by omega) hzw).mono ?_
              rintro e w2 ⟨rfl, hi2, hb2⟩
              have hbw2 := hbw.trans hb2
              have HR := Lib.hid (show IUnRel s w (.int .i64 ((m : Int) + 2)) w2 from by
                obtain ⟨q1, q2⟩ := Nums.un_next HE.out hlt2 HA.out X1.out X2.out
                exact ⟨m + 2, by omega, by have := HE.out; omega, by go_num, q1, by rw [q2]; exact hi2, hbw2, hbw2.size⟩)
              clear hi2 hx1 hx2
              go_wp2
              go_roundw
              case rel => exact HR.out
              case measure => simp [intOf]; omega
            · have HB := Lib.hid (Nums.unB_bad hlt2 (Bool.eq_false_iff.2 hx2))
              have hx2' : Nums.hxB s[m + 1] = false := Bool.eq_false_iff.2 hx2
              clear hx2
              go_wp2_with (go_at_call 26; refine (iv_any _ _).mono ?_; rintro e w' ⟨rfl, rfl⟩)
              go_ret2
              exact ⟨unR_false HB.out, hbw⟩
          · have HB := Lib.hid (Nums.unB_bad hlt (Bool.eq_false_iff.2 hx1))
            have hx1' : Nums.hxB s[m] = false := Bool.eq_false_iff.2 hx1
            clear hx1
            go_wp2_with (go_at_call 26; refine (iv_any _ _).mono ?_; rintro e w' ⟨rfl, rfl⟩)
            go_ret2
            exact ⟨unR_false HB.out, hbw⟩
        · go_wp2_with (go_at_call 24; refine (Bld.string w.heap.size w.heap.size _ _ his hzw).mono ?_; rintro e w2 ⟨rfl, hb2⟩)
          go_ret2
          have HT := Nums.take_all s (k := m) (by omega)
          exact ⟨unR_true (Nums.unB_true HO.out (by omega) (by rw [← HT]; exact HA.out)) (by rw [HT]), hbw.trans hb2⟩
  · have HB := Lib.hid (Nums.unB_odd hodd)
    have ho1 : ((s.size : Int) % 2 == 0) = false := by simp; omega
    have ho2 : ((s.size : Int) % 2 != 0) = true := by simp; omega
    clear hodd
    go_enter Try.func11, Try.ntmps11
    go_wp2
    go_ret2
    exact ⟨unR_false HB.out, Below.refl _ _⟩
end Go.Proofs.Ytddgghghilfdcaa

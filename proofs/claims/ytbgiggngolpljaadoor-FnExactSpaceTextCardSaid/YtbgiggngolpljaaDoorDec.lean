/-
  Contracts of spec.l01Figure (at 0 to 15) and of spec.Decimal (at every int): the figure's byte; the decimal numeral, new memory at most. Conditions: the bounds of an int.
-/
import Derived.Test.YtbgiggngolpljaaDoorKit
import Derived.Test.YtbgiggngolpljaaDoorNums
namespace Go.Proofs.YtbgiggngolpljaaDoor
open Go.ChangeShapes Go.WideShapes Go.ChangeAt Go.RowKit

def figI (x : Int) : Int := if x < 10 then 48 + x else 87 + x
theorem fig_any (x : Int) (w : World) (h0 : 0 ≤ x) (h1 : x ≤ 15) :
    Calls Tryd.prog 12 #[.int .i64 x] w fun e w' => e = .returned (.int .u8 (figI x)) ∧ w = w' := by
  by_cases h : x < 10
  · go_enter Tryd.func12, Tryd.ntmps12
    go_wp2
    go_ret
    exact ⟨ret_int (by unfold figI; rw [if_pos h]), rfl⟩
  · go_enter Tryd.func12, Tryd.ntmps12
    go_wp2
    go_ret
    exact ⟨ret_int (by unfold figI; rw [if_neg (by omega)]; omega), rfl⟩
theorem figI_dec (x : Int) (m : Nat) (h : x = m) (h1 : m < 10) : UInt8.ofNat (figI x).toNat = UInt8.ofNat (48 + m) := by
  subst h; unfold figI; rw [if_pos (by omega)]; congr 1

/-- A new slice of one byte, turned into a string. -/
theorem one_byte (wr : World) (x : Int) : (convert 32 9 (.slice (some ⟨wr.heap.size, 0, none⟩) 1 1)).run Tryd.prog (wr.alloc (.cells #[.int .u8 x] 5)) = .ok (.string ⟨[UInt8.ofNat x.toNat].toArray⟩) (wr.alloc (.cells #[.int .u8 x] 5)) := by
  rw [run_convert_bytes_string _ _ _ 5 _ _ _ Tryd.underlying32 Tryd.underlying5 Tryd.underlying9]
  have hld : (loadCells ⟨wr.heap.size, 0, none⟩ 1).run Tryd.prog (wr.alloc (.cells #[.int .u8 x] 5)) = .ok ([x].map (Value.int .u8)).toArray (wr.alloc (.cells #[.int .u8 x] 5)) :=
    run_loadCells_list _ _ [Value.int .u8 x] (fun j v hj => by
      cases j with
      | zero => simp at hj; subst hj; simp [Addr.add]
      | succ j => simp at hj)
  rw [run_bytesToString _ _ _ _ [x] hld]
  rfl

theorem dec_add (wr : World) (l : List UInt8) (hl : l.length ≤ 100) (x : Int) :
    (Op.stringOp .add ⟨[UInt8.ofNat x.toNat].toArray⟩ ⟨l.toArray⟩).run Tryd.prog wr = .ok (.string ⟨(UInt8.ofNat x.toNat :: l).toArray⟩) wr := by
  rw [run_string_add_lists _ _ _ (by simp) (by omega)]; rfl

/-- The relation of spec.Decimal's loop: m is what is left of the number, s the digits so far. -/
def DecRel (sg : Int) (n : Nat) (w : World) (m s : Value) (wr : World) : Prop :=
  ∃ (k : Nat) (l : List UInt8), k ≤ n ∧ Nums.decOr k ++ l = Lib.decDigits n ∧ m = .int .i64 (sg * k) ∧ s = .string ⟨l.toArray⟩ ∧ Below w.heap.size w wr

/-- One round keeps the relation. -/
theorem dec_rel {sg : Int} {n k : Nat} {w wr : World} {l : List UInt8} {x : Int} (hk1 : 1 ≤ k) (hk : k ≤ n) (hl : Nums.decOr k ++ l = Lib.decDigits n) (hb : Below w.heap.size w wr) (hx : x = ((k % 10 : Nat) : Int)) (o : Obj) :
    DecRel sg n w (.int .i64 (sg * ((k / 10 : Nat) : Int))) (.string ⟨(UInt8.ofNat (figI x).toNat :: l).toArray⟩) (wr.alloc o) := by
  refine ⟨k / 10, UInt8.ofNat (figI x).toNat :: l, by omega, ?_, rfl, rfl, hb.alloc hb.size o⟩
  rw [figI_dec x (k % 10) hx (by omega)]
  rw [Nums.decOr_step hk1] at hl
  simpa using hl

set_option maxHeartbeats 400000 in
theorem dec_pos (n : Nat) (w : World) (h0 : 1 ≤ n) (h1 : n ≤ 9223372036854775807) :
    Calls Tryd.prog 8 #[.int .i64 n] w fun e w' => e = .returned (.string ⟨(Lib.decDigits n).toArray⟩) ∧ Below w.heap.size w w' := by
  have hz : ((n : Int) == 0) = false := by simp; omega
  have hn : decide ((n : Int) < 0) = false := by simp
  go_enter Tryd.func8, Tryd.ntmps8
  go_wp2
  go_loopw [0, 4] (DecRel 1 n w) (fun m _ _ => (intOf m).toNat)
  case atStart => exact ⟨n, [], Nat.le_refl _, by rw [Nums.decOr_pos h0]; simp, by simp, rfl, Below.refl _ _⟩
  case round =>
    obtain ⟨k, l, hk, hl, rfl, rfl, hb⟩ := hrel
    have HL := Lib.hid hl
    clear hl
    simp only [Int.one_mul]
    by_cases hk0 : k = 0
    · subst hk0
      go_wp2
      go_ret
      exact ⟨ret_str (by have := HL.out; rw [Nums.decOr_zero] at this; simp at this; rw [this]), hb⟩
    · have e1 : ((k : Int) == 0) = false := by simp; omega
      have e2 : ((k : Int) != 0) = true := by simp; omega
      have hl100 : l.length ≤ 100 := by
        have h2 := congrArg List.length HL.out
        have h3 := Nums.decDigits_len (n := n) (by omega)
        simp at h2; omega
      have hc := one_byte wr
      have ha := dec_add (wr.alloc (.cells #[.int .u8 (figI ((k : Int) % 10))] 5)) l hl100 (figI ((k : Int) % 10))
      go_wp2_with (go_at_call 12; refine (fig_any _ _ (by omega) (by omega)).mono ?_; rintro e w' ⟨rfl, rfl⟩)
      go_roundw
      case rel => have h := dec_rel (sg := 1) (x := (k : Int) % 10) (by omega) hk HL.out hb (by omega) (.cells #[.int .u8 (figI ((k : Int) % 10))] 5); rw [Int.one_mul] at h; exact h
      case measure => simp [intOf]; omega

theorem cat_one (l : List UInt8) : (⟨#[45]⟩ : ByteArray) ++ ⟨l.toArray⟩ = ⟨(45 :: l).toArray⟩ := by
  rw [show (⟨#[45]⟩ : ByteArray) = ⟨[45].toArray⟩ from rfl, ByteArray.mk_append_mk]; simp

set_option maxHeartbeats 400000 in
theorem dec_neg (n : Nat) (w : World) (h0 : 1 ≤ n) (h1 : n ≤ 9223372036854775808) :
    Calls Tryd.prog 8 #[.int .i64 (-(n : Int))] w fun e w' => e = .returned (.string ⟨(45 :: Lib.decDigits n).toArray⟩) ∧ Below w.heap.size w w' := by
  have hz : (-(n : Int) == 0) = false := by simp; omega
  have hn : decide (-(n : Int) < 0) = true := by simp; omega
  have hn2 : decide (0 < n) = true := by simp; omega
  go_enter Tryd.func8, Tryd.ntmps8
  go_wp2
  go_loopw [0, 4] (DecRel (-1) n w) (fun m _ _ => (- intOf m).toNat)
  case atStart => exact ⟨n, [], Nat.le_refl _, by rw [Nums.decOr_pos h0]; simp, by simp, rfl, Below.refl _ _⟩
  case round =>
    obtain ⟨k, l, hk, hl, rfl, rfl, hb⟩ := hrel
    have HL := Lib.hid hl
    clear hl
    have em : (-1 : Int) * (k : Int) = -(k : Int) := by omega
    simp only [em]
    clear em
    have hl100 : l.length ≤ 100 := by
      have h2 := congrArg List.length HL.out
      have h3 := Nums.decDigits_len (n := n) (by omega)
      simp at h2; omega
    by_cases hk0 : k = 0
    · subst hk0
      go_wp2
      go_ret
      exact ⟨ret_str (by have := HL.out; rw [Nums.decOr_zero] at this; simp at this; rw [← this]; exact cat_one l), hb⟩
    · have e1 : (-(k : Int) == 0) = false := by simp; omega
      have e2 : (-(k : Int) != 0) = true := by simp; omega
      have hc := one_byte wr
      have ha := fun x : Int => dec_add (wr.alloc (.cells #[.int .u8 x] 5)) l hl100 x
      go_wp2_with (go_at_call 12; refine (fig_any _ _ (by omega) (by omega)).mono ?_; rintro e w' ⟨rfl, rfl⟩)
      all_goals
        go_roundw
        case rel => rw [show -((k : Int) / 10) = -1 * ((k / 10 : Nat) : Int) by omega]; exact dec_rel (by omega) hk HL.out hb (by omega) _
        case measure => simp [intOf]; omega

/-- spec.Decimal at every int: the decimal numeral; nothing that was there has changed. -/
theorem dec_any (n : Int) (w : World) (h0 : -9223372036854775808 ≤ n) (h1 : n ≤ 9223372036854775807) :
    Calls Tryd.prog 8 #[.int .i64 n] w fun e w' => e = .returned (.string ⟨(Lib.itoa n).toArray⟩) ∧ Below w.heap.size w w' := by
  by_cases hp : 1 ≤ n
  · obtain ⟨k, rfl⟩ : ∃ k : Nat, n = k := ⟨n.toNat, by omega⟩
    rw [show Lib.itoa (k : Int) = Lib.decDigits k by unfold Lib.itoa; rw [if_neg (by omega)]; simp]
    exact dec_pos k w (by omega) (by omega)
  · by_cases hz : n = 0
    · subst hz
      rw [show Lib.itoa 0 = [48] by unfold Lib.itoa; rw [if_neg (by omega)]; exact Lib.decDigits_one (by decide)]
      go_enter Tryd.func8, Tryd.ntmps8
      go_wp2
      go_ret
      exact ⟨rfl, Below.refl _ _⟩
    · obtain ⟨k, rfl⟩ : ∃ k : Nat, n = -(k : Int) := ⟨(-n).toNat, by omega⟩
      rw [show Lib.itoa (-(k : Int)) = 45 :: Lib.decDigits k by unfold Lib.itoa; rw [if_pos (by omega)]; simp]
      exact dec_neg k w (by omega) (by omega)
end Go.Proofs.YtbgiggngolpljaaDoor

import Derived.Test.YtnncdpkmhpjmbaaZnAD
section
namespace Go.Proofs.Ytnncdpkmhpjmbaa
open Go.ChangeShapes Go.WideShapes Go.ChangeAt Go.RowKit

def okTo (zs : List Int) (k : Nat) : Prop := ∀ j, j < k → 0 ≤ zs.getD j 0 ∧ zs.getD j 0 ≤ 1073741824
def wokP (zs : List Int) : Prop := zs.length ≤ 64 ∧ okTo zs zs.length
instance (zs : List Int) (k : Nat) : Decidable (okTo zs k) := inferInstanceAs (Decidable (∀ j, j < k → 0 ≤ zs.getD j 0 ∧ zs.getD j 0 ≤ 1073741824))
instance (zs : List Int) : Decidable (wokP zs) := inferInstanceAs (Decidable (zs.length ≤ 64 ∧ okTo zs zs.length))
def wokI (zs : List Int) : Bool := decide (wokP zs)
theorem wok_yes {zs : List Int} (h1 : zs.length ≤ 64) (h2 : okTo zs zs.length) : wokI zs = true := by
  unfold wokI; exact decide_eq_true ⟨h1, h2⟩
theorem wok_long {zs : List Int} (h : 64 < zs.length) : wokI zs = false := by
  unfold wokI; exact decide_eq_false fun h' => by have := h'.1; omega
theorem wok_bad {zs : List Int} {k : Nat} (hk : k < zs.length) (h : zs.getD k 0 < 0 ∨ 1073741824 < zs.getD k 0) : wokI zs = false := by
  unfold wokI; exact decide_eq_false fun h' => by have := h'.2 k hk; omega
theorem okTo_succ {zs : List Int} {k : Nat} (h : okTo zs k) (h1 : 0 ≤ zs.getD k 0) (h2 : zs.getD k 0 ≤ 1073741824) : okTo zs (k + 1) := by
  intro j hj
  by_cases h3 : j < k
  · exact h j h3
  · obtain rfl : j = k := by omega
    exact ⟨h1, h2⟩
theorem ret_bool {a b : Bool} (h : a = b) : Ending.returned (.bool a) = .returned (.bool b) := by rw [h]

theorem sin_yes (x least most : Int) (w : World) (h1 : least ≤ x) (h2 : x ≤ most) :
    Calls Try.prog 51 #[.int .i64 x, .int .i64 least, .int .i64 most] w fun e w' => e = .returned (.bool true) ∧ w' = w := by
  go_enter Try.func51, Try.ntmps51
  go_wp2
  go_ret
  exact ⟨ret_bool (by simp), rfl⟩
theorem sin_no (x least most : Int) (w : World) (h : x < least ∨ most < x) :
    Calls Try.prog 51 #[.int .i64 x, .int .i64 least, .int .i64 most] w fun e w' => e = .returned (.bool false) ∧ w' = w := by
  by_cases h1 : x < least
  · go_enter Try.func51, Try.ntmps51
    go_wp2
    go_ret
    exact ⟨rfl, rfl⟩
  · have h2 : most < x := by omega
    clear h
    go_enter Try.func51, Try.ntmps51
    go_wp2
    go_ret
    exact ⟨ret_bool (by simp; omega), rfl⟩

set_option maxHeartbeats 400000 in
theorem iwok_any (a : Option Addr) (len cap : Nat) (zs : List Int) (w : World) (hz : Ints w a len zs) (hl : len ≤ 1048576) :
    Calls Try.prog 94 #[.slice a len cap] w fun e w' => e = .returned (.bool (wokI zs)) ∧ w' = w := by
  have hzl := hz.1
  by_cases h64 : 64 < len
  · clear hz
    go_enter Try.func94, Try.ntmps94
    go_wp2
    go_ret
    exact ⟨ret_bool (wok_long (by omega)).symm, rfl⟩
  · go_enter Try.func94, Try.ntmps94
    go_wp2

    go_loop [10] (fun i => ∃ k : Nat, k ≤ len ∧ i = .int .i64 k ∧ okTo zs k) (fun i => len - (intOf i).toNat)
    case atStart => exact ⟨0, Nat.zero_le _, rfl, fun j hj => by omega⟩
    case round =>
      obtain ⟨k, hk, rfl, hok⟩ := hrel
      by_cases hlt : k < len
      · obtain ⟨b, off, rfl, hb, hc⟩ := hz.look hlt
        have hlo : (0 : Int) ≤ (k : Int) := Int.natCast_nonneg _
        have hhi : (k : Int) < (len : Int) := by omega
        have HZ := Lib.hid hz
        clear hz
        have HS := Lib.hid (okTo_succ hok)
        have HB := Lib.hid (@wok_bad zs k (by omega))
        clear hok
        generalize zs.getD k 0 = z at *
        by_cases h0 : z < 0
        · go_wp2
          go_ret
          exact ⟨ret_bool (HB.out (Or.inl h0)).symm, rfl⟩
        · by_cases h1 : 1073741824 < z
          · go_wp2
            go_ret
            exact ⟨ret_bool (HB.out (Or.inr h1)).symm, rfl⟩
          · go_wp2
            go_round
            case rel => exact ⟨k + 1, by omega, by go_num, HS.out (by omega) (by omega)⟩
            case measure => simp [intOf]; omega
      · obtain rfl : k = len := by omega
        clear hz
        have HO := Lib.hid hok
        clear hok
        go_wp2
        go_ret
        exact ⟨ret_bool (wok_yes (by omega) (by rw [hzl]; exact HO.out)).symm, rfl⟩

set_option maxHeartbeats 400000 in
theorem swok_any (a : Option Addr) (len cap : Nat) (zs : List Int) (w : World) (hz : Ints w a len zs) (hl : len ≤ 1048576) :
    Calls Try.prog 80 #[.slice a len cap] w fun e w' => e = .returned (.bool (wokI zs)) ∧ w' = w := by
  have hzl := hz.1
  go_enter Try.func80, Try.ntmps80
  go_wp2
  go_loop [3] (fun i => ∃ k : Nat, k ≤ len ∧ i = .int .i64 k ∧ okTo zs k) (fun i => len - (intOf i).toNat)
  case atStart => exact ⟨0, Nat.zero_le _, rfl, fun j hj => by omega⟩
  case round =>
    obtain ⟨k, hk, rfl, hok⟩ := hrel
    by_cases hlt : k < len
    · obtain ⟨b, off, rfl, hb, hc⟩ := hz.look hlt
      have hlo : (0 : Int) ≤ (k : Int) := Int.natCast_nonneg _
      have hhi : (k : Int) < (len : Int) := by omega
      have HZ := Lib.hid hz
      clear hz
      have HS := Lib.hid (okTo_succ hok)
      have HB := Lib.hid (@wok_bad zs k (by omega))
      clear hok
      generalize zs.getD k 0 = z at *
      by_cases h0 : z < 0 ∨ 1073741824 < z
      · have H0 := Lib.hid h0
        clear h0
        go_wp2_with (fail)
        refine (sin_no z 0 1073741824 w H0.out).mono ?_
        rintro e w1 ⟨rfl, rfl⟩
        go_wp2
        go_ret
        exact ⟨ret_bool (HB.out H0.out).symm, rfl⟩
      · go_wp2_with (fail)
        refine (sin_yes z 0 1073741824 w (by omega) (by omega)).mono ?_
        rintro e w1 ⟨rfl, rfl⟩
        go_wp2
        go_round
        case rel => exact ⟨k + 1, by omega, by go_num, HS.out (by omega) (by omega)⟩
        case measure => simp [intOf]; omega
    · obtain rfl : k = len := by omega
      clear hz
      have HO := Lib.hid hok
      clear hok
      by_cases h64 : 64 < k
      · go_wp2
        go_ret
        exact ⟨ret_bool (by rw [wok_long (by omega)]; simp; omega), rfl⟩
      · go_wp2
        go_ret
        exact ⟨ret_bool (by rw [wok_yes (by omega) (by rw [hzl]; exact HO.out)]; simp; omega), rfl⟩
end Go.Proofs.Ytnncdpkmhpjmbaa
end

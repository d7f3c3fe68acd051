/-
  The contracts of impl.ShareAt and spec.ShareAt: one share, or 0 where there is none. Conditions: at most 1048576 weights.
-/
import Derived.Test.YtdhgachfenkbgaaShI
import Derived.Test.YtdhgachfenkbgaaShS
namespace Go.Proofs.Ytdhgachfenkbgaa
open Go.ChangeShapes Go.WideShapes Go.ChangeAt Go.RowKit

/-- The element at i of a list, or 0. -/
def atI (xs : List Int) (i : Int) : Int := if 0 ≤ i then xs.getD i.toNat 0 else 0
theorem atI_no {xs : List Int} {i : Int} (h : i < 0 ∨ (xs.length : Int) ≤ i) : atI xs i = 0 := by
  unfold atI
  split
  · rw [List.getD, List.getElem?_eq_none (by omega)]; rfl
  · rfl
theorem atI_nat (xs : List Int) (k : Nat) : atI xs k = xs.getD k 0 := by
  unfold atI; rw [if_pos (by omega)]; rfl
def AtPost (x : Int) (w : World) (e : Ending) (w' : World) : Prop := e = .returned (.int .i64 x) ∧ Below w.heap.size w w'

theorem ishat_any (n : Int) (a : Option Addr) (len cap : Nat) (zs : List Int) (i : Int) (w : World) (hz : Ints w a len zs) (hl : len ≤ 1048576) :
    Calls Try.prog 48 #[.int .i64 n, .slice a len cap, .int .i64 i] w (AtPost (atI (shrL n zs) i) w) := by
  have hle := shrL_le n zs
  have HA := Lib.hid (shrL_all n zs)
  go_enter Try.func48, Try.ntmps48
  go_wp2_with (fail)
  refine (ish_any n a len cap zs w hz hl).mono ?_
  rintro e w1 ⟨v, rfl, hr, hb⟩
  obtain ⟨a', cap', rfl, hi⟩ := hr.slice HA.out
  clear hr hz
  generalize shrL n zs = xs at *
  by_cases h0 : i < 0
  · clear hi
    go_wp2
    go_ret
    exact ⟨ret_int (atI_no (Or.inl h0)).symm, hb⟩
  · by_cases h1 : (xs.length : Int) ≤ i
    · clear hi
      go_wp2
      go_ret
      exact ⟨ret_int (atI_no (Or.inr h1)).symm, hb⟩
    · obtain ⟨k, rfl⟩ := Int.eq_ofNat_of_zero_le (show 0 ≤ i by omega)
      have hlt : k < xs.length := by omega
      obtain ⟨b, off, rfl, hbl, hc⟩ := hi.look hlt
      have hlo : (0 : Int) ≤ (k : Int) := Int.natCast_nonneg _
      have hhi : (k : Int) < (xs.length : Int) := by omega
      clear hi
      have he := atI_nat xs k
      generalize xs.getD k 0 = z at *
      go_wp2
      go_ret
      exact ⟨ret_int he.symm, hb⟩
end Go.Proofs.Ytdhgachfenkbgaa

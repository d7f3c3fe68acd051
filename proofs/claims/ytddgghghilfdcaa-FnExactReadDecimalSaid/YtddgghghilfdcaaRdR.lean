/-
  The relation and the results that both readers of decimals share. Conditions: none beyond a string's own length bound.
-/
import Derived.Test.YtddgghghilfdcaaKit
import Derived.Test.YtddgghghilfdcaaNums
namespace Go.Proofs.Ytddgghghilfdcaa
open Go.ChangeShapes Go.WideShapes Go.ChangeAt Go.RowKit

def RdRel (s : ByteArray) (n i : Value) : Prop :=
  ∃ k : Nat, k ≤ s.size ∧ (s.data.toList.take k).all Nums.dgB = true ∧ n = .int .i64 (Nums.val (s.data.toList.take k) : Int) ∧ i = .int .i64 k

theorem rd_next {s : ByteArray} {k : Nat} (h : k < s.size) (ha : (s.data.toList.take k).all Nums.dgB = true) (h1 : ¬ (s[k].toNat : Int) < 48) (h2 : ¬ 57 < (s[k].toNat : Int)) {m : Int} (hm : m = (Nums.val (s.data.toList.take k) : Int) * 10 + ((s[k].toNat : Int) - 48)) :
    RdRel s (.int .i64 m) (.int .i64 ((k : Int) + 1)) := by
  obtain ⟨h3, h4⟩ := Nums.dg_next h ha h1 h2
  exact ⟨k + 1, by omega, h3, by rw [h4, hm], by go_num⟩
theorem tup_false {s : ByteArray} (h : Nums.rdB s.data.toList = false) : Ending.returned (.tuple #[.int .i64 0, .bool false]) = .returned (.tuple #[.int .i64 (Nums.rdN s.data.toList), .bool (Nums.rdB s.data.toList)]) := by
  rw [Nums.rdN_false h, h]
theorem tup_true {s : ByteArray} {m : Int} (h : Nums.rdB s.data.toList = true) (hm : m = Nums.val s.data.toList) : Ending.returned (.tuple #[.int .i64 m, .bool true]) = .returned (.tuple #[.int .i64 (Nums.rdN s.data.toList), .bool (Nums.rdB s.data.toList)]) := by
  rw [Nums.rdN_true h, h, hm]
end Go.Proofs.Ytddgghghilfdcaa

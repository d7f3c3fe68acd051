/-
  The contract of impl.Hex: for every text of at most 20000 bytes its lowercase hexadecimal encoding and true, else the empty text and false. Conditions: a string's own length bound.
-/
import Derived.Test.YtddgghghilfdcaaDoorBld
import Derived.Test.YtddgghghilfdcaaDoorHexM
namespace Go.Proofs.YtddgghghilfdcaaDoor
open Go.ChangeShapes Go.WideShapes Go.ChangeAt Go.RowKit

def HexRel (s : ByteArray) (w : World) (i : Value) (wr : World) : Prop :=
  ∃ k : Nat, k ≤ s.size ∧ i = .int .i64 k ∧ Bld.Is w.heap.size w.heap.size (Nums.hexL (s.data.toList.take k)) wr ∧ Below w.heap.size w wr ∧ w.heap.size ≤ wr.heap.size

set_option maxHeartbeats 400000 in
theorem ihex_any (s : ByteArray) (w : World) (hs : s.size ≤ 20000) :
    Calls Tryd.prog 8 #[.string s] w fun e w' => e = .returned (.tuple #[.string ⟨(Nums.hexL s.data.toList).toArray⟩, .bool true]) ∧ Below w.heap.size w w' := by
  have hbk : (w.alloc (.cells #[.pointer none, .slice none 0 0] 38)).heap[w.heap.size]? = some (.cells #[.pointer none, .slice none 0 0] 38 (0, 0)) := (MapKept.heap_alloc w _).1
  have HK := Lib.hid hbk
  clear hbk
  go_enter Tryd.func8, Tryd.ntmps8
  go_wp2_with (go_at_call 16; refine (Bld.grow w.heap.size w.heap.size (2 * s.size) _ _ (by omega) (Nat.le_refl _) HK.out (by simp) (by omega)).mono ?_; rintro e w1 ⟨rfl, hi, hb⟩)
  have hb1 : Below w.heap.size w w1 := ((Below.refl _ _).alloc (Nat.le_refl _) _).trans hb
  have hz1 : w.heap.size ≤ w1.heap.size := hb1.size
  clear hb HK
  go_loopw [5] (HexRel s w) (fun i _ => s.size - (intOf i).toNat)
  case atStart => exact ⟨0, Nat.zero_le _, rfl, by simpa [Nums.hexL] using hi, hb1, hz1⟩
  case round =>
    obtain ⟨k, hk, rfl, his, hbw, hzw⟩ := hrel
    by_cases hlt : k < s.size
    · have hc := s[k].toNat_lt
      have hl1 : (Nums.hexL (s.data.toList.take k)).length + 1 ≤ 140737488355328 := by rw [Nums.hexL_len, List.length_take]; omega
      go_wp2_with (fail)
      refine (Bld.writeByte w.heap.size w.heap.size _ (Nums.hx (s[k].toNat / 16)) _ _ (Nums.tab_hx _ _) his hl1 hzw).mono ?_
      rintro e w2 ⟨rfl, hi2, hb2⟩
      have hz2 : w.heap.size ≤ w2.heap.size := (hbw.trans hb2).size
      have hl2 : (Nums.hexL (s.data.toList.take k) ++ [Nums.hx (s[k].toNat / 16)]).length + 1 ≤ 140737488355328 := by rw [List.length_append, Nums.hexL_len, List.length_take]; simp; omega
      go_wp2_with (fail)
      refine (Bld.writeByte w.heap.size w.heap.size _ (Nums.hx (s[k].toNat % 16)) _ _ (Nums.tab_hx _ _) hi2 hl2 hz2).mono ?_
      rintro e w3 ⟨rfl, hi3, hb3⟩
      have HR := Lib.hid (show HexRel s w (.int .i64 ((k : Int) + 1)) w3 from ⟨k + 1, by omega, by go_num, by rw [Nums.take_snoc s k hlt, Nums.hexL_snoc]; exact hi3, (hbw.trans hb2).trans hb3, ((hbw.trans hb2).trans hb3).size⟩)
      clear hl1 hl2
      go_wp2
      go_roundw
      case rel => exact HR.out
      case measure => simp [intOf]; omega
    · go_wp2_with (go_at_call 18; refine (Bld.string w.heap.size w.heap.size _ _ his hzw).mono ?_; rintro e w2 ⟨rfl, hb2⟩)
      go_ret2
      refine ⟨?_, hbw.trans hb2⟩
      rw [Nums.take_all s (k := k) (by omega)]; rfl

theorem ihex_long (s : ByteArray) (w : World) (hs : 20000 < s.size) (hs2 : s.size ≤ 9223372036854775807) :
    Calls Tryd.prog 8 #[.string s] w fun e w' => e = .returned (.tuple #[.string ⟨#[]⟩, .bool false]) ∧ w = w' := by
  go_enter Tryd.func8, Tryd.ntmps8
  go_wp2
  go_ret2
  exact ⟨rfl, rfl⟩
end Go.Proofs.YtddgghghilfdcaaDoor

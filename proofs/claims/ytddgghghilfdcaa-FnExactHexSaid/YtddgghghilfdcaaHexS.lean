/-
  The contract of spec.Hex: for every text of at most 20000 bytes its lowercase hexadecimal encoding and true, else the empty text and false. Conditions: a string's own length bound.
-/
import Derived.Test.YtddgghghilfdcaaOwnB
import Derived.Test.YtddgghghilfdcaaDec
import Derived.Test.YtddgghghilfdcaaHexM
import Derived.Deep.RegionLaw
import Derived.Deep.AppendLies
namespace Go.Proofs.Ytddgghghilfdcaa
open Go.ChangeShapes Go.WideShapes Go.ChangeAt Go.RowKit

theorem info_u8 : (Try.prog.info? 5).map (fun i => (i.zero, i.size, i.bytes)) = some (some (.int .u8 0), 1, 1) := by kernel_rfl

def SHexRel (s : ByteArray) (w : World) (v i : Value) (wr : World) : Prop :=
  ∃ k : Nat, k ≤ s.size ∧ i = .int .i64 k ∧ wr.ownsRow w.heap.size 5 1 v (Nums.hexL (s.data.toList.take k)).length (Lib.byteCells (Nums.hexL (s.data.toList.take k))) ∧ Below w.heap.size w wr ∧ w.heap.size ≤ wr.heap.size

theorem figI_hx (n : Nat) (x : Int) (hx : x = (n : Int)) (h : n < 16) : figI x = ((Nums.hx n).toNat : Int) := by
  subst hx; rw [Nums.hx_toNat h]; unfold figI; split <;> split <;> omega
set_option maxHeartbeats 400000 in
theorem shex_any (s : ByteArray) (w : World) (hs : s.size ≤ 20000) :
    Calls Try.prog 8 #[.string s] w fun e w' => e = .returned (.tuple #[.string ⟨(Nums.hexL s.data.toList).toArray⟩, .bool true]) ∧ Below w.heap.size w w' := by
  obtain ⟨i0, hi, hz0, hz1, hz2⟩ := info_parts info_u8
  go_enter Try.func8, Try.ntmps8
  go_wp2
  go_loopw [4, 5] (SHexRel s w) (fun _ i _ => s.size - (intOf i).toNat)
  case atStart => exact ⟨0, Nat.zero_le _, rfl, World.ownsRow_lit w #[] 0 (Nat.le_refl _) (by unfold maxLen; omega) rfl, (Below.refl _ _).alloc (Nat.le_refl _) _, by simp⟩
  case round =>
    obtain ⟨k, hk, rfl, his, hbw, hzw⟩ := hrel
    by_cases hlt : k < s.size
    · have hc := s[k].toNat_lt
      go_wp2
      have q0 : 0 ≤ (s[k].toNat : Int) / 16 := by omega
      have q1 : (s[k].toNat : Int) / 16 ≤ 15 := by omega
      have r0 : 0 ≤ (s[k].toNat : Int) % 16 := by omega
      have r1 : (s[k].toNat : Int) % 16 ≤ 15 := by omega
      have hlen : (Nums.hexL (s.data.toList.take k)).length ≤ 40000 := by rw [Nums.hexL_len, List.length_take]; omega
      have h63 : (Nums.hexL (s.data.toList.take k)).length + 2 ≤ maxLen := by unfold maxLen; omega
      have hbt : ((Nums.hexL (s.data.toList.take k)).length + 2) * 1 ≤ 140737488355328 := by omega
      have hz1' : w.heap.size ≤ wr.heap.size + 1 := by omega
      have hlo : (0 : Int) ≤ (k : Int) := Int.natCast_nonneg _
      have hhi : (k : Int) < (s.size : Int) := by omega
      have g1 : IntKind.i64.wrap (s[k].toNat : Int) = s[k].toNat := IntWalk.i64_in _ (by omega)
      have g2 : (s[k].toNat : Int).tdiv 16 = (s[k].toNat : Int) / 16 := Int.tdiv_eq_ediv_of_nonneg (by omega)
      have g3 : (s[k].toNat : Int).tmod 16 = (s[k].toNat : Int) % 16 := Int.tmod_eq_emod_of_nonneg (by omega)
      have g4 : IntKind.i64.wrap ((s[k].toNat : Int) / 16) = (s[k].toNat : Int) / 16 := IntWalk.i64_in _ (by omega)
      have g5 : IntKind.i64.wrap ((s[k].toNat : Int) % 16) = (s[k].toNat : Int) % 16 := IntWalk.i64_in _ (by omega)
      go_region_law (first
        | (go_simp; go_at_call 21; ((with_reducible refine (fig_any _ _ q0 q1).mono ?_); rintro e w' ⟨rfl, rfl⟩))
        | (go_simp; go_at_call 21; ((with_reducible refine (fig_any _ _ r0 r1).mono ?_); rintro e w' ⟨rfl, rfl⟩))
        | (refine step_append_lies _ (by rfl) _ _ _ (by rfl) w.heap.size 5 i0 (.int .u8 0) 1 1 Try.underlying34 hi hz0 hz1 hz2 rfl (by decide) u4 _ _ (by rfl) ((his.alloc _).drew) ⟨wr.heap.size, 0, none⟩ 2 2 [.int .u8 (figI ((s[k].toNat : Int) / 16)), .int .u8 (figI ((s[k].toNat : Int) % 16))] (by rfl) (by rfl) (World.news_of_block (cs := #[.int .u8 (figI ((s[k].toNat : Int) / 16)), .int .u8 (figI ((s[k].toNat : Int) % 16))]) (t := 5) (fr := (0, 0)) (heap_alloc_new wr _)) (by simp [Value.oneCell']) (by decide) h63 hbt (by simp; omega) (wr.heap.size + 1) (by simp) ?_; intro g cap w3 hown hgr _ _))
      all_goals
        clear g1 g2 g3 g4 g5
        have hbw3 : Below w.heap.size w w3 := (((hbw.alloc hzw _).drew).grown hgr (by simp; omega) (fun g hg => (his.lt g hg).1))
        have HR := Lib.hid (show SHexRel s w (.slice (some ⟨g, 0, none⟩) ((Nums.hexL (s.data.toList.take k)).length + 2) cap) (.int .i64 ((k : Int) + 1)) w3 from ⟨k + 1, by omega, by go_num, by
          rw [Nums.take_snoc s k hlt, Nums.hexL_snoc]
          rw [figI_hx (s[k].toNat / 16) _ (by omega) (by omega), figI_hx (s[k].toNat % 16) _ (by omega) (by omega)] at hown
          simpa [Lib.byteCells] using hown, hbw3, hbw3.size⟩)
        clear hown hgr
        go_wp2
        go_roundw
        case rel => exact HR.out
        case measure => simp [intOf]; omega
    · have hcv := own_string wr _ _ _ his
      go_wp2
      go_ret2
      refine ⟨?_, hbw⟩
      rw [Nums.take_all s (k := k) (by omega)]; rfl

theorem shex_long (s : ByteArray) (w : World) (hs : 20000 < s.size) (hs2 : s.size ≤ 9223372036854775807) :
    Calls Try.prog 8 #[.string s] w fun e w' => e = .returned (.tuple #[.string ⟨#[]⟩, .bool false]) ∧ w = w' := by
  go_enter Try.func8, Try.ntmps8
  go_wp2
  go_ret2
  exact ⟨rfl, rfl⟩
end Go.Proofs.Ytddgghghilfdcaa

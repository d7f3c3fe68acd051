/-
  The laws' helpers on a slice of slices that came in: szIntSS, toIntSS; the argument opened. Conditions: those of each lemma.
-/
import Derived.Test.YtopfiogmbnfjcaaLoI
import Derived.Test.YtopfiogmbnfjcaaLnS
import Derived.Test.YtopfiogmbnfjcaaIntS
namespace Go.Proofs.Ytopfiogmbnfjcaa
open Go.ChangeShapes Go.WideShapes Go.ChangeAt Go.RowKit
set_option linter.unusedVariables false
set_option linter.unusedSimpArgs false
set_option maxRecDepth 8000

theorem szI_any (a : Option Addr) (n cap : Nat) (z : Int) (w : World) (h0 : 0 ≤ z) (h1 : z ≤ 1048576) (hn : n ≤ 9223372036854775807) :
    Calls Try.prog 82 #[.slice a n cap, .int .i64 z] w fun e w' => e = .returned (.int .i64 (if z - n < 0 then -1 else z - n)) ∧ w' = w := by
  have hw : wrap64 (z - (n : Int)) = z - n := IntWalk.wrap64_in _ (by omega)
  by_cases h : z - (n : Int) < 0
  · rw [if_pos h]
    go_enter Try.func82, Try.ntmps82
    go_wp2
    go_ret
    exact ⟨rfl, rfl⟩
  · rw [if_neg h]
    go_enter Try.func82, Try.ntmps82
    go_wp2
    go_ret
    exact ⟨rfl, rfl⟩
set_option maxHeartbeats 1000000 in
theorem szss_any (a : Option Addr) (cap : Nat) (L : List (List Int)) (w : World) (hz : Ss w a L) (hm : L.length ≤ 9223372036854775807) (hmm : ∀ l ∈ L, l.length ≤ 9223372036854775807) :
    Calls Try.prog 57 #[.slice a L.length cap, .int .i64 1048576] w fun e w' => (∃ z : Int, e = .returned (.int .i64 z) ∧ (z < 0 ∨ (0 ≤ z ∧ L.length ≤ 1048576 ∧ ∀ l ∈ L, l.length ≤ 1048576))) ∧ w' = w := by
  have hw : wrap64 (1048576 - (L.length : Int)) = 1048576 - L.length := IntWalk.wrap64_in _ (by omega)
  have HZ := Lib.hid hz
  have HMM := Lib.hid hmm
  clear hz hmm
  by_cases h : 1048576 - (L.length : Int) < 0
  · go_enter Try.func57, Try.ntmps57
    go_wp2
    go_ret
    exact ⟨⟨-1, rfl, Or.inl (by omega)⟩, rfl⟩
  · have hle : L.length ≤ 1048576 := by omega
    go_enter Try.func57, Try.ntmps57
    go_wp2
    go_loopw [1, 5] (fun q i wr => ∃ (k : Nat) (z : Int), k ≤ L.length ∧ i = .int .i64 k ∧ q = .int .i64 z ∧ 0 ≤ z ∧ z ≤ 1048576 ∧ (∀ j, j < k → (lnD L j).length ≤ 1048576) ∧ wr = w) (fun _ i _ => L.length - (intOf i).toNat)
    case atStart => exact ⟨0, _, Nat.zero_le _, rfl, rfl, by omega, by omega, fun j hj => by omega, rfl⟩
    case round =>
      obtain ⟨k, z, hk, rfl, rfl, h0, h1, hj, rfl⟩ := hrel
      have HJ := Lib.hid hj
      clear hj hw h
      by_cases hlt : k < L.length
      · have hlo : (0 : Int) ≤ (k : Int) := Int.natCast_nonneg _
        have hhi : (k : Int) < (L.length : Int) := by omega
        obtain ⟨b, off, ak, ck, rfl, _, hcell, hi⟩ := HZ.out.look hlt
        have kk := szI_any ak (lnD L k).length ck z wr h0 h1 (HMM.out _ (lnD_mem hlt))
        obtain ⟨n, en⟩ : ∃ q, q = (lnD L k).length := ⟨_, rfl⟩
        rw [← en] at kk hcell
        have EN := Lib.hid en
        have KK := Lib.hid kk
        clear kk hi en
        go_wp2_with (fail)
        refine KK.out.mono ?_
        rintro e w1 ⟨rfl, rfl⟩
        clear KK hcell
        by_cases hn : z - (n : Int) < 0
        · rw [if_pos hn]
          go_wp2
          go_ret
          exact ⟨⟨-1, rfl, Or.inl (by omega)⟩, rfl⟩
        · rw [if_neg hn]
          have HJ2 := Lib.hid (show ∀ j, j < k + 1 → (lnD L j).length ≤ 1048576 from fun j hj => by
            by_cases h : j < k
            · exact HJ.out j h
            · obtain rfl : j = k := by omega
              rw [← EN.out]; omega)
          obtain ⟨y, ey⟩ : ∃ q, q = z - (n : Int) := ⟨_, rfl⟩
          rw [← ey] at hn ⊢
          have hy : 0 ≤ y ∧ y ≤ 1048576 := by omega
          clear ey
          go_wp2
          go_roundw
          case rel => exact ⟨k + 1, y, by omega, by go_num, rfl, hy.1, hy.2, HJ2.out, (by first | trivial | rfl)⟩
          case measure => simp [intOf]; omega
      · obtain rfl : k = L.length := by omega
        have HALL := Lib.hid (show ∀ l ∈ L, l.length ≤ 1048576 from fun l hl => by
          obtain ⟨j, hj, rfl⟩ := List.getElem_of_mem hl
          have := HJ.out j hj
          simpa [lnD, List.getD, hj] using this)
        go_wp2
        go_ret
        exact ⟨⟨z, rfl, Or.inr ⟨h0, hle, HALL.out⟩⟩, rfl⟩
theorem rep_set {L : List (List Int)} {k : Nat} (h : k < L.length) : (L.take k ++ List.replicate (L.length - k) []).set k (lnD L k) = L.take (k + 1) ++ List.replicate (L.length - (k + 1)) [] := by
  have hl : (L.take k).length = k := by rw [List.length_take]; omega
  rw [List.set_append_right _ _ (by omega), hl, Nat.sub_self, show L.length - k = (L.length - (k + 1)) + 1 by omega, List.replicate_succ, List.set_cons_zero, List.take_succ_eq_append_getElem h, List.append_assoc]
  congr 1
  simp [lnD, List.getD, h]
set_option maxHeartbeats 1000000 in
theorem toss_any (a : Option Addr) (cap : Nat) (L : List (List Int)) (w : World) (hz : Ss w a L) (hl : L.length ≤ 1048576) (hb : ∀ l ∈ L, l.length ≤ 1048576) :
    Calls Try.prog 59 #[.slice a L.length cap] w (OutPostS L w) := by
  obtain ⟨is, his, hs0, hs1, hs2⟩ := info_parts info_ints
  have HZ := Lib.hid hz
  have HB := Lib.hid hb
  have hall := hz.1
  have HALL := Lib.hid hall
  clear hz hb hall
  go_enter Try.func59, Try.ntmps59
  go_wp2_with (first
    | (at_make; refine wpList_make_full _ rfl _ _ 40 rfl w.heap.size 27 is (.slice none 0 0) 1 Try.underlying40 his hs0 hs1 .i64 .i64 _ _ L.length rfl rfl rfl rfl (by rw [hs2]; omega) (by unfold maxLen; omega) (Nat.le_refl _) ?_))
  intro v0 hown0 hgrow0
  have hr0 : Ss1 w.heap.size (.slice (some ⟨w.heap.size, 0, none⟩) L.length L.length) (L.take 0 ++ List.replicate (L.length - 0) []) v0 := by
    refine ⟨fun l h => ?_, List.replicate L.length (.slice none 0 0), ?_, by simp, fun k l hk => ?_⟩
    · rw [List.take_zero, List.nil_append] at h
      rw [(List.mem_replicate.1 h).2]; intro z hz; cases hz
    · have h2 := hown0
      rw [toList_madeCells_one] at h2
      rw [show (L.take 0 ++ List.replicate (L.length - 0) ([] : List Int)).length = L.length by simp]
      exact h2
    · rw [List.take_zero, List.nil_append, Nat.sub_zero] at hk
      have hlt := (List.getElem?_eq_some_iff.1 hk).1
      rw [List.getElem?_replicate] at hk
      rw [List.length_replicate] at hlt
      rw [if_pos hlt] at hk
      obtain rfl : [] = l := by simpa using hk
      exact ⟨none, 0, by rw [List.getElem?_replicate, if_pos hlt]; rfl, ⟨rfl, (fun z hz => by cases hz), Or.inl rfl⟩, fun b off e => by cases e⟩
  have hb0 : Below w.heap.size w v0 := (Below.refl _ _).grown hgrow0 (Nat.le_refl _) (fun g hg => by cases hg)
  have HR0 := Lib.hid hr0
  have HB0 := Lib.hid hb0
  clear hown0 hgrow0 hr0 hb0
  go_wp2
  go_loopw [4] (fun i wr => ∃ k : Nat, k ≤ L.length ∧ i = .int .i64 k ∧ Ss1 w.heap.size (.slice (some ⟨w.heap.size, 0, none⟩) L.length L.length) (L.take k ++ List.replicate (L.length - k) []) wr ∧ Below w.heap.size w wr) (fun i _ => L.length - (intOf i).toNat)
  case atStart => exact ⟨0, Nat.zero_le _, rfl, HR0.out, HB0.out⟩
  case round =>
    clear HR0 HB0
    obtain ⟨k, hk, rfl, ho, hbw⟩ := hrel
    have HO := Lib.hid ho
    have HBW := Lib.hid hbw
    by_cases hlt : k < L.length
    · have hlo : (0 : Int) ≤ (k : Int) := Int.natCast_nonneg _
      have hhi : (k : Int) < (L.length : Int) := by omega
      obtain ⟨b, off, ak, ck, rfl, _, hcell, hi⟩ := (HZ.out.below hbw).look hlt
      have hll := HB.out _ (lnD_mem hlt)
      have kk := toI_any ak (lnD L k).length ck (lnD L k) wr hi hll
      have HAL := Lib.hid (HALL.out _ (lnD_mem hlt))
      have HRS := Lib.hid (rep_set hlt)
      have hgl : w.heap.size < wr.heap.size := by
        obtain ⟨_, hs, ho', _⟩ := ho
        exact (World.ownsRow.lt ho' _ rfl).2
      generalize lnD L k = l at *
      obtain ⟨n, en⟩ : ∃ q, q = l.length := ⟨_, rfl⟩
      rw [← en] at kk hcell hll
      have EN := Lib.hid en
      have KK := Lib.hid kk
      clear kk hi en ho hbw
      go_wp2_with (fail)
      refine KK.out.mono ?_
      rintro e w1 ⟨rfl, r1, b1⟩
      have hi1 : Ints w1 (some ⟨wr.heap.size, 0, none⟩) l.length l := by rw [← EN.out]; exact r1.ints EN.out.symm HAL.out
      have hlt1 := (World.ownsRow.lt r1 _ rfl).2
      obtain ⟨⟨qs, cs⟩, fs, hset⟩ := (HO.out.below b1).set (j := k) (ck := n) (by simp; omega) (by simp; omega) HAL.out hi1 (fun b off e => by
        simp at e
        obtain ⟨rfl, _⟩ := e
        exact ⟨by omega, hlt1, by omega⟩)
      rw [HRS.out, ← EN.out] at hset
      have HSET := Lib.hid hset
      have HB1 := Lib.hid (bl_set (HBW.out.trans (b1.mono HBW.out.size)) (g := w.heap.size) k (Nat.le_refl _) (.slice (some ⟨wr.heap.size, 0, none⟩) n n))
      clear KK hset r1 b1 hi1 hlt1 hcell HO
      (try dsimp only)
      go_wp2_with (fail)
      go_roundw
      case rel => exact ⟨k + 1, by omega, by go_num, HSET.out, HB1.out⟩
      case measure => simp [intOf]; omega
    · obtain rfl : k = L.length := by omega
      rw [List.take_length, Nat.sub_self, List.replicate_zero, List.append_nil] at ho
      have HR := Lib.hid ho
      clear ho HO
      go_wp2
      go_ret
      exact ⟨_, rfl, HR.out, hbw⟩
end Go.Proofs.Ytopfiogmbnfjcaa

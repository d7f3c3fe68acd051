import Derived.Test.YtnncdpkmhpjmbaaZnAS
section
namespace Go.Proofs.Ytnncdpkmhpjmbaa
open Go.ChangeShapes Go.WideShapes Go.ChangeAt Go.RowKit

set_option maxHeartbeats 400000 in
theorem iwsum_any (a : Option Addr) (len cap : Nat) (zs : List Int) (w : World) (hz : Ints w a len zs) (hl : len ≤ 64) (hok : okTo zs len) :
    Calls Try.prog 95 #[.slice a len cap] w fun e w' => e = .returned (.int .i64 (wsum zs len)) ∧ w' = w := by
  have HK := Lib.hid hok
  clear hok
  go_enter Try.func95, Try.ntmps95
  go_wp2
  go_loop [3, 8] (fun t i => ∃ k : Nat, k ≤ len ∧ t = .int .i64 (wsum zs k) ∧ i = .int .i64 k) (fun _ i => len - (intOf i).toNat)
  case atStart => exact ⟨0, Nat.zero_le _, rfl, rfl⟩
  case round =>
    obtain ⟨k, hk, rfl, rfl⟩ := hrel
    have ht := wsum_in (okTo_le HK.out hk)
    by_cases hlt : k < len
    · obtain ⟨b, off, rfl, hb, hc⟩ := hz.look hlt
      have hlo : (0 : Int) ≤ (k : Int) := Int.natCast_nonneg _
      have hhi : (k : Int) < (len : Int) := by omega
      have hn := HK.out k hlt
      have HZ := Lib.hid hz
      clear hz
      have hs : wsum zs (k + 1) = wsum zs k + zs.getD k 0 := rfl
      generalize zs.getD k 0 = z at *
      go_wp2
      go_round
      case rel => exact ⟨k + 1, by omega, by rw [hs], by go_num⟩
      case measure => simp [intOf]; omega
    · obtain rfl : k = len := by omega
      clear hz
      go_wp2
      go_ret
      exact ⟨rfl, rfl⟩

def ShRel (n : Int) (zs : List Int) (w : World) (s b i : Value) (wr : World) : Prop :=
  ∃ k : Nat, k ≤ zs.length ∧ i = .int .i64 k ∧ s = .int .i64 (wsum zs k) ∧ b = .int .i64 (posI n zs k) ∧
    RowI w.heap.size (.slice (some ⟨w.heap.size, 0, none⟩) zs.length zs.length) (shrK n zs k ++ (List.replicate zs.length 0).drop k) wr ∧ Below w.heap.size w wr

set_option maxHeartbeats 800000 in
theorem ish_any (n : Int) (a : Option Addr) (len cap : Nat) (zs : List Int) (w : World) (hz : Ints w a len zs) (hl : len ≤ 1048576) :
    Calls Try.prog 79 #[.int .i64 n, .slice a len cap] w (OutPost (shrL n zs) w) := by
  obtain ⟨i0, hi, hz0, hz1, hz2⟩ := info_parts info_intS
  obtain rfl : zs.length = len := hz.1
  have HZ := Lib.hid hz
  clear hz
  go_enter Try.func79, Try.ntmps79
  go_wp2_with (fail)
  refine (iwok_any a zs.length cap zs w HZ.out hl).mono ?_
  rintro e w1 ⟨rfl, rfl⟩
  cases hw : wokI zs with
  | false =>
    go_wp2
    go_ret
    exact ⟨_, rfl, by simpa [shrL, hw, RowI] using World.ownsRow_nil w1 w1.heap.size 3 1, Below.refl _ _⟩
  | true =>
    have ⟨h64, hok⟩ := wok_all hw
    have HOK := Lib.hid hok
    clear hok
    go_wp2_with (fail)
    refine (iclamp_off n w1).mono ?_
    rintro e w2 ⟨rfl, rfl⟩
    go_wp2_with (fail)
    refine (iwsum_any a zs.length cap zs w2 HZ.out h64 HOK.out).mono ?_
    rintro e w3 ⟨rfl, rfl⟩
    go_wp2_with (first
      | (at_make; refine wpList_make_full _ rfl _ _ 24 rfl w3.heap.size 3 i0 (.int .i64 0) 1 Try.underlying24 hi hz0 hz1 .i64 .i64 _ _ zs.length rfl rfl rfl rfl (by rw [hz2]; omega) (by unfold maxLen; omega) (Nat.le_refl _) ?_; intro w0 hown0 hgrow0))
    have hr0 : RowI w3.heap.size (.slice (some ⟨w3.heap.size, 0, none⟩) zs.length zs.length) (shrK (lenI n) zs 0 ++ (List.replicate zs.length 0).drop 0) w0 := by
      unfold RowI
      have e1 : (madeCells (Value.int .i64 0).cells (zs.length * 1)).toList = (List.replicate zs.length (0 : Int)).map (Value.int .i64) := by
        rw [show (Value.int .i64 0).cells = #[Value.int .i64 0] from rfl, Nat.mul_one, toList_madeCells_one]; simp
      rw [e1] at hown0
      simpa [shrK] using hown0
    have hb0 : Below w3.heap.size w3 w0 := (Below.refl _ _).grown hgrow0 (Nat.le_refl _) (fun g hg => by cases hg)
    clear hown0 hgrow0
    have HR0 := Lib.hid hr0
    clear hr0
    go_wp2
    go_loopw [7, 8, 23] (ShRel (lenI n) zs w3) (fun _ _ i _ => zs.length - (intOf i).toNat)
    case atStart => exact ⟨0, Nat.zero_le _, rfl, rfl, by rw [pos_zero], HR0.out, hb0⟩
    case round =>
      obtain ⟨k, hk, rfl, rfl, rfl, ho, hb⟩ := hrel
      have hll : (shrK (lenI n) zs k ++ (List.replicate zs.length (0 : Int)).drop k).length = zs.length := by simp [shrK_len]; omega
      by_cases hlt : k < zs.length
      · obtain ⟨b, off, rfl, hbl, hc⟩ := HZ.out.look hlt
        have hc1 : wr.cell? ⟨b, off + k, none⟩ = some (.int .i64 (zs.getD k 0)) := (hb.cell (p := ⟨b, off + k, none⟩) hbl).trans hc
        have hlo : (0 : Int) ≤ (k : Int) := Int.natCast_nonneg _
        have hhi : (k : Int) < (zs.length : Int) := by omega
        have ho' : wr.ownsRow w3.heap.size 3 1 (.slice (some ⟨w3.heap.size, 0, none⟩) zs.length zs.length) zs.length ((shrK (lenI n) zs k ++ (List.replicate zs.length (0 : Int)).drop k).map (Value.int .i64)) := by
          have h := ho; unfold RowI at h; rwa [hll] at h
        have hst := ho'.stored k (.int .i64 (shrI (lenI n) zs k))
        rw [← List.map_set, shrK_set (by simp; omega)] at hst
        have c2 : ∃ x, wr.cell? ⟨w3.heap.size, k, none⟩ = some x := by
          rw [ho'.cellAt k (by omega)]
          exact ⟨_, List.getElem?_eq_getElem (by simp [shrK_len]; omega)⟩
        obtain ⟨x2, c2⟩ := c2
        have f2 := ho'.frozenAt k
        have HS := Lib.hid hst
        have hs1 := wsum_small HOK.out h64 (show k ≤ zs.length by omega)
        have hs2 := wsum_small HOK.out h64 (show k + 1 ≤ zs.length by omega)
        have hp2 := prod_in (n := n) HOK.out h64 (show k + 1 ≤ zs.length by omega)
        have hq1 := pos_in (n := n) HOK.out h64 (show k ≤ zs.length by omega)
        have hq2 := pos_in (n := n) HOK.out h64 (show k + 1 ≤ zs.length by omega)
        have hadd : wsum zs k + zs.getD k 0 = wsum zs (k + 1) := rfl
        have hfd : fdI (lenI n * wsum zs (k + 1)) (wsum zs zs.length) = posI (lenI n) zs (k + 1) := rfl
        have hsub : posI (lenI n) zs (k + 1) - posI (lenI n) zs k = shrI (lenI n) zs k := rfl
        clear hc ho ho' hst hll HR0
        have hp3 := hp2
        rw [← hadd] at hp3
        have hz3 := HOK.out k hlt
        generalize zs.getD k 0 = z at *
        go_wp2_with (fail)
        refine (ifd_any (lenI n * wsum zs (k + 1)) (wsum zs zs.length) wr (by omega) (by omega)).mono ?_
        rintro e w4 ⟨rfl, rfl⟩
        rw [hfd]
        go_wp2
        go_roundw
        case rel =>
          refine ⟨k + 1, by omega, by go_num, rfl, rfl, ?_, hb.grown HS.out.2 hb.size (fun g hg => by simp at hg; omega)⟩
          unfold RowI
          rw [show (shrK (lenI n) zs (k + 1) ++ (List.replicate zs.length (0 : Int)).drop (k + 1)).length = zs.length by simp [shrK_len]; omega]
          exact HS.out.1
        case measure => simp [intOf]; omega
      · obtain rfl : k = zs.length := by omega
        rw [List.drop_of_length_le (by simp), List.append_nil] at ho
        clear hll HR0
        go_wp2
        go_ret
        exact ⟨_, rfl, by simpa [shrL, hw, RowI, shrK] using ho, hb⟩
end Go.Proofs.Ytnncdpkmhpjmbaa
end

import Derived.Test.YtnncdpkmhpjmbaaZnAS
section
namespace Go.Proofs.Ytnncdpkmhpjmbaa
open Go.ChangeShapes Go.WideShapes Go.ChangeAt Go.RowKit

def SsRel (n : Int) (zs : List Int) (w : World) (o b i : Value) (wr : World) : Prop :=
  ∃ k : Nat, k ≤ zs.length ∧ i = .int .i64 k ∧ b = .int .i64 (wsum zs k) ∧ RowI w.heap.size o (shrK n zs k) wr ∧ Below w.heap.size w wr
theorem one_cell (wr : World) (x : Value) (e : TypeId) : ∀ j u, [x][j]? = some u → (wr.alloc (.cells #[x] e)).cell? ((⟨wr.heap.size, 0, none⟩ : Addr).add j) = some u := by
  intro j u hj
  cases j with
  | zero => simp at hj; subst hj; simp [Addr.add]
  | succ j => simp at hj

set_option maxHeartbeats 800000 in
theorem ssh_any (n : Int) (a : Option Addr) (len cap : Nat) (zs : List Int) (w : World) (hz : Ints w a len zs) (hl : len ≤ 1048576) :
    Calls Try.prog 63 #[.int .i64 n, .slice a len cap] w (OutPost (shrL n zs) w) := by
  obtain ⟨i0, hi, hz0, hz1, hz2⟩ := info_parts info_intS
  obtain rfl : zs.length = len := hz.1
  have HZ := Lib.hid hz
  clear hz
  go_enter Try.func63, Try.ntmps63
  go_wp2_with (fail)
  have hr0 : RowI w.heap.size (.slice (some ⟨w.heap.size, 0, none⟩) 0 0) [] (w.alloc (.cells #[] 3)) := World.ownsRow_lit w #[] 0 (Nat.le_refl _) (by unfold maxLen; omega) rfl
  have hb0 : Below w.heap.size w (w.alloc (.cells #[] 3)) := (Below.refl _ _).alloc (Nat.le_refl _) _
  have H0 := Lib.hid (HZ.out.below hb0)
  have HR0 := Lib.hid hr0
  clear hr0
  generalize w.alloc (.cells #[] 3) = w0 at *
  refine (swok_any a zs.length cap zs w0 H0.out hl).mono ?_
  rintro e w1 ⟨rfl, rfl⟩
  cases hw : wokI zs with
  | false =>
    go_wp2
    go_ret
    exact ⟨_, rfl, by simpa [shrL, hw] using HR0.out, hb0⟩
  | true =>
    have ⟨h64, hok⟩ := wok_all hw
    have HOK := Lib.hid hok
    clear hok
    go_wp2
    go_loop [6, 7] (fun s i => ∃ k : Nat, k ≤ zs.length ∧ s = .int .i64 (wsum zs k) ∧ i = .int .i64 k) (fun _ i => zs.length - (intOf i).toNat)
    case atStart => exact ⟨0, Nat.zero_le _, rfl, rfl⟩
    case round =>
      obtain ⟨k, hk, rfl, rfl⟩ := hrel
      have ht := wsum_small HOK.out h64 hk
      by_cases hlt : k < zs.length
      · obtain ⟨b, off, rfl, hb, hc⟩ := H0.out.look hlt
        have hlo : (0 : Int) ≤ (k : Int) := Int.natCast_nonneg _
        have hhi : (k : Int) < (zs.length : Int) := by omega
        have hn := HOK.out k hlt
        have hs : wsum zs k + zs.getD k 0 = wsum zs (k + 1) := rfl
        generalize zs.getD k 0 = z at *
        go_wp2
        go_round
        case rel => exact ⟨k + 1, by omega, rfl, by go_num⟩
        case measure => simp [intOf]; omega
      · obtain rfl : k = zs.length := by omega
        go_wp2_with (fail)
        refine (slen n w1).mono ?_
        rintro e w2 ⟨rfl, rfl⟩
        go_wp2
        go_loopw [5, 8, 9] (SsRel (lenI n) zs w) (fun _ _ i _ => zs.length - (intOf i).toNat)
        case atStart => exact ⟨0, Nat.zero_le _, rfl, rfl, HR0.out, hb0⟩
        case round =>
          obtain ⟨k, hk, rfl, rfl, ho, hb⟩ := hrel
          by_cases hlt : k < zs.length
          · obtain ⟨b, off, rfl, hbl, hc⟩ := HZ.out.look hlt
            have hc1 : wr.cell? ⟨b, off + k, none⟩ = some (.int .i64 (zs.getD k 0)) := (hb.cell (p := ⟨b, off + k, none⟩) hbl).trans hc
            have hlo : (0 : Int) ≤ (k : Int) := Int.natCast_nonneg _
            have hhi : (k : Int) < (zs.length : Int) := by omega
            have HO := Lib.hid ho
            have hs1 := wsum_small HOK.out h64 (show k ≤ zs.length by omega)
            have hs2 := wsum_small HOK.out h64 (show k + 1 ≤ zs.length by omega)
            have hp1 := prod_in (n := n) HOK.out h64 (show k ≤ zs.length by omega)
            have hp2 := prod_in (n := n) HOK.out h64 (show k + 1 ≤ zs.length by omega)
            have hq1 := pos_in (n := n) HOK.out h64 (show k ≤ zs.length by omega)
            have hq2 := pos_in (n := n) HOK.out h64 (show k + 1 ≤ zs.length by omega)
            have hadd : wsum zs k + zs.getD k 0 = wsum zs (k + 1) := rfl
            have hfd : fdI (lenI n * wsum zs (k + 1)) (wsum zs zs.length) = posI (lenI n) zs (k + 1) := rfl
            have hfd1 : fdI (lenI n * wsum zs k) (wsum zs zs.length) = posI (lenI n) zs k := rfl
            have hsub : posI (lenI n) zs (k + 1) - posI (lenI n) zs k = shrI (lenI n) zs k := rfl
            clear hc ho
            have hz3 := HOK.out k hlt
            generalize zs.getD k 0 = z at *
            go_wp2_with (fail)
            refine (sfd_any (lenI n * wsum zs (k + 1)) (wsum zs zs.length) wr (by omega) (by omega)).mono ?_
            rintro e w4 ⟨rfl, rfl⟩
            rw [hfd]
            go_wp2_with (fail)
            refine (sfd_any (lenI n * wsum zs k) (wsum zs zs.length) w4 (by omega) (by omega)).mono ?_
            rintro e w5 ⟨rfl, rfl⟩
            rw [hfd1]
            go_wp2_with (at_builtin; refine wpList_append_own _ rfl _ _ 24 rfl w.heap.size 3 i0 (.int .i64 0) 1 8 Try.underlying24 hi hz0 hz1 hz2 rfl (by decide) _ _ _ rfl (World.ownsRow.alloc HO.out _) ⟨w5.heap.size, 0, none⟩ 1 1 [.int .i64 (shrI (lenI n) zs k)] rfl rfl (one_cell _ _ _) ?c2 ?c3 ?c4 ?c5 ?_)
            case c2 => intro u hu; simp at hu; subst hu; rfl
            case c3 => rw [shrK_len]; unfold maxLen; omega
            case c4 => rw [shrK_len]; omega
            case c5 => have := hb.size; simp; omega
            intro v' w6 hown3 hgr _
            have hb6 : Below w.heap.size w w6 := (hb.alloc hb.size _).grown hgr (by have := hb.size; simp; omega) (fun g hg => (World.ownsRow.lt HO.out g hg).1)
            have HN := Lib.hid (show RowI w.heap.size v' (shrK (lenI n) zs (k + 1)) w6 by rw [shrK_succ]; unfold RowI; simpa using hown3)
            clear hown3 hgr HO
            go_wp2
            go_roundw
            case rel => exact ⟨k + 1, by omega, by go_num, rfl, HN.out, hb6⟩
            case measure => simp [intOf]; omega
          · obtain rfl : k = zs.length := by omega
            go_wp2
            go_ret
            exact ⟨_, rfl, by simpa [shrL, hw, shrK] using ho, hb⟩
end Go.Proofs.Ytnncdpkmhpjmbaa
end

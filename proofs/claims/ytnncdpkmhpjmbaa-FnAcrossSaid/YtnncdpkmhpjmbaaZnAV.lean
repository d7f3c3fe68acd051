import Derived.Test.YtnncdpkmhpjmbaaZnAT
import Derived.Test.YtnncdpkmhpjmbaaZnAU
section
namespace Go.Proofs.Ytnncdpkmhpjmbaa
open Go.ChangeShapes Go.WideShapes Go.ChangeAt Go.RowKit
set_option maxRecDepth 20000

/-- As many weights of 1. -/
def onesI (many : Int) : List Int := if 0 ≤ many ∧ many ≤ 64 then List.replicate many.toNat 1 else []
def evnL (n many : Int) : List Int := shrL n (onesI many)
theorem shr_nil (n : Int) : shrL n [] = [] := by
  unfold shrL; split <;> rfl
theorem evn_no {n many : Int} (h : many < 0 ∨ 64 < many) : evnL n many = [] := by
  unfold evnL onesI
  rw [if_neg (by omega)]
  exact shr_nil n
theorem evn_nat {n : Int} {k : Nat} (h : k ≤ 64) : evnL n k = shrL n (List.replicate k 1) := by
  unfold evnL onesI
  rw [if_pos (by omega)]; rfl
theorem ones_all (k : Nat) : AllI (List.replicate k 1) := by
  intro z hz
  have := List.eq_of_mem_replicate hz
  omega
theorem ones_set {k m : Nat} (h : k < m) : (List.replicate k (1 : Int) ++ (List.replicate m 0).drop k).set k 1 = List.replicate (k + 1) 1 ++ (List.replicate m 0).drop (k + 1) := by
  rw [List.set_append_right _ _ (by simp), List.drop_eq_getElem_cons (by simpa using h), show k - (List.replicate k (1 : Int)).length = 0 by simp, List.set_cons_zero, List.replicate_succ']
  simp

def EvRel (m : Nat) (w : World) (i : Value) (wr : World) : Prop :=
  ∃ k : Nat, k ≤ m ∧ i = .int .i64 k ∧ RowI w.heap.size (.slice (some ⟨w.heap.size, 0, none⟩) m m) (List.replicate k 1 ++ (List.replicate m 0).drop k) wr ∧ Below w.heap.size w wr

theorem RowI.le {b b' : Nat} {v : Value} {xs : List Int} {w : World} (h : RowI b v xs w) (hb : b' ≤ b) : RowI b' v xs w := by
  refine ⟨h.1, ?_⟩
  rcases h.2 with h1 | ⟨g, cap, cur, hv, hg, hr⟩
  · exact Or.inl h1
  · exact Or.inr ⟨g, cap, cur, hv, by omega, hr⟩

set_option maxHeartbeats 800000 in
theorem iev_some (n : Int) (m : Nat) (w : World) (hm : m ≤ 64) :
    Calls Try.prog 62 #[.int .i64 n, .int .i64 m] w (OutPost (shrL n (List.replicate m 1)) w) := by
  obtain ⟨i0, hi, hz0, hz1, hz2⟩ := info_parts info_intS
  have hm0 : (0 : Int) ≤ (m : Int) := Int.natCast_nonneg _
  go_enter Try.func62, Try.ntmps62
  go_wp2_with (first
    | (at_make; refine wpList_make_full _ rfl _ _ 24 rfl w.heap.size 3 i0 (.int .i64 0) 1 Try.underlying24 hi hz0 hz1 .i64 .i64 _ _ m rfl rfl rfl rfl (by rw [hz2]; omega) (by unfold maxLen; omega) (Nat.le_refl _) ?_; intro w0 hown0 hgrow0))
  have hr0 : RowI w.heap.size (.slice (some ⟨w.heap.size, 0, none⟩) m m) (List.replicate 0 1 ++ (List.replicate m 0).drop 0) w0 := by
    unfold RowI
    have e1 : (madeCells (Value.int .i64 0).cells (m * 1)).toList = (List.replicate m (0 : Int)).map (Value.int .i64) := by
      rw [show (Value.int .i64 0).cells = #[Value.int .i64 0] from rfl, Nat.mul_one, toList_madeCells_one]; simp
    rw [e1] at hown0
    simpa using hown0
  have hb0 : Below w.heap.size w w0 := (Below.refl _ _).grown hgrow0 (Nat.le_refl _) (fun g hg => by cases hg)
  clear hown0 hgrow0
  have HR0 := Lib.hid hr0
  clear hr0
  go_wp2
  go_loopw [16] (EvRel m w) (fun i _ => m - (intOf i).toNat)
  case atStart => exact ⟨0, Nat.zero_le _, rfl, HR0.out, hb0⟩
  case round =>
    obtain ⟨k, hk, rfl, ho, hb⟩ := hrel
    have hll : (List.replicate k (1 : Int) ++ (List.replicate m (0 : Int)).drop k).length = m := by simp; omega
    by_cases hlt : k < m
    · have hlo : (0 : Int) ≤ (k : Int) := Int.natCast_nonneg _
      have hhi : (k : Int) < (m : Int) := by omega
      have ho' : wr.ownsRow w.heap.size 3 1 (.slice (some ⟨w.heap.size, 0, none⟩) m m) m ((List.replicate k (1 : Int) ++ (List.replicate m (0 : Int)).drop k).map (Value.int .i64)) := by
        have h := ho; unfold RowI at h; rwa [hll] at h
      have hst := ho'.stored k (.int .i64 1)
      rw [← List.map_set, ones_set hlt] at hst
      have c2 : ∃ x, wr.cell? ⟨w.heap.size, k, none⟩ = some x := by
        rw [ho'.cellAt k (by omega)]
        exact ⟨_, List.getElem?_eq_getElem (by simp; omega)⟩
      obtain ⟨x2, c2⟩ := c2
      have f2 := ho'.frozenAt k
      have HS := Lib.hid hst
      clear ho ho' hst hll HR0
      go_wp2
      go_roundw
      case rel =>
        refine ⟨k + 1, by omega, by go_num, ?_, hb.grown HS.out.2 hb.size (fun g hg => by simp at hg; omega)⟩
        unfold RowI
        rw [show (List.replicate (k + 1) (1 : Int) ++ (List.replicate m (0 : Int)).drop (k + 1)).length = m by simp; omega]
        exact HS.out.1
      case measure => simp [intOf]; omega
    · obtain rfl : k = m := by omega
      rw [List.drop_of_length_le (by simp), List.append_nil] at ho
      have HI := Lib.hid (ho.ints (by simp) (ones_all k))
      have HSZ := Lib.hid hb.size
      clear hll HR0 ho
      go_wp2_with (fail)
      refine (ish_any n _ k k (List.replicate k 1) wr HI.out (by omega)).mono ?_
      rintro e w5 ⟨v, rfl, hr, hb5⟩
      have HR := Lib.hid (hr.le HSZ.out)
      have HB := Lib.hid (hb.trans (hb5.mono HSZ.out))
      clear hr hb5 hb HI
      go_wp2
      go_ret
      exact ⟨v, rfl, HR.out, HB.out⟩
theorem iev_any (n many : Int) (w : World) :
    Calls Try.prog 62 #[.int .i64 n, .int .i64 many] w (OutPost (evnL n many) w) := by
  by_cases h : many < 0 ∨ 64 < many
  · rw [evn_no h]
    by_cases h0 : many < 0
    · clear h
      go_enter Try.func62, Try.ntmps62
      go_wp2
      go_ret
      exact ⟨_, rfl, World.ownsRow_nil w w.heap.size 3 1, Below.refl _ _⟩
    · have h1 : 64 < many := by omega
      clear h
      go_enter Try.func62, Try.ntmps62
      go_wp2
      go_ret
      exact ⟨_, rfl, World.ownsRow_nil w w.heap.size 3 1, Below.refl _ _⟩
  · obtain ⟨k, rfl⟩ := Int.eq_ofNat_of_zero_le (show 0 ≤ many by omega)
    have h2 := iev_some n k w (by omega)
    rwa [← evn_nat (by omega)] at h2

def EvsRel (m : Nat) (w : World) (o i : Value) (wr : World) : Prop :=
  ∃ k : Nat, k ≤ m ∧ i = .int .i64 k ∧ RowI w.heap.size o (List.replicate k 1) wr ∧ Below w.heap.size w wr

set_option maxHeartbeats 800000 in
theorem sev_some (n : Int) (m : Nat) (w : World) (hm : m ≤ 64) :
    Calls Try.prog 43 #[.int .i64 n, .int .i64 m] w (OutPost (shrL n (List.replicate m 1)) w) := by
  obtain ⟨i0, hi, hz0, hz1, hz2⟩ := info_parts info_intS
  have hm0 : (0 : Int) ≤ (m : Int) := Int.natCast_nonneg _
  go_enter Try.func43, Try.ntmps43
  go_wp2
  have hr0 : RowI w.heap.size (.slice (some ⟨w.heap.size, 0, none⟩) 0 0) [] (w.alloc (.cells #[] 3)) := World.ownsRow_lit w #[] 0 (Nat.le_refl _) (by unfold maxLen; omega) rfl
  have hb0 : Below w.heap.size w (w.alloc (.cells #[] 3)) := (Below.refl _ _).alloc (Nat.le_refl _) _
  have HR0 := Lib.hid hr0
  clear hr0
  generalize w.alloc (.cells #[] 3) = w0 at *
  go_loopw [5, 6] (EvsRel m w) (fun _ i _ => m - (intOf i).toNat)
  case atStart => exact ⟨0, Nat.zero_le _, rfl, HR0.out, hb0⟩
  case round =>
    obtain ⟨k, hk, rfl, ho, hb⟩ := hrel
    have HO := Lib.hid ho
    clear ho HR0
    by_cases hlt : k < m
    · go_wp2_with (at_builtin; refine wpList_append_own _ rfl _ _ 24 rfl w.heap.size 3 i0 (.int .i64 0) 1 8 Try.underlying24 hi hz0 hz1 hz2 rfl (by decide) _ _ _ rfl (World.ownsRow.alloc HO.out _) ⟨wr.heap.size, 0, none⟩ 1 1 [.int .i64 1] rfl rfl (one_cell _ _ _) ?c2 ?c3 ?c4 ?c5 ?_)
      case c2 => intro u hu; simp at hu; subst hu; rfl
      case c3 => rw [List.length_replicate]; unfold maxLen; omega
      case c4 => rw [List.length_replicate]; omega
      case c5 => have := hb.size; simp; omega
      intro v' w6 hown3 hgr _
      have hb6 : Below w.heap.size w w6 := (hb.alloc hb.size _).grown hgr (by have := hb.size; simp; omega) (fun g hg => (World.ownsRow.lt HO.out g hg).1)
      have HN := Lib.hid (show RowI w.heap.size v' (List.replicate (k + 1) 1) w6 by rw [List.replicate_succ']; unfold RowI; simpa using hown3)
      clear hown3 hgr HO
      go_wp2
      go_roundw
      case rel => exact ⟨k + 1, by omega, by go_num, HN.out, hb6⟩
      case measure => simp [intOf]; omega
    · obtain rfl : k = m := by omega
      obtain ⟨a1, c1, rfl, hi1⟩ := HO.out.slice (ones_all k)
      rw [List.length_replicate] at hi1 ⊢
      have HI := Lib.hid hi1
      have HSZ := Lib.hid hb.size
      clear HO hi1
      go_wp2_with (fail)
      refine (ssh_any n _ k c1 (List.replicate k 1) wr HI.out (by omega)).mono ?_
      rintro e w5 ⟨v, rfl, hr, hb5⟩
      have HR := Lib.hid (hr.le HSZ.out)
      have HB := Lib.hid (hb.trans (hb5.mono HSZ.out))
      clear hr hb5 hb HI
      go_wp2
      go_ret
      exact ⟨v, rfl, HR.out, HB.out⟩
theorem nil_ints (w : World) : Ints (w.alloc (.cells #[] 3)) (some ⟨w.heap.size, 0, none⟩) 0 [] := ⟨rfl, (fun z hz => by cases hz), Or.inl rfl⟩
theorem sev_no (n many : Int) (w : World) (h : many < 0 ∨ 64 < many) :
    Calls Try.prog 43 #[.int .i64 n, .int .i64 many] w (OutPost [] w) := by
  have hb0 : Below w.heap.size w (w.alloc (.cells #[] 3)) := (Below.refl _ _).alloc (Nat.le_refl _) _
  have HI := Lib.hid (nil_ints w)
  by_cases h0 : 0 < many
  · have h1 : 64 < many := by omega
    clear h
    go_enter Try.func43, Try.ntmps43
    go_wp2
    refine wp_loop_rounds 1 ?_
    rw [rounds_succ]
    go_wp2_with (fail)
    generalize w.alloc (.cells #[] 3) = w0 at *
    refine (ssh_any n _ 0 0 [] w0 HI.out (by omega)).mono ?_
    rw [shr_nil]
    rintro e w5 ⟨v, rfl, hr, hb5⟩
    have HR := Lib.hid (hr.le hb0.size)
    have HB := Lib.hid (hb0.trans (hb5.mono hb0.size))
    clear hr hb5 hb0
    go_wp2
    go_ret
    exact ⟨v, rfl, HR.out, HB.out⟩
  · clear h
    go_enter Try.func43, Try.ntmps43
    go_wp2
    refine wp_loop_rounds 1 ?_
    rw [rounds_succ]
    go_wp2_with (fail)
    generalize w.alloc (.cells #[] 3) = w0 at *
    refine (ssh_any n _ 0 0 [] w0 HI.out (by omega)).mono ?_
    rw [shr_nil]
    rintro e w5 ⟨v, rfl, hr, hb5⟩
    have HR := Lib.hid (hr.le hb0.size)
    have HB := Lib.hid (hb0.trans (hb5.mono hb0.size))
    clear hr hb5 hb0
    go_wp2
    go_ret
    exact ⟨v, rfl, HR.out, HB.out⟩
theorem sev_any (n many : Int) (w : World) :
    Calls Try.prog 43 #[.int .i64 n, .int .i64 many] w (OutPost (evnL n many) w) := by
  by_cases h : many < 0 ∨ 64 < many
  · rw [evn_no h]
    exact sev_no n many w h
  · obtain ⟨k, rfl⟩ := Int.eq_ofNat_of_zero_le (show 0 ≤ many by omega)
    have h2 := sev_some n k w (by omega)
    rwa [← evn_nat (by omega)] at h2
end Go.Proofs.Ytnncdpkmhpjmbaa
end

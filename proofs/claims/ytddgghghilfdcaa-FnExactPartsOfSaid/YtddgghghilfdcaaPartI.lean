/-
  The contract of impl.PartsOf: the fields of the line, in a row of the call's own, and whether the line is accepted. Conditions: a string's own length bound.
-/
import Derived.Test.YtddgghghilfdcaaPartS
import Derived.WalkMore
import Derived.Deep.LoopGhost
namespace Go.Proofs.Ytddgghghilfdcaa
open Go.ChangeShapes Go.WideShapes Go.ChangeAt Go.RowKit

/-- addPart: the field is added if it has a byte. -/
theorem add_any (base : Nat) (v : Value) (xs : List (List UInt8)) (c : List UInt8) (w : World) (hl : xs.length ≤ 1000) (hB : base ≤ w.heap.size) (h : OwnS base v (xs.map Nums.mk) w) :
    Calls Try.prog 32 #[v, .string (Nums.mk c)] w fun e w' => ∃ v', e = .returned v' ∧ OwnS base v' ((xs ++ Nums.flush c).map Nums.mk) w' ∧ Below base w w' ∧ w.heap.size ≤ w'.heap.size := by
  obtain ⟨i0, hi, hz0, hz1, hz2⟩ := info_parts info_str
  by_cases hc : c = []
  · subst hc
    have g1 : (Nums.mk []).toList = [] := by rw [ByteArray.toList_eq]; rfl
    go_enter Try.func32, Try.ntmps32
    go_wp2
    go_ret
    exact ⟨_, rfl, by simpa [Nums.flush] using h, Below.refl _ _, Nat.le_refl _⟩
  · have g1 : (Nums.mk c).toList.isEmpty = false := by
      rw [ByteArray.toList_eq, List.isEmpty_eq_false_iff]; simpa [Nums.mk] using hc
    have g2 : (!(Nums.mk c).toList.isEmpty) = true := by rw [g1]; rfl
    have HC := Lib.hid hc
    clear hc
    generalize hx : Nums.mk c = x at *
    have HX := Lib.hid hx
    clear hx
    go_enter Try.func32, Try.ntmps32
    go_wp2_with (at_builtin; refine wpList_append_own _ rfl _ _ 27 rfl base 9 i0 (.string ⟨#[]⟩) 1 16 Try.underlying27 hi hz0 hz1 hz2 rfl (by decide) _ _ _ rfl (h.alloc _) ⟨w.heap.size, 0, none⟩ 1 1 [.string x] rfl rfl (one_cell_of _ _ _) ?c2 ?c3 ?c4 ?c5 ?_)
    case c2 => intro u hu; simp at hu; subst hu; rfl
    case c3 => rw [List.length_map]; unfold maxLen; omega
    case c4 => rw [List.length_map]; omega
    case c5 => simp; omega
    intro v' w3 hown3 hgr _
    have hbw3 : Below base w w3 := ((Below.refl _ _).alloc hB _).grown hgr (by simp; omega) (fun g hg => (World.ownsRow.lt h g hg).1)
    have HS := Lib.hid (ownS_snoc hown3)
    clear hown3 hgr
    go_wp2
    go_ret
    refine ⟨_, rfl, ?_, hbw3, hbw3.size⟩
    have h2 := HS.out
    rw [← HX.out] at h2
    rw [Nums.flush, if_neg HC.out, List.map_append]
    exact h2

theorem add_at (base : Nat) (v : Value) (l : List UInt8) (x : ByteArray) (w : World) (hx : x = Nums.mk (Nums.st l).2) (hl : (Nums.st l).1.length ≤ 1000) (hB : base ≤ w.heap.size) (h : OwnS base v ((Nums.st l).1.map Nums.mk) w) :
    Calls Try.prog 32 #[v, .string x] w fun e w' => ∃ v', e = .returned v' ∧ OwnS base v' ((Nums.flds l).map Nums.mk) w' ∧ Below base w w' ∧ w.heap.size ≤ w'.heap.size :=
  hx ▸ add_any base v (Nums.st l).1 (Nums.st l).2 w hl hB h

def ScRel (s : ByteArray) (w : World) (v b i : Value) (wr : World) : Prop :=
  (Below w.heap.size w wr ∧ w.heap.size ≤ wr.heap.size) ∧
  (∃ k : Nat, k ≤ s.size ∧ i = .int .i64 k ∧ b = .int .i64 (Nums.bg (s.data.toList.take k)) ∧ (s.data.toList.take k).all Nums.okB = true ∧ OwnS w.heap.size v ((Nums.st (s.data.toList.take k)).1.map Nums.mk) wr)

/-- What scanParts hands back: the fields up to the first invalid byte, and its place. -/
def ScPost (s : ByteArray) (w : World) (e : Ending) (w' : World) : Prop :=
  ∃ (v : Value) (k : Nat), e = .returned (.tuple #[v, .int .i64 k]) ∧ k ≤ s.size ∧ OwnS w.heap.size v ((Nums.flds (s.data.toList.take k)).map Nums.mk) w' ∧ Below w.heap.size w w' ∧ w.heap.size ≤ w'.heap.size ∧ (s.data.toList.take k).all Nums.okB = true ∧ (k < s.size → Nums.paB s = false)

set_option maxHeartbeats 1000000 in
theorem scan_any (s : ByteArray) (w : World) (hs : s.size ≤ 600) :
    Calls Try.prog 28 #[.string s] w (ScPost s w) := by
  go_enter Try.func28, Try.ntmps28
  go_wp2
  go_step3
  go_wp2
  go_step3
  go_wp2
  go_loopw [4, 5, 6] (ScRel s w) (fun _ _ i _ => s.size - (intOf i).toNat)
  case atStart => exact ⟨⟨Below.refl _ _, Nat.le_refl _⟩, ⟨0, Nat.zero_le _, rfl, rfl, rfl, World.ownsRow_nil _ _ _ _⟩⟩
  case round =>
    obtain ⟨⟨hbw, hzw⟩, k, hk, rfl, rfl, ha, hown⟩ := hrel
    have HA := Lib.hid ha
    clear ha
    have hbg := Nums.bg_le (s.data.toList.take k)
    rw [Nums.take_len s hk] at hbg
    have hst := Nums.st1_len (s.data.toList.take k)
    rw [Nums.take_len s hk] at hst
    have HP := Lib.hid (Nums.piece s hk)
    by_cases hlt : k < s.size
    · have hc := s[k].toNat_lt
      by_cases hok : 32 ≤ (s[k].toNat : Int) ∧ (s[k].toNat : Int) ≤ 126
      · obtain ⟨hok1, hok2⟩ := hok
        have HK := Lib.hid (Nums.ok_next hlt HA.out ((Nums.okB_iff _).2 (by omega)))
        by_cases hsp : s[k].toNat = 32
        · have HSP := Lib.hid (Nums.bg_space (s.data.toList.take k) s[k] hsp)
          have t1 : ((s[k].toNat : Int) == 32) = true := by simp; omega
          have t2 : ((s[k].toNat : Int) != 32) = false := by simp; omega
          clear hsp
          go_wp2_with (fail)
          refine (add_at w.heap.size _ _ _ _ HP.out (by omega) hzw hown).mono ?_
          rintro e w1 ⟨v', rfl, hown1, hb1, hz1⟩
          have HO := Lib.hid hown1
          have hbw1 := hbw.trans hb1
          clear hown1
          go_wp2
          go_roundw
          case rel =>
            obtain ⟨q1, q2⟩ := HSP.out
            refine ⟨⟨hbw1, hbw1.size⟩, ⟨k + 1, by omega, by go_num, ?_, HK.out, ?_⟩⟩
            · rw [Nums.take_snoc s k hlt, q1, Nums.take_len s hk]; go_num
            · rw [Nums.take_snoc s k hlt, q2]; exact HO.out
          case measure => simp [intOf]; omega
        · have HSP := Lib.hid (Nums.bg_other (s.data.toList.take k) s[k] hsp)
          have t1 : ((s[k].toNat : Int) == 32) = false := by simp; omega
          have t2 : ((s[k].toNat : Int) != 32) = true := by simp; omega
          clear hsp
          go_wp2
          go_roundw
          case rel =>
            obtain ⟨q1, q2⟩ := HSP.out
            refine ⟨⟨hbw, hzw⟩, ⟨k + 1, by omega, by go_num, ?_, HK.out, ?_⟩⟩
            · rw [Nums.take_snoc s k hlt, q1]
            · rw [Nums.take_snoc s k hlt, q2]; exact hown
          case measure => simp [intOf]; omega
      · have HB := Lib.hid (Nums.paB_bad hlt (by rw [Bool.eq_false_iff]; intro h; have := (Nums.okB_iff _).1 h; omega))
        have hok' : (s[k].toNat : Int) < 32 ∨ 126 < (s[k].toNat : Int) := by omega
        clear hok
        rcases hok' with hok | hok
        all_goals
          go_wp2_with (fail)
          refine (add_at w.heap.size _ _ _ _ HP.out (by omega) hzw hown).mono ?_
          rintro e w1 ⟨v', rfl, hown1, hb1, hz1⟩
          have HO := Lib.hid hown1
          have hbw1 := hbw.trans hb1
          clear hown1
          go_wp2
          try rw [Exit.noGoto_ret]
          go_ret2
          exact ⟨v', k, rfl, hk, HO.out, hbw1, hbw1.size, HA.out, fun _ => HB.out⟩
    · go_wp2_with (fail)
      refine (add_at w.heap.size _ _ _ _ HP.out (by omega) hzw hown).mono ?_
      rintro e w1 ⟨v', rfl, hown1, hb1, hz1⟩
      have HO := Lib.hid hown1
      have hbw1 := hbw.trans hb1
      clear hown1
      go_wp2
      try rw [Exit.noGoto_ret]
      go_ret2
      exact ⟨v', k, rfl, hk, HO.out, hbw1, hbw1.size, HA.out, fun h => absurd h hlt⟩

theorem ownS_nil (base : Nat) (w : World) : OwnS base (.slice none 0 0) [] w := World.ownsRow_nil _ _ _ _

set_option maxHeartbeats 1000000 in
theorem ipa_any (s : ByteArray) (w : World) (hs : s.size ≤ maxLen) :
    Calls Try.prog 15 #[.string s] w (PaPost s w) := by
  unfold maxLen at hs
  by_cases hbig : 600 < s.size
  · have HB := Lib.hid (Nums.paB_long hbig)
    go_enter Try.func15, Try.ntmps15
    go_wp2
    go_ret2
    exact ⟨_, by rw [HB.out]; rfl, by rw [Nums.paL_false HB.out]; exact ownS_nil _ _, Below.refl _ _⟩
  · go_enter Try.func15, Try.ntmps15
    go_wp2_with (fail)
    refine (scan_any s w (by omega)).mono ?_
    rintro e w1 ⟨v, k, rfl, hk, hown, hb, hz, ha, hbad⟩
    have HBAD := Lib.hid hbad
    have HA := Lib.hid ha
    clear hbad ha
    obtain ⟨a, c, rfl⟩ := ownS_len hown
    have HOW := Lib.hid hown
    clear hown
    rw [List.length_map] at HOW ⊢
    by_cases hlt : k < s.size
    · have HB := Lib.hid (HBAD.out hlt)
      go_wp2
      go_ret2
      exact ⟨_, by rw [HB.out]; rfl, by rw [Nums.paL_false HB.out]; exact ownS_nil _ _, hb⟩
    · have HT := Lib.hid (Nums.take_all s (k := k) (by omega))
      by_cases hm : 12 < (Nums.flds (s.data.toList.take k)).length
      · have HB := Lib.hid (Nums.paB_many (s := s) (by rw [← HT.out]; exact hm))
        go_wp2
        go_ret2
        exact ⟨_, by rw [HB.out]; rfl, by rw [Nums.paL_false HB.out]; exact ownS_nil _ _, hb⟩
      · have HB := Lib.hid (Nums.paB_true (s := s) (by omega) (by rw [← HT.out]; exact HA.out) (by rw [← HT.out]; omega))
        go_wp2
        go_ret2
        exact ⟨_, by rw [HB.out]; rfl, by rw [show Nums.paL s = (Nums.flds (s.data.toList.take k)).map Nums.mk by rw [Nums.paL_true HB.out, HT.out]]; exact HOW.out, hb⟩
end Go.Proofs.Ytddgghghilfdcaa

/-
  The contract of spec.PartsOf: the fields of the line, in a row of the call's own, and whether the line is accepted. Conditions: a string's own length bound.
-/
import Derived.Test.YtddgghghilfdcaaRowS
import Derived.Test.YtddgghghilfdcaaPartM
namespace Go.Proofs.Ytddgghghilfdcaa
open Go.ChangeShapes Go.WideShapes Go.ChangeAt Go.RowKit

theorem info_str : (Try.prog.info? 9).map (fun i => (i.zero, i.size, i.bytes)) = some (some (.string ⟨#[]⟩), 1, 16) := by kernel_rfl

/-- v is a row of the call's own that holds the strings xs. -/
def OwnS (base : Nat) (v : Value) (xs : List ByteArray) (w : World) : Prop := w.ownsRow base 9 1 v xs.length (xs.map Value.string)

def PSRel (s : ByteArray) (w : World) (v b i : Value) (wr : World) : Prop :=
  (Below w.heap.size w wr ∧ w.heap.size ≤ wr.heap.size) ∧
  ((∃ k : Nat, k ≤ s.size ∧ i = .int .i64 k ∧ b = .int .i64 (Nums.bg (s.data.toList.take k)) ∧ (s.data.toList.take k).all Nums.okB = true ∧ OwnS w.heap.size v ((Nums.st (s.data.toList.take k)).1.map Nums.mk) wr) ∨
   (i = .int .i64 ((s.size : Int) + 1) ∧ s.data.toList.all Nums.okB = true ∧ OwnS w.heap.size v ((Nums.flds s.data.toList).map Nums.mk) wr))

theorem ownS_new (w : World) : OwnS w.heap.size (.slice (some ⟨w.heap.size, 0, none⟩) 0 0) [] (w.alloc (.cells #[] 9)) :=
  World.ownsRow_lit w #[] 0 (Nat.le_refl _) (by unfold maxLen; omega) rfl

theorem ownS_fresh {w wr : World} (h : w.heap.size ≤ wr.heap.size) : OwnS w.heap.size (.slice (some ⟨wr.heap.size, 0, none⟩) 0 0) [] (wr.alloc (.cells #[] 9)) :=
  World.ownsRow_lit wr #[] 0 h (by unfold maxLen; omega) rfl
theorem ownS_len {base : Nat} {v : Value} {xs : List ByteArray} {w : World} (h : OwnS base v xs w) : ∃ a c, v = .slice a xs.length c := by
  rcases h.2 with ⟨h1, h2⟩ | ⟨g, cap, cur, h1, _⟩
  · exact ⟨none, 0, by rw [h1, h2]⟩
  · exact ⟨_, _, h1⟩
theorem one_cell_of (wr : World) (x : Value) (e : TypeId) : ∀ j u, [x][j]? = some u → (wr.alloc (.cells #[x] e)).cell? ((⟨wr.heap.size, 0, none⟩ : Addr).add j) = some u := by
  intro j u hj
  cases j with
  | zero => simp at hj; subst hj; simp [Addr.add]
  | succ j => simp at hj
theorem ownS_snoc {base : Nat} {v : Value} {xs : List (List UInt8)} {x : ByteArray} {w : World} (h : w.ownsRow base 9 1 v (xs.length + 1) (xs.map (Value.string ∘ Nums.mk) ++ [Value.string x])) : OwnS base v (xs.map Nums.mk ++ [x]) w := by
  unfold OwnS; simpa using h

/-- The result's shape. -/
def PaPost (s : ByteArray) (w : World) (e : Ending) (w' : World) : Prop := ∃ v, e = .returned (.tuple #[v, .bool (Nums.paB s)]) ∧ OwnS w.heap.size v (Nums.paL s) w' ∧ Below w.heap.size w w'

set_option maxHeartbeats 1000000 in
theorem spa_any (s : ByteArray) (w : World) (hs : s.size ≤ maxLen) :
    Calls Try.prog 14 #[.string s] w (PaPost s w) := by
  unfold maxLen at hs
  obtain ⟨i0, hi, hz0, hz1, hz2⟩ := info_parts info_str
  by_cases hbig : 600 < s.size
  · have HB := Lib.hid (Nums.paB_long hbig)
    go_enter Try.func14, Try.ntmps14
    go_wp2
    go_ret2
    exact ⟨_, by rw [HB.out]; rfl, by rw [Nums.paL_false HB.out]; exact ownS_new w, (Below.refl _ _).alloc (Nat.le_refl _) _⟩
  · go_enter Try.func14, Try.ntmps14
    go_wp2
    go_loopw [4, 5, 6] (PSRel s w) (fun _ _ i _ => s.size + 1 - (intOf i).toNat)
    case atStart => exact ⟨⟨(Below.refl _ _).alloc (Nat.le_refl _) _, by simp⟩, Or.inl ⟨0, Nat.zero_le _, rfl, rfl, rfl, ownS_new w⟩⟩
    case round =>
      obtain ⟨⟨hbw, hzw⟩, ⟨k, hk, rfl, rfl, ha, hown⟩ | ⟨rfl, ha, hown⟩⟩ := hrel
      · have HA := Lib.hid ha
        clear ha
        have hbg := Nums.bg_le (s.data.toList.take k)
        rw [Nums.take_len s hk] at hbg
        have hst := Nums.st1_len (s.data.toList.take k)
        rw [Nums.take_len s hk] at hst
        have hbe := Nums.bg_empty (s.data.toList.take k)
        rw [Nums.take_len s hk] at hbe
        have HBE := Lib.hid hbe
        clear hbe
        by_cases hlt : k < s.size
        · have hc := s[k].toNat_lt
          by_cases hok : 32 ≤ (s[k].toNat : Int) ∧ (s[k].toNat : Int) ≤ 126
          · obtain ⟨hok1, hok2⟩ := hok
            have HK := Lib.hid (Nums.ok_next hlt HA.out ((Nums.okB_iff _).2 (by omega)))
            by_cases hsp : s[k].toNat = 32
            · have HSP := Lib.hid (Nums.bg_space (s.data.toList.take k) s[k] hsp)
              have t1 : ((s[k].toNat : Int) == 32) = true := by simp; omega
              have t2 : ((s[k].toNat : Int) != 32) = false := by simp; omega
              clear hsp
              by_cases hbk : Nums.bg (s.data.toList.take k) < k
              · go_wp2_with (at_builtin; refine wpList_append_own _ rfl _ _ 27 rfl w.heap.size 9 i0 (.string ⟨#[]⟩) 1 16 Try.underlying27 hi hz0 hz1 hz2 rfl (by decide) _ _ _ rfl (hown.alloc _) ⟨wr.heap.size, 0, none⟩ 1 1 [.string (s.extract (Nums.bg (s.data.toList.take k)) k)] rfl rfl (one_cell_of _ _ _) ?c2 ?c3 ?c4 ?c5 ?_)
                case c2 => intro u hu; simp at hu; subst hu; rfl
                case c3 => rw [List.length_map]; unfold maxLen; omega
                case c4 => rw [List.length_map]; omega
                case c5 => simp; omega
                intro v' w3 hown3 hgr _
                have hbw3 : Below w.heap.size w w3 := (hbw.alloc hzw _).grown hgr (by simp; omega) (fun g hg => (World.ownsRow.lt hown g hg).1)
                rw [Nums.piece s hk] at hown3
                have hs3 := ownS_snoc hown3
                rw [← Nums.flds_flush _ (HBE.out.1 hbk)] at hs3
                have HS3 := Lib.hid hs3
                clear hown3 hgr hs3
                go_wp2
                go_roundw
                case rel =>
                  obtain ⟨q1, q2⟩ := HSP.out
                  refine ⟨⟨hbw3, hbw3.size⟩, Or.inl ⟨k + 1, by omega, by go_num, ?_, HK.out, ?_⟩⟩
                  · rw [Nums.take_snoc s k hlt, q1, Nums.take_len s hk]; go_num
                  · rw [Nums.take_snoc s k hlt, q2]; exact HS3.out
                case measure => simp [intOf]; omega
              · go_wp2
                go_roundw
                case rel =>
                  obtain ⟨q1, q2⟩ := HSP.out
                  refine ⟨⟨hbw, hzw⟩, Or.inl ⟨k + 1, by omega, by go_num, ?_, HK.out, ?_⟩⟩
                  · rw [Nums.take_snoc s k hlt, q1, Nums.take_len s hk]; go_num
                  · rw [Nums.take_snoc s k hlt, q2, Nums.flds_none _ (by apply Classical.byContradiction; intro h; exact hbk (HBE.out.2 h))]; exact hown
                case measure => simp [intOf]; omega
            · have HSP := Lib.hid (Nums.bg_other (s.data.toList.take k) s[k] hsp)
              have t1 : ((s[k].toNat : Int) == 32) = false := by simp; omega
              have t2 : ((s[k].toNat : Int) != 32) = true := by simp; omega
              clear hsp
              go_wp2
              go_roundw
              case rel =>
                obtain ⟨q1, q2⟩ := HSP.out
                refine ⟨⟨hbw, hzw⟩, Or.inl ⟨k + 1, by omega, by go_num, ?_, HK.out, ?_⟩⟩
                · rw [Nums.take_snoc s k hlt, q1]
                · rw [Nums.take_snoc s k hlt, q2]; exact hown
              case measure => simp [intOf]; omega
          · have HB := Lib.hid (Nums.paB_bad hlt (by rw [Bool.eq_false_iff]; intro h; have := (Nums.okB_iff _).1 h; omega))
            have hok' : (s[k].toNat : Int) < 32 ∨ 126 < (s[k].toNat : Int) := by omega
            clear hok
            rcases hok' with hok | hok
            all_goals
              go_wp2
              go_ret2
              exact ⟨_, by rw [HB.out]; rfl, by rw [Nums.paL_false HB.out]; exact ownS_fresh hzw, hbw.alloc hzw _⟩
        · obtain rfl : k = s.size := by omega
          have HT := Lib.hid (Nums.take_all s (k := s.size) (Nat.le_refl _))
          by_cases hbk : Nums.bg (s.data.toList.take s.size) < s.size
          · go_wp2_with (at_builtin; refine wpList_append_own _ rfl _ _ 27 rfl w.heap.size 9 i0 (.string ⟨#[]⟩) 1 16 Try.underlying27 hi hz0 hz1 hz2 rfl (by decide) _ _ _ rfl (hown.alloc _) ⟨wr.heap.size, 0, none⟩ 1 1 [.string (s.extract (Nums.bg (s.data.toList.take s.size)) s.size)] rfl rfl (one_cell_of _ _ _) ?c2 ?c3 ?c4 ?c5 ?_)
            case c2 => intro u hu; simp at hu; subst hu; rfl
            case c3 => rw [List.length_map]; unfold maxLen; omega
            case c4 => rw [List.length_map]; omega
            case c5 => simp; omega
            intro v' w3 hown3 hgr _
            have hbw3 : Below w.heap.size w w3 := (hbw.alloc hzw _).grown hgr (by simp; omega) (fun g hg => (World.ownsRow.lt hown g hg).1)
            rw [Nums.piece s hk] at hown3
            have hs3 := ownS_snoc hown3
            rw [← Nums.flds_flush _ (HBE.out.1 hbk)] at hs3
            have HS3 := Lib.hid hs3
            clear hown3 hgr hs3
            go_wp2
            go_roundw
            case rel => exact ⟨⟨hbw3, hbw3.size⟩, Or.inr ⟨rfl, by rw [← HT.out]; exact HA.out, by rw [← HT.out]; exact HS3.out⟩⟩
            case measure => simp [intOf]
          · go_wp2
            go_roundw
            case rel => exact ⟨⟨hbw, hzw⟩, Or.inr ⟨rfl, by rw [← HT.out]; exact HA.out, by rw [← HT.out, Nums.flds_none _ (by apply Classical.byContradiction; intro h; exact hbk (HBE.out.2 h))]; exact hown⟩⟩
            case measure => simp [intOf]
      · obtain ⟨a, c, rfl⟩ := ownS_len hown
        have HA := Lib.hid ha
        clear ha
        rw [List.length_map] at hown ⊢
        by_cases hm : 12 < (Nums.flds s.data.toList).length
        · have HB := Lib.hid (Nums.paB_many hm)
          go_wp2
          go_ret2
          exact ⟨_, by rw [HB.out]; rfl, by rw [Nums.paL_false HB.out]; exact ownS_fresh hzw, hbw.alloc hzw _⟩
        · have HB := Lib.hid (Nums.paB_true (by omega) HA.out (by omega))
          go_wp2
          go_ret2
          exact ⟨_, by rw [HB.out]; rfl, by rw [Nums.paL_true HB.out]; exact hown, hbw⟩
end Go.Proofs.Ytddgghghilfdcaa

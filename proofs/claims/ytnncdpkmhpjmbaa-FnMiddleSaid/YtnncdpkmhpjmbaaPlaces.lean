/-
  The contract of spec.DrawPlaces: twelve numbers of 0 to 9999, in a row of the call's own. Conditions: at most 1048576 bytes.
-/
import Derived.Test.YtnncdpkmhpjmbaaNewC
namespace Go.Proofs.Ytnncdpkmhpjmbaa
open Go.ChangeShapes Go.WideShapes Go.ChangeAt Go.RowKit
set_option maxRecDepth 20000

def InP (xs : List Int) : Prop := ∀ x ∈ xs, 0 ≤ x ∧ x ≤ 9999
def PlRel (a : Option Addr) (len cap : Nat) (w : World) (v i : Value) (wr : World) : Prop :=
  ∃ (k : Nat) (xs : List Int), k ≤ 12 ∧ i = .int .i64 k ∧ xs.length = k ∧ InP xs ∧ OwnI (w.heap.size + 1) v xs wr ∧ Cur w.heap.size a len cap wr ∧ Below w.heap.size w wr ∧ w.heap.size + 1 ≤ wr.heap.size
def PlPost (w : World) (e : Ending) (w' : World) : Prop :=
  ∃ (v : Value) (xs : List Int), e = .returned v ∧ xs.length = 12 ∧ InP xs ∧ OwnI w.heap.size v xs w' ∧ Below w.heap.size w w'

set_option maxHeartbeats 600000 in
theorem places_any (a : Option Addr) (len cap : Nat) (w : World) (hl : len ≤ 1048576) (hc : Code w a len) :
    Calls Try.prog 34 #[.slice a len cap] w (PlPost w) := by
  obtain ⟨i0, hi, hz0, hz1, hz2⟩ := info_parts info_int
  have hap := fun h0 => code_lt hc h0
  go_enter Try.func34, Try.ntmps34
  go_wp2_with (fail)
  refine (new_any a len cap w hl hc).mono ?_
  rintro e w1 ⟨h, rfl, hcur, hb, hsz⟩
  have hsz' : w.heap.size + 1 ≤ w1.heap.size := by omega
  have hcu : Cur w.heap.size a len cap w1 := ⟨⟨0, h, Nat.zero_le _, hcur⟩, hc.below hb, hl, fun h0 b off e => by have := hap h0 b off e; omega⟩
  have HS := Lib.hid hsz
  clear hsz hcur
  go_wp2
  go_loopw [4, 5] (PlRel a len cap w) (fun _ i _ => 12 - (intOf i).toNat)
  case atStart =>
    exact ⟨0, [], by omega, rfl, rfl, (fun x hx => by cases hx), World.ownsRow_lit w1 #[] 0 hsz' (by unfold maxLen; omega) rfl,
      hcu.kept (by omega) (World.grownBy_alloc w1 _ none) (fun k hk => by cases hk), hb.alloc hb.size _, by simp; omega⟩
  case round =>
    obtain ⟨k, xs, hk, rfl, hlen, hin, hown, hcw, hbw, hzw⟩ := hrel
    have HL := Lib.hid hlen
    clear hlen
    by_cases hlt : k < 12
    · go_wp2_with (fail)
      refine (below_pos 10000 w.heap.size a len cap wr (by omega) (by omega) hcw).mono ?_
      rintro e w2 ⟨x, rfl, x0, x1, c2, g2, s2⟩
      have hown2 : OwnI (w.heap.size + 1) u4 xs w2 := World.ownsRow.kept hown g2 (by
        cases h0 : u4.ownBlock with
        | none => exact Or.inl rfl
        | some g =>
          refine Or.inr fun h => ?_
          have := (World.ownsRow.lt hown g h0).1
          simp at h; omega)
      have hbw2 : Below w.heap.size w w2 := hbw.grown g2 hbw.size (fun k hk => by simp at hk; omega)
      have hzw2 : w.heap.size + 1 ≤ w2.heap.size := by omega
      have hl12 : xs.length ≤ 12 := by have := HL.out; omega
      clear s2 hown hbw g2 hcw
      go_wp2_with (at_builtin; refine wpList_append_own _ rfl _ _ 24 rfl (w.heap.size + 1) 3 i0 (.int .i64 0) 1 8 Try.underlying24 hi hz0 hz1 hz2 rfl (by decide) _ _ _ rfl (hown2.alloc _) ⟨w2.heap.size, 0, none⟩ 1 1 [.int .i64 x] rfl rfl (one_int _ _ _) ?c2 ?c3 ?c4 ?c5 ?_)
      case c2 => intro u hu; simp at hu; subst hu; rfl
      case c3 => unfold maxLen; omega
      case c4 => omega
      case c5 => simp; omega
      intro v' w3 hown3 hgr _
      have hbw3 : Below w.heap.size w w3 := (hbw2.alloc hbw2.size _).grown hgr (by simp; omega) (fun g hg => by have := (World.ownsRow.lt hown2 g hg).1; omega)
      have hcu3 : Cur w.heap.size a len cap w3 := (c2.kept (by omega) (World.grownBy_alloc w2 _ none) (fun k hk => by cases hk)).kept (by simp; omega) hgr (fun g hg => by
        have := (World.ownsRow.lt hown2 g hg).1
        exact ⟨by omega, fun h0 b off e => by have := hap h0 b off e; omega⟩)
      have hzw3 : w.heap.size + 1 ≤ w3.heap.size := by have := hgr.size; simp at this; omega
      have HO := Lib.hid (show OwnI (w.heap.size + 1) v' (xs ++ [x]) w3 by unfold OwnI; simpa using hown3)
      clear hown3 hgr
      go_wp2
      go_roundw
      case rel =>
        refine ⟨k + 1, xs ++ [x], by omega, by go_num, by have := HL.out; simp; omega, ?_, HO.out, hcu3, hbw3, hzw3⟩
        intro y hy
        rcases List.mem_append.1 hy with h | h
        · exact hin y h
        · simp at h; omega
      case measure => simp [intOf]; omega
    · go_wp2
      go_ret
      exact ⟨_, xs, rfl, by have := HL.out; omega, hin, ownI_le hown (by omega), hbw⟩
end Go.Proofs.Ytnncdpkmhpjmbaa

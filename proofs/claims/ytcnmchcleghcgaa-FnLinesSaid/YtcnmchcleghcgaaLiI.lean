/-
  The items at the indexes of a line (LineItems of program and model): in a row of the call's own. Conditions: at most 1048576 items and indexes.
-/
import Derived.Test.YtcnmchcleghcgaaItO
import Derived.Test.YtcnmchcleghcgaaRng
import Derived.Test.YtcnmchcleghcgaaRwP
import Derived.Laws.OwnMore
import Derived.OwnWalk
namespace Go.Proofs.Ytcnmchcleghcgaa
open Go.ChangeShapes Go.WideShapes Go.ChangeAt Go.RowKit
set_option linter.unusedVariables false
set_option linter.unusedSimpArgs false
set_option maxRecDepth 8000

/-- The item at an index, if it exists. -/
def oneV (xs : List It) (z : Int) : List It := if rnB z 0 ((xs.length : Int) - 1) = true then [itD xs z.toNat] else []
/-- The items at the indexes of a line. -/
def liV (xs : List It) : List Int → List It
  | [] => []
  | z :: zs => oneV xs z ++ liV xs zs
theorem liV_app (xs : List It) : ∀ a b : List Int, liV xs (a ++ b) = liV xs a ++ liV xs b
  | [], b => rfl
  | z :: a, b => by show oneV xs z ++ liV xs (a ++ b) = _; rw [liV_app xs a b, ← List.append_assoc]; rfl
theorem liV_snoc (xs : List It) {zs : List Int} {k : Nat} (h : k < zs.length) : liV xs (zs.take (k + 1)) = liV xs (zs.take k) ++ oneV xs (zs.getD k 0) := by
  rw [take_snoc h, liV_app]
  show liV xs (zs.take k) ++ (oneV xs (zs.getD k 0) ++ []) = _
  rw [List.append_nil]
theorem oneV_in {xs : List It} {z : Int} (h : rnB z 0 ((xs.length : Int) - 1) = true) : oneV xs z = [itD xs z.toNat] := by unfold oneV; rw [if_pos h]
theorem oneV_out {xs : List It} {z : Int} (h : rnB z 0 ((xs.length : Int) - 1) = false) : oneV xs z = [] := by unfold oneV; rw [if_neg (by rw [h]; decide)]
theorem oneV_inr {xs : List It} {z : Int} (hx : ∀ x ∈ xs, x.inr) : ∀ x ∈ oneV xs z, x.inr := by
  intro x h
  unfold oneV at h
  split at h
  · rename_i h1
    have h2 := of_decide_eq_true h1
    rw [List.mem_singleton.1 h]
    exact hx _ (itD_mem (by omega))
  · cases h
theorem liV_inr {xs : List It} (hx : ∀ x ∈ xs, x.inr) : ∀ zs : List Int, ∀ x ∈ liV xs zs, x.inr
  | [], x, h => by cases h
  | z :: zs, x, h => by
    rcases List.mem_append.1 (show x ∈ oneV xs z ++ liV xs zs from h) with h | h
    · exact oneV_inr hx x h
    · exact liV_inr hx zs x h
theorem liV_len (xs : List It) : ∀ zs : List Int, (liV xs zs).length ≤ zs.length
  | [] => Nat.le_refl _
  | z :: zs => by
    have h1 := liV_len xs zs
    have h2 : (oneV xs z).length ≤ 1 := by unfold oneV; split <;> simp
    show (oneV xs z ++ liV xs zs).length ≤ zs.length + 1
    rw [List.length_append]
    omega
/-- What hands back a row of items of its own. -/
def OutPostT (xs : List It) (w : World) (e : Ending) (w' : World) : Prop := ∃ v, e = .returned v ∧ RowT w.heap.size v xs w' ∧ Below w.heap.size w w'
theorem it_newL {w : World} {x : It} {t : TypeId} (j : Nat) (u : Value) (hj : x.L[j]? = some u) : (w.alloc (.cells x.A t)).cell? ((⟨w.heap.size, 0, none⟩ : Addr).add j) = some u := by
  have h := range_block ((MapKept.heap_alloc w (.cells x.A t)).1) j u hj
  have e : ((⟨w.heap.size, 0, none⟩ : Addr).add j) = ⟨w.heap.size, 0 + j, none⟩ := by
    cases j <;> simp [Addr.add]
  rw [e]
  exact h
def LiRel (xs : List It) (zs : List Int) (w : World) (v i : Value) (wr : World) : Prop :=
  ∃ k : Nat, k ≤ zs.length ∧ i = .int .i64 k ∧ RowT w.heap.size v (liV xs (zs.take k)) wr ∧ Below w.heap.size w wr
theorem RowT.app {lo : Nat} {v' : Value} {xs : List It} {x : It} {w' : World} (h : w'.ownsRow lo 32 9 v' (xs.length + 1) (cellsI xs ++ x.L)) : RowT lo v' (xs ++ [x]) w' := by
  unfold RowT; rw [cellsI_push, List.length_append]; exact h
set_option maxHeartbeats 2000000 in
theorem ilit (a : Option Addr) (cap : Nat) (xs : List It) (b : Option Addr) (len cap2 : Nat) (zs : List Int) (w : World) (hz : Its w a xs) (hl : xs.length ≤ 1048576) (hs : Ints w b len zs) (hsl : len ≤ 1048576) :
    Calls Try.prog 49 #[.slice a xs.length cap, .slice b len cap2] w (OutPostT (liV xs zs) w) := by
  obtain ⟨i0, hi, hz0, hz1, hz2⟩ := info_parts info_item
  have hzl : zs.length = len := hs.1
  subst hzl
  have HZ := Lib.hid hz
  have HS := Lib.hid hs
  clear hz hs
  go_enter Try.func49, Try.ntmps49
  go_wp2
  go_loopw [5, 10] (LiRel xs zs w) (fun _ i _ => zs.length - (intOf i).toNat)
  case atStart => exact ⟨0, Nat.zero_le _, rfl, World.ownsRow_nil _ _ _ _, Below.refl _ _⟩
  case round =>
    obtain ⟨k, hk, rfl, hr, hb⟩ := hrel
    have HR := Lib.hid hr
    have HB := Lib.hid hb
    by_cases hlt : k < zs.length
    · obtain ⟨bs, os, rfl, hbs, hcs⟩ := (HS.out.below hb).look hlt
      have hlo : (0 : Int) ≤ (k : Int) := Int.natCast_nonneg _
      have hhi : (k : Int) < (zs.length : Int) := by omega
      have hsn := liV_snoc xs hlt
      have hzr := HS.out.2.1 (zs.getD k 0) (by simp [List.getD, hlt])
      obtain ⟨z, ez⟩ : ∃ q, q = zs.getD k 0 := ⟨_, rfl⟩
      rw [← ez] at hsn hcs hzr
      have HSN := Lib.hid hsn
      have HLT := Lib.hid (show (liV xs (zs.take k)).length ≤ k from by have := liV_len xs (zs.take k); rw [List.length_take] at this; omega)
      have hsz := hb.size
      clear ez hsn hr hb
      have kr := irng z 0 ((xs.length : Int) - 1) wr
      go_wp2_with (fail)
      refine kr.mono ?_
      rintro e w1 ⟨rfl, rfl⟩
      clear kr
      cases hin : rnB z 0 ((xs.length : Int) - 1) with
      | false =>
        have R1 := Lib.hid (show RowT w.heap.size u5 (liV xs (zs.take (k + 1))) w1 by rw [HSN.out, oneV_out hin, List.append_nil]; exact HR.out)
        clear hcs hin
        (try dsimp only)
        go_wp2
        go_roundw
        case rel => exact ⟨k + 1, by omega, by go_num, R1.out, HB.out⟩
        case measure => simp [intOf]; omega
      | true =>
        have hin2 := of_decide_eq_true hin
        obtain ⟨n, rfl⟩ := Int.eq_ofNat_of_zero_le hin2.1
        have hnl : n < xs.length := by omega
        obtain ⟨bi, oi, rfl, hbi, hrg⟩ := (HZ.out.below HB.out).look hnl
        have HSN2 := Lib.hid (show liV xs (zs.take (k + 1)) = liV xs (zs.take k) ++ [itD xs n] by rw [HSN.out, oneV_in hin]; rfl)
        clear HSN hin hin2
        generalize itD xs n = x at *
        have RG := Lib.hid hrg
        have hno : (0 : Int) ≤ (n : Int) := Int.natCast_nonneg _
        have hnh : (n : Int) < (xs.length : Int) := by omega
        clear hrg
        (try dsimp only)
        go_wp2_with (first
          | ((with_reducible apply list_load_it (x := x)); exact rfl; exact rfl; exact rfl; (with_reducible exact RG.out); simp only [World.size_alloc, Act.put, List.setIfInBounds_toArray, List.set_cons_succ, List.set_cons_zero])
          | (at_builtin; refine wpList_append_own _ rfl _ _ 24 rfl w.heap.size 32 i0 _ 9 64 Try.underlying24 hi hz0 hz1 hz2 rfl (by decide) _ _ _ rfl (World.ownsRow.alloc HR.out _) ⟨w1.heap.size, 0, none⟩ 1 1 x.L rfl rfl it_newL x.L_one ?c3 ?c4 ?c5 ?_))
        case c3 => unfold maxLen; have := HLT.out; omega
        case c4 => have := HLT.out; omega
        case c5 => simp; omega
        intro v' w3 hown3 hgr _
        have HRA : RowT w.heap.size u5 (liV xs (zs.take k)) (w1.alloc (.cells x.A 32)) := World.ownsRow.alloc HR.out _
        have R3 := Lib.hid (show RowT w.heap.size v' (liV xs (zs.take (k + 1))) w3 by rw [HSN2.out]; exact RowT.app hown3)
        have B3 := Lib.hid ((HB.out.alloc HB.out.size (.cells x.A 32)).grown hgr (by simp; omega) (fun g hg => (World.ownsRow.lt HRA g hg).1))
        clear hown3 hgr HRA hcs
        go_wp2
        go_roundw
        case rel => exact ⟨k + 1, by omega, by go_num, R3.out, B3.out⟩
        case measure => simp [intOf]; omega
    · obtain rfl : k = zs.length := by omega
      rw [List.take_of_length_le (Nat.le_refl _)] at hr
      have HR' := Lib.hid hr
      clear hr HR
      go_wp2
      go_ret
      exact ⟨_, rfl, HR'.out, hb⟩
set_option maxHeartbeats 2000000 in
theorem slit (a : Option Addr) (cap : Nat) (xs : List It) (b : Option Addr) (len cap2 : Nat) (zs : List Int) (w : World) (hz : Its w a xs) (hl : xs.length ≤ 1048576) (hs : Ints w b len zs) (hsl : len ≤ 1048576) :
    Calls Try.prog 42 #[.slice a xs.length cap, .slice b len cap2] w (OutPostT (liV xs zs) w) := by
  obtain ⟨i0, hi, hz0, hz1, hz2⟩ := info_parts info_item
  have hzl : zs.length = len := hs.1
  subst hzl
  have HZ := Lib.hid hz
  have HS := Lib.hid hs
  clear hz hs
  go_enter Try.func42, Try.ntmps42
  go_wp2
  have hr0 : RowT w.heap.size (.slice (some ⟨w.heap.size, 0, none⟩) 0 0) [] (w.alloc (.cells #[] 32)) := World.ownsRow_lit w #[] 0 (Nat.le_refl _) (by unfold maxLen; omega) rfl
  have hu0 : Below w.heap.size w (w.alloc (.cells #[] 32)) := (Below.refl _ _).alloc (Nat.le_refl _) _
  have HR0 := Lib.hid hr0
  have HU0 := Lib.hid hu0
  clear hr0 hu0
  generalize w.alloc (.cells #[] 32) = w0 at *
  go_loopw [5, 6] (LiRel xs zs w) (fun _ i _ => zs.length - (intOf i).toNat)
  case atStart => exact ⟨0, Nat.zero_le _, rfl, HR0.out, HU0.out⟩
  case round =>
    obtain ⟨k, hk, rfl, hr, hb⟩ := hrel
    have HR := Lib.hid hr
    have HB := Lib.hid hb
    by_cases hlt : k < zs.length
    · obtain ⟨bs, os, rfl, hbs, hcs⟩ := (HS.out.below hb).look hlt
      have hlo : (0 : Int) ≤ (k : Int) := Int.natCast_nonneg _
      have hhi : (k : Int) < (zs.length : Int) := by omega
      have hsn := liV_snoc xs hlt
      have hzr := HS.out.2.1 (zs.getD k 0) (by simp [List.getD, hlt])
      obtain ⟨z, ez⟩ : ∃ q, q = zs.getD k 0 := ⟨_, rfl⟩
      rw [← ez] at hsn hcs hzr
      have HSN := Lib.hid hsn
      have HLT := Lib.hid (show (liV xs (zs.take k)).length ≤ k from by have := liV_len xs (zs.take k); rw [List.length_take] at this; omega)
      have hsz := hb.size
      clear ez hsn hr hb
      have kr := srng z 0 ((xs.length : Int) - 1) wr
      go_wp2_with (fail)
      refine kr.mono ?_
      rintro e w1 ⟨rfl, rfl⟩
      clear kr
      cases hin : rnB z 0 ((xs.length : Int) - 1) with
      | false =>
        have R1 := Lib.hid (show RowT w.heap.size u5 (liV xs (zs.take (k + 1))) w1 by rw [HSN.out, oneV_out hin, List.append_nil]; exact HR.out)
        clear hcs hin
        (try dsimp only)
        go_wp2
        go_roundw
        case rel => exact ⟨k + 1, by omega, by go_num, R1.out, HB.out⟩
        case measure => simp [intOf]; omega
      | true =>
        have hin2 := of_decide_eq_true hin
        obtain ⟨n, rfl⟩ := Int.eq_ofNat_of_zero_le hin2.1
        have hnl : n < xs.length := by omega
        obtain ⟨bi, oi, rfl, hbi, hrg⟩ := (HZ.out.below HB.out).look hnl
        have HSN2 := Lib.hid (show liV xs (zs.take (k + 1)) = liV xs (zs.take k) ++ [itD xs n] by rw [HSN.out, oneV_in hin]; rfl)
        clear HSN hin hin2
        generalize itD xs n = x at *
        have RG := Lib.hid hrg
        have hno : (0 : Int) ≤ (n : Int) := Int.natCast_nonneg _
        have hnh : (n : Int) < (xs.length : Int) := by omega
        clear hrg
        (try dsimp only)
        go_wp2_with (first
          | ((with_reducible apply list_load_it (x := x)); exact rfl; exact rfl; exact rfl; (with_reducible exact RG.out); simp only [World.size_alloc, Act.put, List.setIfInBounds_toArray, List.set_cons_succ, List.set_cons_zero])
          | (at_builtin; refine wpList_append_own _ rfl _ _ 24 rfl w.heap.size 32 i0 _ 9 64 Try.underlying24 hi hz0 hz1 hz2 rfl (by decide) _ _ _ rfl (World.ownsRow.alloc HR.out _) ⟨w1.heap.size, 0, none⟩ 1 1 x.L rfl rfl it_newL x.L_one ?c3 ?c4 ?c5 ?_))
        case c3 => unfold maxLen; have := HLT.out; omega
        case c4 => have := HLT.out; omega
        case c5 => simp; omega
        intro v' w3 hown3 hgr _
        have HRA : RowT w.heap.size u5 (liV xs (zs.take k)) (w1.alloc (.cells x.A 32)) := World.ownsRow.alloc HR.out _
        have R3 := Lib.hid (show RowT w.heap.size v' (liV xs (zs.take (k + 1))) w3 by rw [HSN2.out]; exact RowT.app hown3)
        have B3 := Lib.hid ((HB.out.alloc HB.out.size (.cells x.A 32)).grown hgr (by simp; omega) (fun g hg => (World.ownsRow.lt HRA g hg).1))
        clear hown3 hgr HRA hcs
        go_wp2
        go_roundw
        case rel => exact ⟨k + 1, by omega, by go_num, R3.out, B3.out⟩
        case measure => simp [intOf]; omega
    · obtain rfl : k = zs.length := by omega
      rw [List.take_of_length_le (Nat.le_refl _)] at hr
      have HR' := Lib.hid hr
      clear hr HR
      go_wp2
      go_ret
      exact ⟨_, rfl, HR'.out, hb⟩
end Go.Proofs.Ytcnmchcleghcgaa

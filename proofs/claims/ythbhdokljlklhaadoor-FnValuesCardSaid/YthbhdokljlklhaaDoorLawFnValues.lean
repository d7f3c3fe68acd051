/-
  For every code of bytes, laws.FnValues returns true: a known value has a length and an unknown one none, 100 percent is the whole; the code reads as before (the tied card). Conditions: the library's listed tables start as the program's text lays them, which the card ties.
-/
import Derived.Test.YthbhdokljlklhaaDoorLaid
import Derived.Test.YthbhdokljlklhaaDoorTxt
import Derived.Test.YthbhdokljlklhaaDoorCodeIn
import Derived.Test.YthbhdokljlklhaaDoorDr5
import Derived.Test.YthbhdokljlklhaaDoorPlAt
import Derived.Test.YthbhdokljlklhaaDoorResI
import Derived.Test.YthbhdokljlklhaaDoorResS
import Derived.Deep.RegionHeld3
import Derived.Lib.QuietBelow
import Derived.BigQuiet
namespace Go.Proofs.YthbhdokljlklhaaDoor.fnValues
open Go.ChangeShapes Go.WideShapes Go.ChangeAt Go.RowKit
set_option linter.unusedVariables false

theorem sknownB (k n b : Int) (w : World) :
    Calls Tryd.prog 11 #[.agg #[.int .i64 k, .int .i64 n], .int .i64 b] w fun e w' => e = .returned (.bool (knV k b)) ∧ Below w.heap.size w w' :=
  (sknown k n b w).mono fun e w' h => ⟨h.1, by rw [h.2]; exact Go.Joins.below_alloc1 ..⟩
/-- What stands of the value's block while a region is walked. -/
def Sv (w : World) (g : Nat) (w' : World) : Prop := g < w'.heap.size ∧ Below w.heap.size w w'
theorem keepV {w w1 w2 : World} {g : Nat} {k n : Int} (h : w1.cell? ⟨g, 0, none⟩ = some (.int .i64 k) ∧ w1.cell? ⟨g, 1, none⟩ = some (.int .i64 n) ∧ Sv w g w1) (b : Below w1.heap.size w1 w2) :
    w2.cell? ⟨g, 0, none⟩ = some (.int .i64 k) ∧ w2.cell? ⟨g, 1, none⟩ = some (.int .i64 n) ∧ Sv w g w2 :=
  ⟨(b.cell h.2.2.1).trans h.1, (b.cell h.2.2.1).trans h.2.1, Nat.lt_of_lt_of_le h.2.2.1 b.size, h.2.2.2.trans (b.mono h.2.2.2.size)⟩
theorem drewV {w w1 : World} {g : Nat} {k n : Int} (h : w1.cell? ⟨g, 0, none⟩ = some (.int .i64 k) ∧ w1.cell? ⟨g, 1, none⟩ = some (.int .i64 n) ∧ Sv w g w1) :
    w1.drew.cell? ⟨g, 0, none⟩ = some (.int .i64 k) ∧ w1.drew.cell? ⟨g, 1, none⟩ = some (.int .i64 n) ∧ Sv w g w1.drew :=
  ⟨h.1, h.2.1, h.2.2.1, h.2.2.2.drew⟩

def orI (n m : Int) : Int := if n = -1 then m else n
theorem ior (n m : Int) (w : World) :
    Calls Tryd.prog 16 #[.int .i64 n, .int .i64 m] w fun e w' => e = .returned (.int .i64 (orI n m)) ∧ Below w.heap.size w w' := by
  by_cases h : n = -1
  · subst h
    go_enter Tryd.func16, Tryd.ntmps16
    go_wp2
    go_ret
    exact ⟨rfl, Below.refl _ _⟩
  · go_enter Tryd.func16, Tryd.ntmps16
    go_wp2
    go_ret
    exact ⟨congrArg (fun z => Ending.returned (.int .i64 z)) (if_neg h).symm, Below.refl _ _⟩
theorem sor (n m : Int) (w : World) :
    Calls Tryd.prog 17 #[.int .i64 n, .int .i64 m] w fun e w' => e = .returned (.int .i64 (orI n m)) ∧ Below w.heap.size w w' := by
  by_cases h : n = -1
  · subst h
    go_enter Tryd.func17, Tryd.ntmps17
    go_wp2
    go_ret
    exact ⟨rfl, Below.refl _ _⟩
  · go_enter Tryd.func17, Tryd.ntmps17
    go_wp2
    go_ret
    exact ⟨congrArg (fun z => Ending.returned (.int .i64 z)) (if_neg h).symm, Below.refl _ _⟩
theorem ln_pc {x c : Int} (h0 : 0 ≤ x) (h1 : x ≤ 9999) (c0 : 0 ≤ c) (c1 : c ≤ 100) : lnV 2 c x = x * c / 100 := by
  unfold lnV pcI fdI
  rw [if_neg (by omega), if_pos ⟨rfl, h0⟩, clI_id h0 (by omega), brI_id (by omega) (by omega), if_neg (by omega)]
theorem half_tdiv {x : Int} (h0 : 0 ≤ x) (h1 : x ≤ 9999) : x.tdiv 2 = x * 50 / 100 := by
  rw [Int.tdiv_eq_ediv_of_nonneg h0]; omega
theorem kn_false {k n b : Int} (h : knV k b = false) : lnV k n b = -1 ∧ szV k n b = -1 := by
  simp [knV] at h
  refine ⟨?_, by simp [szV, knV]; omega⟩
  unfold lnV
  rw [if_neg (by omega), if_neg (by omega)]
theorem kn_true {k n b : Int} (h : knV k b = true) : 0 ≤ szV k n b := by
  unfold szV; rw [if_pos h]; exact (clI_in _).1
theorem auto_text : ((txV 3 0).toList == [97, 117, 116, 111]) = true := by
  rw [show txV 3 0 = ⟨#[97, 117, 116, 111]⟩ by simp [txV, okV]]
  first | kernel_rfl | decide | (simp [go_sem]; done)
/-- The same with a drawn place's cell. -/
def Sp (w : World) (g gp : Nat) (w' : World) : Prop := g < w'.heap.size ∧ gp < w'.heap.size ∧ Below w.heap.size w w'
theorem keepP {w w1 w2 : World} {g gp : Nat} {k n x : Int} (h : w1.cell? ⟨g, 0, none⟩ = some (.int .i64 k) ∧ w1.cell? ⟨g, 1, none⟩ = some (.int .i64 n) ∧ w1.cell? ⟨gp, 0, none⟩ = some (.int .i64 x) ∧ Sp w g gp w1) (b : Below w1.heap.size w1 w2) :
    w2.cell? ⟨g, 0, none⟩ = some (.int .i64 k) ∧ w2.cell? ⟨g, 1, none⟩ = some (.int .i64 n) ∧ w2.cell? ⟨gp, 0, none⟩ = some (.int .i64 x) ∧ Sp w g gp w2 :=
  ⟨(b.cell h.2.2.2.1).trans h.1, (b.cell h.2.2.2.1).trans h.2.1, (b.cell h.2.2.2.2.1).trans h.2.2.1, Nat.lt_of_lt_of_le h.2.2.2.1 b.size, Nat.lt_of_lt_of_le h.2.2.2.2.1 b.size, h.2.2.2.2.2.trans (b.mono h.2.2.2.2.2.size)⟩
theorem drewP {w w1 : World} {g gp : Nat} {k n x : Int} (h : w1.cell? ⟨g, 0, none⟩ = some (.int .i64 k) ∧ w1.cell? ⟨g, 1, none⟩ = some (.int .i64 n) ∧ w1.cell? ⟨gp, 0, none⟩ = some (.int .i64 x) ∧ Sp w g gp w1) :
    w1.drew.cell? ⟨g, 0, none⟩ = some (.int .i64 k) ∧ w1.drew.cell? ⟨g, 1, none⟩ = some (.int .i64 n) ∧ w1.drew.cell? ⟨gp, 0, none⟩ = some (.int .i64 x) ∧ Sp w g gp w1.drew :=
  ⟨h.1, h.2.1, h.2.2.1, h.2.2.2.1, h.2.2.2.2.1, h.2.2.2.2.2.drew⟩
theorem tabP {w : World} (g gp : Nat) (k n x : Int) {w1 : World} (ht : Hid (Ito.Tab w)) (h : w1.cell? ⟨g, 0, none⟩ = some (.int .i64 k) ∧ w1.cell? ⟨g, 1, none⟩ = some (.int .i64 n) ∧ w1.cell? ⟨gp, 0, none⟩ = some (.int .i64 x) ∧ Sp w g gp w1) : Ito.Tab w1 :=
  ht.out.below h.2.2.2.2.2

set_option maxRecDepth 100000 in
set_option maxHeartbeats 2000000 in
theorem walk (a : Option Addr) (len cap : Nat) (w : World) (hl : len ≤ 1048576) (hc : Code w a len) (ht : Ito.Tab w) :
    Calls Tryd.prog 3 #[.slice a len cap] w fun e w' => e = .returned (.bool true) ∧ Below w.heap.size w w' := by
  have HT := Lib.hid ht
  clear ht
  go_enter Tryd.func3, Tryd.ntmps3
  go_wp2_with (first | (go_at_call 6; refine (draw_lengthof a len cap w hl hc).mono ?_; rintro e w1 ⟨k, n, b, rfl, hk, hn, hb, b1⟩) | (go_at_call 5; go_in))
  have B1 := Lib.hid (b1.alloc b1.size (.cells #[.int .i64 k, .int .i64 n] 25))
  have HC := Lib.hid hc
  have g0 : w.heap.size ≤ w1.heap.size := b1.size
  have hv1 := blk_new w1 (.cells #[.int .i64 k, .int .i64 n] 25)
  have HV1 := Lib.hid (show w1.heap.size < (w1.alloc (.cells #[.int .i64 k, .int .i64 n] 25)).heap.size by simp)
  clear b1 hc
  refine (ilengthof k n b _).mono ?_
  rintro e w2 ⟨rfl, b2⟩
  have hv2 := (b2.block _ HV1.out).trans hv1
  have B2 := Lib.hid (B1.out.trans (b2.mono B1.out.size))
  have HV2 := Lib.hid (Nat.lt_of_lt_of_le HV1.out b2.size)
  clear b2 hv1 HV1 B1
  generalize w1.heap.size = g at *
  have c0 := Go.Joins.cell_of_block hv2 0
  have c1 := Go.Joins.cell_of_block hv2 1
  simp at c0 c1
  clear hv2
  go_wp2_with (fail)
  refine (iknown k n b _).mono ?_
  rintro e w3 ⟨rfl, b3⟩
  have d0 : w3.cell? ⟨g, 0, none⟩ = some (.int .i64 k) := (b3.cell HV2.out).trans c0
  have d1 : w3.cell? ⟨g, 1, none⟩ = some (.int .i64 n) := (b3.cell HV2.out).trans c1
  have B3 := Lib.hid (B2.out.trans (b3.mono B2.out.size))
  have HV3 := Lib.hid (Nat.lt_of_lt_of_le HV2.out b3.size)
  clear b3 c0 c1 B2 HV2
  go_wp2_with (fail)
  refine (isizeof k n b _).mono ?_
  rintro e w4 ⟨rfl, b4⟩
  have c0 : w4.cell? ⟨g, 0, none⟩ = some (.int .i64 k) := (b4.cell HV3.out).trans d0
  have c1 : w4.cell? ⟨g, 1, none⟩ = some (.int .i64 n) := (b4.cell HV3.out).trans d1
  have B4 := Lib.hid (B3.out.trans (b4.mono B3.out.size))
  have HV4 := Lib.hid (Nat.lt_of_lt_of_le HV3.out b4.size)
  clear b4 d0 d1 B3 HV3
  have hS4 : w4.cell? ⟨g, 0, none⟩ = some (.int .i64 k) ∧ w4.cell? ⟨g, 1, none⟩ = some (.int .i64 n) ∧ Sv w g w4 := ⟨c0, c1, HV4.out, B4.out⟩
  clear c0 c1 HV4 B4
  go_wp2
  go_region_held3 (fun w' => w'.cell? ⟨g, 0, none⟩ = some (.int .i64 k) ∧ w'.cell? ⟨g, 1, none⟩ = some (.int .i64 n) ∧ Sv w g w')
    (first | exact keepV (by assumption) (by assumption) | exact drewV (by assumption))
    (first
      | (go_at_call 10; refine (slength k n b _).mono ?_; rintro e w' ⟨rfl, bb⟩)
      | (go_at_call 11; refine (sknownB k n b _).mono ?_; rintro e w' ⟨rfl, bb⟩)
      | (go_at_call 12; refine (ssizeof k n b _).mono ?_; rintro e w' ⟨rfl, bb⟩)
      | (go_at_call 13; refine (ivok k n _).mono ?_; rintro e w' ⟨rfl, bb⟩)
      | (go_at_call 14; refine (svok k n _).mono ?_; rintro e w' ⟨rfl, bb⟩)
      | fail)
  have hS5 : w'.cell? ⟨g, 0, none⟩ = some (.int .i64 k) ∧ w'.cell? ⟨g, 1, none⟩ = some (.int .i64 n) ∧ Sv w g w' := by assumption
  clear hS4
  go_wp2_with (fail)
  refine (places_any a len cap _ hl (HC.out.below hS5.2.2.2)).mono ?_
  rintro e w6 ⟨v, xs, rfl, hxl, hin, hown, b6⟩
  have hS6 := keepV hS5 b6
  obtain ⟨gp, cp, rfl, hg0, hg1, hcell⟩ := own_places hown (by omega)
  rw [hxl] at hcell ⊢
  have d0 := hcell 0 (by omega)
  have hx := place_in hin 0
  have hS7 : w6.cell? ⟨g, 0, none⟩ = some (.int .i64 k) ∧ w6.cell? ⟨g, 1, none⟩ = some (.int .i64 n) ∧ w6.cell? ⟨gp, 0, none⟩ = some (.int .i64 (xs.getD 0 0)) ∧ Sp w g gp w6 := ⟨hS6.1, hS6.2.1, d0, hS6.2.2.1, hg1, hS6.2.2.2⟩
  generalize xs.getD 0 0 = x at *
  have hx0 := hx.1
  have hx1 := hx.2
  clear hcell hown hin hS5 hS6 b6 hx hxl hg0 hg1
  have hidx : (0 : Int) ≤ 0 ∧ (0 : Int) < 12 := by omega
  go_wp2_with (fail)
  refine (ilengthof 2 100 x _).mono ?_
  rintro e w7 ⟨rfl, b7⟩
  rw [ln_pc hx0 hx1 (by omega) (by omega), show x * 100 / 100 = x by omega]
  have hS8 := keepP hS7 b7
  have d7 := hS8.2.2.1
  clear d0 hS7 b7
  go_wp2_with (fail)
  refine (ilengthof 2 50 x _).mono ?_
  rintro e w8 ⟨rfl, b8⟩
  rw [ln_pc hx0 hx1 (by omega) (by omega)]
  have hS9 := keepP hS8 b8
  clear d7 hS8 b8
  have HN := Lib.hid hn
  have ht2 : x.tdiv 2 = x * 50 / 100 := half_tdiv hx0 hx1
  have hr2 : IntKind.i64.wrap (x * 50 / 100) = x * 50 / 100 := IntWalk.i64_in _ (by omega)
  have HQ : ∀ d os, Ito.Tab (Sort.grow (redrawn w8 d) os) := fun d os => HT.out.below (hS9.2.2.2.2.2.trans ((below_regrown w8 d os).mono hS9.2.2.2.2.2.size))
  have q0 : ∀ d os, (Sort.grow (redrawn w8 d) os).cell? ⟨g, 0, none⟩ = some (.int .i64 k) := fun d os => cell_regrown hS9.1 d os
  have q1 : ∀ d os, (Sort.grow (redrawn w8 d) os).cell? ⟨g, 1, none⟩ = some (.int .i64 n) := fun d os => cell_regrown hS9.2.1 d os
  have q2 : ∀ d os, (Sort.grow (redrawn w8 d) os).cell? ⟨gp, 0, none⟩ = some (.int .i64 x) := fun d os => cell_regrown hS9.2.2.1 d os
  clear hn hb hk
  cases hkn : knV k b with
  | false =>
    obtain ⟨hln, hsz⟩ := @kn_false k n b hkn
    rw [hln, hsz]
    go_wp2
    refine wp_region_quiet_below (by kernel_rfl) (by kernel_rfl) ?_
    repeat (go_big_quiet_step (first
        | (go_at_call 16; exact Calls.regrown_of (ior _ 5 _))
        | (go_at_call 17; exact Calls.regrown_of (sor _ 5 _))
        | (go_at_call_of 18 k; exact Calls.regrown_of (itx k n _ HN.out.1 HN.out.2 (HQ _ _)))
        | (go_at_call 18; exact Calls.regrown_of (itx 3 0 _ (by omega) (by omega) (HQ _ _)))
        | (go_at_call 19; exact Calls.regrown_of (stx k n _ HN.out.1 HN.out.2))
        | fail))
    rw [auto_text]
    refine wpQuiet_nil ?_
    intro _ hw'
    obtain ⟨⟨dq, osq⟩, hw''⟩ := hw'
    subst hw''
    go_wp2
    go_ret
    exact ⟨rfl, hS9.2.2.2.2.2.trans ((below_regrown w8 dq osq).mono hS9.2.2.2.2.2.size)⟩
  | true =>
    have hsz := @kn_true k n b hkn
    have hdz : decide (0 ≤ szV k n b) = true := decide_eq_true hsz
    go_wp2
    refine wp_region_quiet_below (by kernel_rfl) (by kernel_rfl) ?_
    repeat (go_big_quiet_step (first
        | (go_at_call 16; exact Calls.regrown_of (ior _ 5 _))
        | (go_at_call 17; exact Calls.regrown_of (sor _ 5 _))
        | (go_at_call_of 18 k; exact Calls.regrown_of (itx k n _ HN.out.1 HN.out.2 (HQ _ _)))
        | (go_at_call 18; exact Calls.regrown_of (itx 3 0 _ (by omega) (by omega) (HQ _ _)))
        | (go_at_call 19; exact Calls.regrown_of (stx k n _ HN.out.1 HN.out.2))
        | fail))
    rw [auto_text]
    refine wpQuiet_nil ?_
    intro _ hw'
    obtain ⟨⟨dq, osq⟩, hw''⟩ := hw'
    subst hw''
    go_wp2
    go_ret
    exact ⟨rfl, hS9.2.2.2.2.2.trans ((below_regrown w8 dq osq).mono hS9.2.2.2.2.2.size)⟩

set_option maxRecDepth 100000 in
theorem walk_big (a : Option Addr) (len cap : Nat) (w : World) (hl : 1048576 < len) (hm : len ≤ 9223372036854775807) :
    Calls Tryd.prog 3 #[.slice a len cap] w fun e w' => e = .returned (.bool true) ∧ Below w.heap.size w w' := by
  go_enter Tryd.func3, Tryd.ntmps3
  go_wp2
  go_ret
  exact ⟨rfl, Below.refl _ _⟩

theorem laidOut : laidOutB Tryd.prog = true := by kernel_rfl

theorem contract (H : Type) (enc : TypeId × Value → H) (W : World) (base : Nat) (args : Array Value) (ds gs : List (DataW H)) (before : List MemPlace)
    (hval : ∀ (j : Nat) t v, Tryd.f3.params[j]? = some t → args[j]? = some v → Value.okWide Tryd.prog W .any base t v)
    (hW : DataW.Whole enc Tryd.prog Tryd.f3.params.toList Rows.fnValuesSpec.vars false W args.toList ds gs before) (hL : laidMetH Tryd.prog Rows.fnValuesRow.laid W) :
    Calls Tryd.prog 3 args W fun e W' => ∃ v, e = .returned v ∧ Rows.fnValuesSpec.post enc Tryd.prog Tryd.f3 false true false false W args v W' := by
  have hW' := hW
  obtain ⟨p, q, hA0, hV, rfl, hfz, hnd⟩ := hW
  have hA : DataW.TrodAll enc Tryd.prog W 0 (fun _ => true) true Tryd.f3.params.toList args.toList ds p := hA0
  rw [Tryd.params3] at hA hval
  obtain ⟨v0, vs0, d0, ds0, p0, q0, hargs, rfl, rfl, h0, r0⟩ := trodAll_cons hA
  obtain ⟨rfl, rfl, rfl⟩ := trodAll_nil r0
  obtain rfl : args = #[v0] := by cases args; simp_all
  obtain ⟨rfl, rfl⟩ := trodVars_none hV
  obtain ⟨a, len, cap, rfl⟩ := okWide_slice Tryd.underlying22 (hval 0 22 v0 rfl rfl)
  have lt0 : ∀ x ∈ p0, x.block < W.heap.size := by obtain ⟨m, hm⟩ := h0; exact DataW.trod_lt m _ _ _ hm
  obtain ⟨hc, hm⟩ := code_of h0
  have all : Calls Tryd.prog 3 #[.slice a len cap] W fun e w' => e = .returned (.bool true) ∧ Below W.heap.size W w' := by
    by_cases hl : len ≤ 1048576
    · exact walk a len cap W hl hc (Ito.tab_of_laid (by kernel_rfl) hL)
    · exact walk_big a len cap W (by omega) hm
  refine all.mono fun e W' ⟨he, bel⟩ => ?_
  subst he
  exact ⟨_, rfl, law_post (pa := _) (pv := []) hW' (trodAll_cons_mk (shut_bool Tryd.underlying4 _) trodAll_mk0) (trodAll_cons_mk (Below.trod laidOut (by kernel_rfl) (of_decide_eq_true (by kernel_rfl)) h0 bel lt0) trodAll_mk0) rfl rfl bel⟩


theorem laid_met (os : Os) : laidMet Tryd.prog Rows.fnValuesRow.laid ((laidWorld os).forCall (fun _ _ => 0) ⟨#[], #[.slice none 0 0], []⟩).memory :=
  laidMet_of_run' 8 (by kernel_rfl) (by kernel_rfl)
theorem reads (os : Os) {H : Type} (enc : TypeId × Value → H) : ∃ places, DataW.whole enc Tryd.prog ((laidWorld os).forCall (fun _ _ => 0) ⟨#[], #[.slice none 0 0], []⟩).memory Tryd.f3.params.toList Rows.fnValuesSpec.vars false #[Value.slice none 0 0].toList 8 = some ([.nil], [], places) :=
  ⟨[], by kernel_rfl⟩

set_option maxRecDepth 100000 in
theorem lifted (os : Os) (started : os.Started) (H : Type) (enc : TypeId × Value → H) (F : Stop.Interp) :
    ReturnsInHanded {} Tryd.checked os 3 .any ((OpenSpec.ofChange Rows.fnValuesSpec).preRow enc Tryd.prog Tryd.f3 Rows.fnValuesRow.domain false Rows.fnValuesRow.laid) (((OpenSpec.ofChange Rows.fnValuesSpec).at F).post enc Tryd.prog Tryd.f3 false true false false) := by
  obtain ⟨places, hx⟩ := reads os enc
  refine returnsInHanded_of_row (C := Tryd.checked) (s := OpenSpec.ofChange Rows.fnValuesSpec) own started (by kernel_rfl) Tryd.func3
    (witness_row_at (enc := enc) (C := Tryd.checked) false (laidWorld os) #[.slice none 0 0] rfl (by kernel_rfl) (by kernel_rfl) (by kernel_rfl)
      (OpenSpec.preRow_of_cond 8 hx (by kernel_rfl) (fun k hk => by cases hk) (by kernel_rfl) (laid_met os))) ?_
  intro W base args ds gs before hval hW _ _ _ hL _ _
  exact contract H enc W base args ds gs before hval hW hL

theorem said : Rows.FnValuesSaid :=
  OpenClaim.holds_of_cond 3 Tryd.f3 rfl rfl rfl rfl rfl rfl rfl ⟨rfl, rfl, rfl, rfl, rfl⟩ rfl rfl rfl rfl rfl (by kernel_rfl) Tryd.func3 (by kernel_rfl)
    (of_decide_eq_true (by kernel_rfl)) (by unfold Func.isWrapper; first | (rw [if_pos (by decide +kernel)]; kernel_rfl) | (rw [if_neg (by decide +kernel)]; exact ⟨rfl, rfl⟩))
    (fun os started H enc _ F => by rw [OpenClaim.pre_eq_preRow]; exact lifted os started H enc F)

theorem plain (f : FuncId) (fn : Func) (hf : Tryd.pinned.checked.prog.funcNamed Rows.fnValuesRow.func = some f) (hfn : Tryd.pinned.checked.prog.funcs[f]? = some fn) :
    true = Tryd.pinned.checked.prog.looks [] ∧ ∀ (j : Nat) t, fn.params[j]? = some t → Tryd.pinned.checked.prog.wantsStandIn t = false := by
  obtain rfl : f = 3 := Option.some.inj ((show Tryd.prog.funcNamed Rows.fnValuesRow.func = some 3 by kernel_rfl).symm.trans hf) |>.symm
  obtain rfl : fn = Tryd.f3 := (Option.some.inj (Tryd.func3.symm.trans hfn)).symm
  refine ⟨by kernel_rfl, fun j t ht => ?_⟩
  rw [Tryd.params3] at ht
  obtain rfl : t = 22 := by simpa using Array.mem_of_getElem? ht
  exact (show Tryd.prog.wantsStandIn 22 = false by kernel_rfl)

/-- The given card. -/
theorem card : Rows.FnValuesCardSaid :=
  Claim7.holds_tied_plain_at .later [] _ _ _ _ said (fun _ h => by cases h) (by kernel_rfl) (fun _ h => by cases h) fnValues_row_tie rfl ⟨rfl, rfl⟩ (by kernel_rfl) rfl plain (by kernel_rfl)
#print axioms card
end Go.Proofs.YthbhdokljlklhaaDoor.fnValues

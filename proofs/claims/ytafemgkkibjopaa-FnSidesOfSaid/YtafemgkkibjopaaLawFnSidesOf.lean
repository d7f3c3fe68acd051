/-
  For every code, laws.FnSidesOf returns true: the drawn sides, margins and edges are what the document's model says of them, and turned sides read the other way are the same. Conditions: none.
-/
import Derived.Test.YtafemgkkibjopaaCodeIn
import Derived.Test.YtafemgkkibjopaaDr6
import Derived.Test.YtafemgkkibjopaaAutI
import Derived.Test.YtafemgkkibjopaaMrgI
import Derived.Test.YtafemgkkibjopaaMrgS
import Derived.Test.YtafemgkkibjopaaSokI
import Derived.Test.YtafemgkkibjopaaSokS
import Derived.Test.YtafemgkkibjopaaEdgI
import Derived.Test.YtafemgkkibjopaaEdgS
import Derived.Test.YtafemgkkibjopaaFld
import Derived.Deep.RegionHeld3
import Derived.Lib.QuietBelow
import Derived.BigQuiet
import Derived.Below
import Derived.Laws.StructEq
namespace Go.Proofs.Ytafemgkkibjopaa.fnSidesOf
open Go.ChangeShapes Go.WideShapes Go.ChangeAt Go.RowKit
set_option linter.unusedVariables false

theorem eq_val (a b x y : Int) (w : World) :
    (binOp .eql 25 (.agg #[.int .i64 a, .int .i64 b]) (.agg #[.int .i64 x, .int .i64 y])).run Try.prog w = .ok (.bool (a == x && b == y)) w := by
  have u3 := Try.underlying3
  have a3 := Try.isAgg3
  have z3 := Try.sizeOf3
  have hS : Try.prog.underlying 25 = some (.struct (Try.prog.fieldsOf 25)) := by kernel_rfl
  have hp : Try.prog.stoodInHeld 25 = false := by kernel_rfl
  rw [run_eql_struct, show (10000 : Nat) = 9999 + 1 from rfl, run_equalIn_agg w 9999 25 _ _ hS hp]
  simp only [Program.fieldsOf, Try.underlying25]
  go_simp
  by_cases h1 : a = x <;> by_cases h2 : b = y <;> simp [h1, h2]
theorem neq_val (a b x y : Int) (w : World) :
    (binOp .neq 25 (.agg #[.int .i64 a, .int .i64 b]) (.agg #[.int .i64 x, .int .i64 y])).run Try.prog w = .ok (.bool (!(a == x && b == y))) w := by
  have u3 := Try.underlying3
  have a3 := Try.isAgg3
  have z3 := Try.sizeOf3
  have hS : Try.prog.underlying 25 = some (.struct (Try.prog.fieldsOf 25)) := by kernel_rfl
  have hp : Try.prog.stoodInHeld 25 = false := by kernel_rfl
  rw [run_neq_struct, show (10000 : Nat) = 9999 + 1 from rfl, run_equalIn_agg w 9999 25 _ _ hS hp]
  simp only [Program.fieldsOf, Try.underlying25]
  go_simp
  by_cases h1 : a = x <;> by_cases h2 : b = y <;> simp [h1, h2]
theorem guard_val (o : BinOp) (x y : Operand) (xs ys : Array Value) (w : World) : (eqGuard o 25 x y (.agg xs) (.agg ys)).run Try.prog w = .ok () w := run_eqGuard_agg w _ _ x y xs ys (by kernel_rfl)
theorem eq_same (k n : Int) (w : World) : (binOp .eql 25 (.agg #[.int .i64 k, .int .i64 n]) (.agg #[.int .i64 k, .int .i64 n])).run Try.prog w = .ok (.bool true) w := by
  rw [eq_val]; simp
theorem neq_same (k n : Int) (w : World) : (binOp .neq 25 (.agg #[.int .i64 k, .int .i64 n]) (.agg #[.int .i64 k, .int .i64 n])).run Try.prog w = .ok (.bool false) w := by
  rw [neq_val]; simp
theorem eqe_same (a b c d : Int) (w : World) : (binOp .eql 36 (.agg #[.int .i64 a, .int .i64 b, .int .i64 c, .int .i64 d]) (.agg #[.int .i64 a, .int .i64 b, .int .i64 c, .int .i64 d])).run Try.prog w = .ok (.bool true) w := by
  rw [eq_edges]; simp
theorem turnK (lk tk rk bk sk ek side : Int) (t : Bool) : sdK lk tk rk bk ek sk side (!t) = sdK lk tk rk bk sk ek side t := by cases t <;> rfl
theorem turnN (ln tn rn bn sk sn ek en side : Int) (t : Bool) : sdN ln tn rn bn ek en sk sn side (!t) = sdN ln tn rn bn sk sn ek en side t := by cases t <;> rfl

set_option maxRecDepth 100000 in
set_option maxHeartbeats 4000000 in
theorem walk (a : Option Addr) (len cap : Nat) (w : World) (hl : len ≤ 1048576) (hc : Code w a len) :
    Calls Try.prog 3 #[.slice a len cap] w fun e w' => e = .returned (.bool true) ∧ Below w.heap.size w w' := by
  go_enter Try.func3, Try.ntmps3
  go_wp2_with (first | (go_at_call 13; refine (draw_sideof a len cap w hl hc).mono ?_; rintro e w1 ⟨lk, ln, tk, tn, rk, rn, bk, bn, sk, sn, ek, en, side, t, rfl, hsd, b1⟩) | (go_at_call 12; go_in))
  have hs1 := hp_new w1 (.cells #[.int .i64 lk, .int .i64 ln, .int .i64 tk, .int .i64 tn, .int .i64 rk, .int .i64 rn, .int .i64 bk, .int .i64 bn, .int .i64 sk, .int .i64 sn, .int .i64 ek, .int .i64 en] 27)
  have B1 := b1.alloc b1.size (.cells #[.int .i64 lk, .int .i64 ln, .int .i64 tk, .int .i64 tn, .int .i64 rk, .int .i64 rn, .int .i64 bk, .int .i64 bn, .int .i64 sk, .int .i64 sn, .int .i64 ek, .int .i64 en] 27)
  have hgs : w.heap.size ≤ w1.heap.size := b1.size
  have HC := Lib.hid hc
  generalize w1.alloc (.cells #[.int .i64 lk, .int .i64 ln, .int .i64 tk, .int .i64 tn, .int .i64 rk, .int .i64 rn, .int .i64 bk, .int .i64 bn, .int .i64 sk, .int .i64 sn, .int .i64 ek, .int .i64 en] 27) = u1 at *
  generalize w1.heap.size = gs at *
  clear b1 hc
  have hI := isideof lk ln tk tn rk rn bk bn sk sn ek en side t
  have hS := ssideof lk ln tk tn rk rn bk bn sk sn ek en side t
  have hA := iaut lk ln tk tn rk rn bk bn sk sn ek en side t
  have hT := isideof lk ln tk tn rk rn bk bn ek en sk sn side (!t)
  rw [turnK, turnN] at hT
  generalize sdK lk tk rk bk sk ek side t = K at *
  generalize sdN ln tn rn bn sk sn ek en side t = N at *
  refine (hI _).mono ?_
  rintro e w2 ⟨rfl, b2⟩
  have hs2 := hp_below hs1 b2
  have B2 := B1.trans (b2.mono B1.size)
  have hlt2 := hp_lt hs2
  clear hs1 b2 B1 hI
  go_wp2_with (fail)
  have hs3 := hp_on hs2 (.cells #[.int .i64 K, .int .i64 N] 25)
  have hv3 := hp_new w2 (.cells #[.int .i64 K, .int .i64 N] 25)
  have B3 := B2.alloc B2.size (.cells #[.int .i64 K, .int .i64 N] 25)
  have hgv : gs < w2.heap.size := hlt2
  clear hs2 B2 hlt2
  generalize w2.alloc (.cells #[.int .i64 K, .int .i64 N] 25) = w3 at *
  generalize w2.heap.size = gv at *
  have q := neq_same K N
  have q' := guard_val

  have k0 := fun d os => hp_cell hs3 d os 0 _ rfl
  have k1 := fun d os => hp_cell hs3 d os 1 _ rfl
  have k2 := fun d os => hp_cell hs3 d os 2 _ rfl
  have k3 := fun d os => hp_cell hs3 d os 3 _ rfl
  have k4 := fun d os => hp_cell hs3 d os 4 _ rfl
  have k5 := fun d os => hp_cell hs3 d os 5 _ rfl
  have k6 := fun d os => hp_cell hs3 d os 6 _ rfl
  have k7 := fun d os => hp_cell hs3 d os 7 _ rfl
  have k8 := fun d os => hp_cell hs3 d os 8 _ rfl
  have k9 := fun d os => hp_cell hs3 d os 9 _ rfl
  have k10 := fun d os => hp_cell hs3 d os 10 _ rfl
  have k11 := fun d os => hp_cell hs3 d os 11 _ rfl
  have l0 := fun d os => hp_cell hv3 d os 0 _ rfl
  have l1 := fun d os => hp_cell hv3 d os 1 _ rfl
  refine wp_region_quiet_below (by kernel_rfl) (by kernel_rfl) ?_
  repeat (go_big_quiet_step (first
    | (go_at_call 15; exact Calls.regrown_of (hS _))
    | (go_at_call 16; exact Calls.regrown_of (hA _))
    | (go_at_call 17; exact Calls.regrown_of (isok lk ln tk tn rk rn bk bn sk sn ek en _))
    | (go_at_call 18; exact Calls.regrown_of (ssok lk ln tk tn rk rn bk bn sk sn ek en _))
    | fail))
  refine wpQuiet_nil ?_
  intro _ hw'
  obtain ⟨⟨dq, osq⟩, hw''⟩ := hw'
  subst hw''
  have bq := below_regrown w3 dq osq
  have hs4 := hp_below hs3 bq
  have hv4 := hp_below hv3 bq
  have B4 := B3.trans (bq.mono B3.size)
  clear bq hs3 hv3 B3 hS hA k0 k1 k2 k3 k4 k5 k6 k7 k8 k9 k10 k11 l0 l1 q
  generalize Sort.grow (redrawn w3 dq) osq = w4 at *

  have c0 := Go.Joins.cell_of_block hs4 0
  have c1 := Go.Joins.cell_of_block hs4 1
  have c2 := Go.Joins.cell_of_block hs4 2
  have c3 := Go.Joins.cell_of_block hs4 3
  have c4 := Go.Joins.cell_of_block hs4 4
  have c5 := Go.Joins.cell_of_block hs4 5
  have c6 := Go.Joins.cell_of_block hs4 6
  have c7 := Go.Joins.cell_of_block hs4 7
  have c8 := Go.Joins.cell_of_block hs4 8
  have c9 := Go.Joins.cell_of_block hs4 9
  have c10 := Go.Joins.cell_of_block hs4 10
  have c11 := Go.Joins.cell_of_block hs4 11
  simp at c0 c1 c2 c3 c4 c5 c6 c7 c8 c9 c10 c11
  have hlt4 := hp_lt hs4
  have hn1 : gs ≠ w4.heap.size := by omega
  have hn2 := hn1.symm
  go_wp2_with (fail)
  clear c0 c1 c2 c3 c4 c5 c6 c7 c8 c9 c10 c11
  have hv5 := hp_on hv4 (.cells #[.int .i64 lk, .int .i64 ln, .int .i64 tk, .int .i64 tn, .int .i64 rk, .int .i64 rn, .int .i64 bk, .int .i64 bn, .int .i64 ek, .int .i64 en, .int .i64 sk, .int .i64 sn] 27)
  have ht5 := hp_new w4 (.cells #[.int .i64 lk, .int .i64 ln, .int .i64 tk, .int .i64 tn, .int .i64 rk, .int .i64 rn, .int .i64 bk, .int .i64 bn, .int .i64 ek, .int .i64 en, .int .i64 sk, .int .i64 sn] 27)
  have B5 := B4.alloc B4.size (.cells #[.int .i64 lk, .int .i64 ln, .int .i64 tk, .int .i64 tn, .int .i64 rk, .int .i64 rn, .int .i64 bk, .int .i64 bn, .int .i64 ek, .int .i64 en, .int .i64 sk, .int .i64 sn] 27)
  have hgv4 := hp_lt hv4
  clear hs4 hv4 B4 hn1 hn2 hlt4
  generalize w4.alloc (.cells #[.int .i64 lk, .int .i64 ln, .int .i64 tk, .int .i64 tn, .int .i64 rk, .int .i64 rn, .int .i64 bk, .int .i64 bn, .int .i64 ek, .int .i64 en, .int .i64 sk, .int .i64 sn] 27) = w5 at *
  generalize w4.heap.size = gt at *
  refine (draw_marginof a len cap _ hl (HC.out.below B5)).mono ?_
  rintro e w6 ⟨m0, m1, m2, m3, m4, m5, m6, m7, m8, m9, m10, m11, mside, mt, mb, rfl, hms, b6⟩
  have hv6 := hp_below hv5 b6
  have ht6 := hp_below ht5 b6
  have B6 := B5.trans (b6.mono B5.size)
  clear hv5 ht5 B5 b6
  go_wp2_with (fail)
  have hv7 := hp_on hv6 (.cells #[.int .i64 m0, .int .i64 m1, .int .i64 m2, .int .i64 m3, .int .i64 m4, .int .i64 m5, .int .i64 m6, .int .i64 m7, .int .i64 m8, .int .i64 m9, .int .i64 m10, .int .i64 m11] 27)
  have ht7 := hp_on ht6 (.cells #[.int .i64 m0, .int .i64 m1, .int .i64 m2, .int .i64 m3, .int .i64 m4, .int .i64 m5, .int .i64 m6, .int .i64 m7, .int .i64 m8, .int .i64 m9, .int .i64 m10, .int .i64 m11] 27)
  have hm7 := hp_new w6 (.cells #[.int .i64 m0, .int .i64 m1, .int .i64 m2, .int .i64 m3, .int .i64 m4, .int .i64 m5, .int .i64 m6, .int .i64 m7, .int .i64 m8, .int .i64 m9, .int .i64 m10, .int .i64 m11] 27)
  have B7 := B6.alloc B6.size (.cells #[.int .i64 m0, .int .i64 m1, .int .i64 m2, .int .i64 m3, .int .i64 m4, .int .i64 m5, .int .i64 m6, .int .i64 m7, .int .i64 m8, .int .i64 m9, .int .i64 m10, .int .i64 m11] 27)
  clear hv6 ht6 B6
  generalize w6.alloc (.cells #[.int .i64 m0, .int .i64 m1, .int .i64 m2, .int .i64 m3, .int .i64 m4, .int .i64 m5, .int .i64 m6, .int .i64 m7, .int .i64 m8, .int .i64 m9, .int .i64 m10, .int .i64 m11] 27) = w7 at *
  generalize w6.heap.size = gm at *
  refine (draw_wideof a len cap _ hl (HC.out.below B7)).mono ?_
  rintro e w8 ⟨p, q, r, s, rfl, b8⟩
  have hv8 := hp_below hv7 b8
  have ht8 := hp_below ht7 b8
  have hm8 := hp_below hm7 b8
  have B8 := B7.trans (b8.mono B7.size)
  clear hv7 ht7 hm7 B7 b8
  go_wp2_with (fail)
  have hv9 := hp_on hv8 (.cells #[.int .i64 p, .int .i64 q, .int .i64 r, .int .i64 s] 36)
  have ht9 := hp_on ht8 (.cells #[.int .i64 p, .int .i64 q, .int .i64 r, .int .i64 s] 36)
  have hm9 := hp_on hm8 (.cells #[.int .i64 p, .int .i64 q, .int .i64 r, .int .i64 s] 36)
  have he9 := hp_new w8 (.cells #[.int .i64 p, .int .i64 q, .int .i64 r, .int .i64 s] 36)
  have B9 := B8.alloc B8.size (.cells #[.int .i64 p, .int .i64 q, .int .i64 r, .int .i64 s] 36)
  clear hv8 ht8 hm8 B8
  generalize w8.alloc (.cells #[.int .i64 p, .int .i64 q, .int .i64 r, .int .i64 s] 36) = w9 at *
  generalize w8.heap.size = ge at *

  have x0 := fun d os => hp_cell ht9 d os 0 _ rfl
  have y0 := fun d os => hp_cell hm9 d os 0 _ rfl
  have x1 := fun d os => hp_cell ht9 d os 1 _ rfl
  have y1 := fun d os => hp_cell hm9 d os 1 _ rfl
  have x2 := fun d os => hp_cell ht9 d os 2 _ rfl
  have y2 := fun d os => hp_cell hm9 d os 2 _ rfl
  have x3 := fun d os => hp_cell ht9 d os 3 _ rfl
  have y3 := fun d os => hp_cell hm9 d os 3 _ rfl
  have x4 := fun d os => hp_cell ht9 d os 4 _ rfl
  have y4 := fun d os => hp_cell hm9 d os 4 _ rfl
  have x5 := fun d os => hp_cell ht9 d os 5 _ rfl
  have y5 := fun d os => hp_cell hm9 d os 5 _ rfl
  have x6 := fun d os => hp_cell ht9 d os 6 _ rfl
  have y6 := fun d os => hp_cell hm9 d os 6 _ rfl
  have x7 := fun d os => hp_cell ht9 d os 7 _ rfl
  have y7 := fun d os => hp_cell hm9 d os 7 _ rfl
  have x8 := fun d os => hp_cell ht9 d os 8 _ rfl
  have y8 := fun d os => hp_cell hm9 d os 8 _ rfl
  have x9 := fun d os => hp_cell ht9 d os 9 _ rfl
  have y9 := fun d os => hp_cell hm9 d os 9 _ rfl
  have x10 := fun d os => hp_cell ht9 d os 10 _ rfl
  have y10 := fun d os => hp_cell hm9 d os 10 _ rfl
  have x11 := fun d os => hp_cell ht9 d os 11 _ rfl
  have y11 := fun d os => hp_cell hm9 d os 11 _ rfl
  have z0 := fun d os => hp_cell he9 d os 0 _ rfl
  have z1 := fun d os => hp_cell he9 d os 1 _ rfl
  have z2 := fun d os => hp_cell he9 d os 2 _ rfl
  have z3 := fun d os => hp_cell he9 d os 3 _ rfl
  have l0 := fun d os => hp_cell hv9 d os 0 _ rfl
  have l1 := fun d os => hp_cell hv9 d os 1 _ rfl
  have hMI := imrg m0 m1 m2 m3 m4 m5 m6 m7 m8 m9 m10 m11 mside mt mb
  have hMS := smrg m0 m1 m2 m3 m4 m5 m6 m7 m8 m9 m10 m11 mside mt mb
  generalize mgV (sdK m0 m2 m4 m6 m8 m10 mside mt) (sdN m1 m3 m5 m7 m8 m9 m10 m11 mside mt) mb = MM at *
  have q1 := eq_same K N
  have q2 := eqe_same (smI p 0) (smI q 0) (smI r 0) (smI s 0)
  have q3 := guard_edges
  have q5 : smI 2 3 = 5 := by decide
  refine wp_region_quiet_below (by kernel_rfl) (by kernel_rfl) ?_
  repeat (go_big_quiet_step (first
    | (go_at_call 14; exact Calls.regrown_of (hT _))
    | (go_at_call 21; exact Calls.regrown_of (hMI _))
    | (go_at_call 22; exact Calls.regrown_of (hMS _))
    | (go_at_call_of 23 p; exact Calls.regrown_of (iwideof p q r s _))
    | (go_at_call 23; exact Calls.regrown_of (iwideof 2 0 3 0 _))
    | (go_at_call 24; exact Calls.regrown_of (swideof p q r s _))
    | (go_at_call 25; exact Calls.regrown_of (ihighof p q r s _))
    | (go_at_call 26; exact Calls.regrown_of (shighof p q r s _))
    | (go_at_call 27; exact Calls.regrown_of (iedgesok p q r s _))
    | (go_at_call 28; exact Calls.regrown_of (sedgesok p q r s _))
    | (go_at_call 29; exact Calls.regrown_of (iedgesin p q r s 0 0 0 0 _))
    | (go_at_call 30; exact Calls.regrown_of (sedgesin p q r s 0 0 0 0 _))
    | fail))
  refine wpQuiet_nil ?_
  intro _ hw'
  obtain ⟨⟨dq, osq⟩, hw''⟩ := hw'
  subst hw''
  go_wp2
  go_ret
  exact ⟨rfl, B9.trans ((below_regrown w9 dq osq).mono B9.size)⟩


set_option maxRecDepth 100000 in
theorem walk_big (a : Option Addr) (len cap : Nat) (w : World) (hl : 1048576 < len) (hm : len ≤ 9223372036854775807) :
    Calls Try.prog 3 #[.slice a len cap] w fun e w' => e = .returned (.bool true) ∧ Below w.heap.size w w' := by
  go_enter Try.func3, Try.ntmps3
  go_wp2
  go_ret
  exact ⟨rfl, Below.refl _ _⟩

theorem laidOut : laidOutB Try.prog = true := by kernel_rfl

theorem contract (H : Type) (enc : TypeId × Value → H) (W : World) (base : Nat) (args : Array Value) (ds gs : List (DataW H)) (before : List MemPlace)
    (hval : ∀ (j : Nat) t v, Try.f3.params[j]? = some t → args[j]? = some v → Value.okWide Try.prog W .any base t v)
    (hW : DataW.Whole enc Try.prog Try.f3.params.toList Rows.fnSidesOfSpec.vars false W args.toList ds gs before) :
    Calls Try.prog 3 args W fun e W' => ∃ v, e = .returned v ∧ Rows.fnSidesOfSpec.post enc Try.prog Try.f3 false true false false W args v W' := by
  have hW' := hW
  obtain ⟨p, q, hA0, hV, rfl, hfz, hnd⟩ := hW
  have hA : DataW.TrodAll enc Try.prog W 0 (fun _ => true) true Try.f3.params.toList args.toList ds p := hA0
  rw [Try.params3] at hA hval
  obtain ⟨v0, vs0, d0, ds0, p0, q0, hargs, rfl, rfl, h0, r0⟩ := trodAll_cons hA
  obtain ⟨rfl, rfl, rfl⟩ := trodAll_nil r0
  obtain rfl : args = #[v0] := by cases args; simp_all
  obtain ⟨rfl, rfl⟩ := trodVars_none hV
  obtain ⟨a, len, cap, rfl⟩ := okWide_slice Try.underlying22 (hval 0 22 v0 rfl rfl)
  have lt0 : ∀ x ∈ p0, x.block < W.heap.size := by obtain ⟨m, hm⟩ := h0; exact DataW.trod_lt m _ _ _ hm
  obtain ⟨hc, hm⟩ := code_of h0
  have all : Calls Try.prog 3 #[.slice a len cap] W fun e w' => e = .returned (.bool true) ∧ Below W.heap.size W w' := by
    by_cases hl : len ≤ 1048576
    · exact walk a len cap W hl hc
    · exact walk_big a len cap W (by omega) hm
  refine all.mono fun e W' ⟨he, bel⟩ => ?_
  subst he
  exact ⟨_, rfl, law_post (pa := _) (pv := []) hW' (trodAll_cons_mk (shut_bool Try.underlying4 _) trodAll_mk0) (trodAll_cons_mk (Below.trod laidOut (by kernel_rfl) (of_decide_eq_true (by kernel_rfl)) h0 bel lt0) trodAll_mk0) rfl rfl bel⟩


set_option maxRecDepth 100000 in
theorem lifted (os : Os) (started : os.Started) (H : Type) (enc : TypeId × Value → H) :
    ReturnsInHanded {} Try.checked os 3 .any (Rows.fnSidesOfSpec.pre6 enc Try.prog Try.f3 Rows.fnSidesOfRow.domain false) (Rows.fnSidesOfSpec.post enc Try.prog Try.f3 false true false false) := by
  refine returnsInHanded_of_change (C := Try.checked) own started (by kernel_rfl) Try.func3
    (ChangeSpec.witness6 (enc := enc) (C := Try.checked) false ⟨#[], #[.slice none 0 0], []⟩ 8 (by kernel_rfl) (by kernel_rfl) (by kernel_rfl) (by kernel_rfl)) ?_
  intro W base args ds gs before hval hW _ _
  exact contract H enc W base args ds gs before hval hW

/-- The given statement. -/
theorem proved : Rows.FnSidesOfSaid :=
  OpenClaim.holds_of_wide 3 Try.f3 rfl rfl rfl rfl rfl rfl rfl ⟨rfl, rfl, rfl, rfl, rfl⟩ rfl rfl rfl rfl rfl (by kernel_rfl) Try.func3 (by kernel_rfl)
    (of_decide_eq_true (by kernel_rfl)) (by unfold Func.isWrapper; first | (rw [if_pos (by decide +kernel)]; kernel_rfl) | (rw [if_neg (by decide +kernel)]; exact ⟨rfl, rfl⟩))
    (fun os started H enc _ => lifted os started H enc)
#print axioms proved
end Go.Proofs.Ytafemgkkibjopaa.fnSidesOf

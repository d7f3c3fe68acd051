import Derived.BigQuiet
import Derived.BigRegion
import Derived.RegionTactic
import Derived.Lib.QuietBelow
import Derived.Deep.QuietTactic
import Derived.Deep.RegionWith
import Derived.Test.YtopfiogmbnfjcaaZlAW
section
namespace Go.Proofs.Ytopfiogmbnfjcaa
open Go.ChangeShapes Go.WideShapes Go.ChangeAt Go.RowKit
set_option linter.unusedVariables false
set_option linter.unusedSimpArgs false
set_option maxRecDepth 8000

theorem iweight (gr : Bool) (fb : Nat) (x : It) (w : World) (hok : itOk x = true) (q3 : w.cell? ⟨fb, 3, none⟩ = some (.bool gr)) :
    Calls Try.prog 95 #[.pointer (some ⟨fb, 0, none⟩), .agg #[.int .i64 x.base, .int .i64 x.least, .int .i64 x.most, .int .i64 x.grow, .int .i64 x.shrink, .int .i64 x.before, .int .i64 x.behind, .bool x.ab, .bool x.ah]] w fun e w' => e = .returned (.int .i64 (wtV gr x)) ∧ Below w.heap.size w w' := by
  have bb := Go.Joins.below_alloc1 w (.cells #[.int .i64 x.base, .int .i64 x.least, .int .i64 x.most, .int .i64 x.grow, .int .i64 x.shrink, .int .i64 x.before, .int .i64 x.behind, .bool x.ab, .bool x.ah] 34)
  have h0 := hp_new w (.cells #[.int .i64 x.base, .int .i64 x.least, .int .i64 x.most, .int .i64 x.grow, .int .i64 x.shrink, .int .i64 x.before, .int .i64 x.behind, .bool x.ab, .bool x.ah] 34)
  obtain ⟨u, eu⟩ : ∃ u, u = w.alloc (.cells #[.int .i64 x.base, .int .i64 x.least, .int .i64 x.most, .int .i64 x.grow, .int .i64 x.shrink, .int .i64 x.before, .int .i64 x.behind, .bool x.ab, .bool x.ah] 34) := ⟨_, rfl⟩
  rw [← eu] at h0 bb
  have EU := Lib.hid eu
  clear eu
  have c0 : u.cell? ⟨w.heap.size, 0, none⟩ = some (.int .i64 x.base) := Go.Joins.cell_of_block h0 0
  have c1 : u.cell? ⟨w.heap.size, 1, none⟩ = some (.int .i64 x.least) := Go.Joins.cell_of_block h0 1
  have c2 : u.cell? ⟨w.heap.size, 2, none⟩ = some (.int .i64 x.most) := Go.Joins.cell_of_block h0 2
  have c3 : u.cell? ⟨w.heap.size, 3, none⟩ = some (.int .i64 x.grow) := Go.Joins.cell_of_block h0 3
  have c4 : u.cell? ⟨w.heap.size, 4, none⟩ = some (.int .i64 x.shrink) := Go.Joins.cell_of_block h0 4
  have c5 : u.cell? ⟨w.heap.size, 5, none⟩ = some (.int .i64 x.before) := Go.Joins.cell_of_block h0 5
  have c6 : u.cell? ⟨w.heap.size, 6, none⟩ = some (.int .i64 x.behind) := Go.Joins.cell_of_block h0 6
  have c7 : u.cell? ⟨w.heap.size, 7, none⟩ = some (.bool x.ab) := Go.Joins.cell_of_block h0 7
  have c8 : u.cell? ⟨w.heap.size, 8, none⟩ = some (.bool x.ah) := Go.Joins.cell_of_block h0 8
  have d3 := kept_cell q3 bb
  have BB := Lib.hid bb
  clear h0 bb q3
  have hm := wtV_in hok false
  have hw : IntKind.i64.wrap (x.shrink * x.base) = x.shrink * x.base := IntWalk.i64_in _ (by unfold wtV at hm; simp at hm; omega)
  cases gr
  · go_enter Try.func95, Try.ntmps95
    go_wp2_with (rw [← EU.out])
    go_ret
    exact ⟨rfl, BB.out⟩
  · go_enter Try.func95, Try.ntmps95
    go_wp2_with (rw [← EU.out])
    go_ret
    exact ⟨rfl, BB.out⟩
set_option maxHeartbeats 1000000 in
theorem istuck (gr : Bool) (fb : Nat) (x : It) (w : World) (q3 : w.cell? ⟨fb, 3, none⟩ = some (.bool gr)) :
    Calls Try.prog 96 #[.pointer (some ⟨fb, 0, none⟩), .agg #[.int .i64 x.base, .int .i64 x.least, .int .i64 x.most, .int .i64 x.grow, .int .i64 x.shrink, .int .i64 x.before, .int .i64 x.behind, .bool x.ab, .bool x.ah]] w fun e w' => e = .returned (.bool (stV gr x)) ∧ Below w.heap.size w w' := by
  have bb := Go.Joins.below_alloc1 w (.cells #[.int .i64 x.base, .int .i64 x.least, .int .i64 x.most, .int .i64 x.grow, .int .i64 x.shrink, .int .i64 x.before, .int .i64 x.behind, .bool x.ab, .bool x.ah] 34)
  have h0 := hp_new w (.cells #[.int .i64 x.base, .int .i64 x.least, .int .i64 x.most, .int .i64 x.grow, .int .i64 x.shrink, .int .i64 x.before, .int .i64 x.behind, .bool x.ab, .bool x.ah] 34)
  obtain ⟨u, eu⟩ : ∃ u, u = w.alloc (.cells #[.int .i64 x.base, .int .i64 x.least, .int .i64 x.most, .int .i64 x.grow, .int .i64 x.shrink, .int .i64 x.before, .int .i64 x.behind, .bool x.ab, .bool x.ah] 34) := ⟨_, rfl⟩
  rw [← eu] at h0 bb
  have EU := Lib.hid eu
  clear eu
  have c0 : u.cell? ⟨w.heap.size, 0, none⟩ = some (.int .i64 x.base) := Go.Joins.cell_of_block h0 0
  have c1 : u.cell? ⟨w.heap.size, 1, none⟩ = some (.int .i64 x.least) := Go.Joins.cell_of_block h0 1
  have c2 : u.cell? ⟨w.heap.size, 2, none⟩ = some (.int .i64 x.most) := Go.Joins.cell_of_block h0 2
  have c3 : u.cell? ⟨w.heap.size, 3, none⟩ = some (.int .i64 x.grow) := Go.Joins.cell_of_block h0 3
  have c4 : u.cell? ⟨w.heap.size, 4, none⟩ = some (.int .i64 x.shrink) := Go.Joins.cell_of_block h0 4
  have c5 : u.cell? ⟨w.heap.size, 5, none⟩ = some (.int .i64 x.before) := Go.Joins.cell_of_block h0 5
  have c6 : u.cell? ⟨w.heap.size, 6, none⟩ = some (.int .i64 x.behind) := Go.Joins.cell_of_block h0 6
  have c7 : u.cell? ⟨w.heap.size, 7, none⟩ = some (.bool x.ab) := Go.Joins.cell_of_block h0 7
  have c8 : u.cell? ⟨w.heap.size, 8, none⟩ = some (.bool x.ah) := Go.Joins.cell_of_block h0 8
  have d3 := kept_cell q3 bb
  have BB := Lib.hid bb
  clear h0 bb q3
  have q0 := fun d os => cell_regrown c0 d os
  have q1 := fun d os => cell_regrown c1 d os
  have q2 := fun d os => cell_regrown c2 d os
  have q3 := fun d os => cell_regrown c3 d os
  have q4 := fun d os => cell_regrown c4 d os
  have q5 := fun d os => cell_regrown c5 d os
  have q6 := fun d os => cell_regrown c6 d os
  have q7 := fun d os => cell_regrown c7 d os
  have q8 := fun d os => cell_regrown c8 d os
  clear c0 c1 c2 c3 c4 c5 c6 c7 c8
  obtain ⟨hy, ehy⟩ : ∃ q, q = hypV x := ⟨_, rfl⟩
  have kh := fun (w : World) => ihyp x w
  rw [← ehy] at kh
  have hst : stV gr x = if gr = true then decide (hy < x.base) else decide (x.base < hy) := by rw [ehy]; rfl
  have HST := Lib.hid hst
  clear hst ehy
  cases gr
  · go_enter Try.func96, Try.ntmps96
    go_wp2_with (rw [← EU.out])
    refine wp_region_quiet_below (by kernel_rfl) (by kernel_rfl) ?_
    repeat (go_big_quiet_step (first
      | (go_at_call 26; exact Calls.regrown_of (kh _))
      | fail))
    refine wpQuiet_nil ?_
    intro _ hw'
    obtain ⟨⟨dq, osq⟩, hw''⟩ := hw'
    subst hw''
    clear q0 q1 q2 q3 q4 q5 q6 q7 q8
    go_wp2
    go_ret
    exact ⟨congrArg (fun t => Ending.returned (.bool t)) (HST.out.trans (by simp)).symm, BB.out.trans ((below_regrown u dq osq).mono BB.out.size)⟩
  · go_enter Try.func96, Try.ntmps96
    go_wp2_with (rw [← EU.out])
    refine wp_region_quiet_below (by kernel_rfl) (by kernel_rfl) ?_
    repeat (go_big_quiet_step (first
      | (go_at_call 26; exact Calls.regrown_of (kh _))
      | fail))
    refine wpQuiet_nil ?_
    intro _ hw'
    obtain ⟨⟨dq, osq⟩, hw''⟩ := hw'
    subst hw''
    clear q0 q1 q2 q3 q4 q5 q6 q7 q8
    go_wp2
    go_ret
    exact ⟨congrArg (fun t => Ending.returned (.bool t)) (HST.out.trans (by simp)).symm, BB.out.trans ((below_regrown u dq osq).mono BB.out.size)⟩

/-- What stands while loosen works. -/
def LoRel (w0 : World) (f : Fx) (a : Option Addr) (cap fb zb wb : Nat) (i : Value) (wr : World) : Prop :=
  ∃ (k : Nat) (zs ws : List Int), k ≤ f.xs.length ∧ i = .int .i64 k ∧ FxM w0 f a cap fb zb wb zs ws 0 wr ∧
    ∀ i, i < f.xs.length → zs.getD i 0 = (if i < k ∧ hdV f.gr (f.x i) = false then (f.x i).base else hypV (f.x i)) ∧ ws.getD i 0 = (if i < k ∧ hdV f.gr (f.x i) = false then wtV f.gr (f.x i) else 0)
set_option maxHeartbeats 4000000 in
theorem iloosen (w0 : World) (f : Fx) (a : Option Addr) (cap fb zb wb : Nat) (w : World) (hok : itsOk f.xs = true) (M : FxM w0 f a cap fb zb wb (hypL f.xs) (List.replicate f.xs.length 0) 0 w) :
    Calls Try.prog 85 #[.pointer (some ⟨fb, 0, none⟩)] w fun e w' => e = .returned (.tuple #[]) ∧ FxM w0 f a cap fb zb wb f.z0 (f.wL f.h0) 0 w' := by
  have h12 := Fx.n12 hok
  have HM := Lib.hid M
  obtain ⟨c0, _, _, _, _, _, _⟩ := M.cells
  clear M
  go_enter Try.func85, Try.ntmps85
  go_wp2
  go_loopw [10] (LoRel w0 f a cap fb zb wb) (fun i _ => f.xs.length - (intOf i).toNat)
  case atStart => exact ⟨0, _, _, Nat.zero_le _, rfl, HM.out, fun i hi => ⟨by rw [if_neg (by omega)]; exact hypL_at hi, by rw [if_neg (by omega)]; simp [List.getD, hi]⟩⟩
  case round =>
    clear c0 HM
    obtain ⟨k, zs, ws, hk, rfl, M, hv⟩ := hrel
    by_cases hlt : k < f.xs.length
    · obtain ⟨b, off, rfl, hbl, hrg⟩ := M.itsN.look hlt
      have hlo : (0 : Int) ≤ (k : Int) := Int.natCast_nonneg _
      have hhi : (k : Int) < (f.xs.length : Int) := by omega
      have hokx : itOk (f.x k) = true := Fx.okx hok hlt
      have hx : f.x k = itD f.xs k := rfl
      rw [← hx] at hrg
      have hw0 := wtV_in hokx f.gr
      have HV := Lib.hid hv
      obtain ⟨x, ex⟩ : ∃ q, q = f.x k := ⟨_, rfl⟩
      rw [← ex] at hrg hokx hw0
      have EX := Lib.hid ex
      have RG := Lib.hid hrg
      clear hrg hx ex hv
      obtain ⟨v, ev⟩ : ∃ v, v = wr.alloc (.cells #[.int .i64 x.base, .int .i64 x.least, .int .i64 x.most, .int .i64 x.grow, .int .i64 x.shrink, .int .i64 x.before, .int .i64 x.behind, .bool x.ab, .bool x.ah] 34) := ⟨_, rfl⟩
      have hown : v.heap[wr.heap.size]? = some (.cells #[.int .i64 x.base, .int .i64 x.least, .int .i64 x.most, .int .i64 x.grow, .int .i64 x.shrink, .int .i64 x.before, .int .i64 x.behind, .bool x.ab, .bool x.ah] 34) := ev ▸ hp_new wr _
      have hbv : Below wr.heap.size wr v := ev ▸ Go.Joins.below_alloc1 wr _
      have N0 : v.cell? ⟨wr.heap.size, 0, none⟩ = some (.int .i64 x.base) := Go.Joins.cell_of_block hown 0
      have N1 : v.cell? ⟨wr.heap.size, 1, none⟩ = some (.int .i64 x.least) := Go.Joins.cell_of_block hown 1
      have N2 : v.cell? ⟨wr.heap.size, 2, none⟩ = some (.int .i64 x.most) := Go.Joins.cell_of_block hown 2
      have N3 : v.cell? ⟨wr.heap.size, 3, none⟩ = some (.int .i64 x.grow) := Go.Joins.cell_of_block hown 3
      have N4 : v.cell? ⟨wr.heap.size, 4, none⟩ = some (.int .i64 x.shrink) := Go.Joins.cell_of_block hown 4
      have N5 : v.cell? ⟨wr.heap.size, 5, none⟩ = some (.int .i64 x.before) := Go.Joins.cell_of_block hown 5
      have N6 : v.cell? ⟨wr.heap.size, 6, none⟩ = some (.int .i64 x.behind) := Go.Joins.cell_of_block hown 6
      have N7 : v.cell? ⟨wr.heap.size, 7, none⟩ = some (.bool x.ab) := Go.Joins.cell_of_block hown 7
      have N8 : v.cell? ⟨wr.heap.size, 8, none⟩ = some (.bool x.ah) := Go.Joins.cell_of_block hown 8
      have EV := Lib.hid ev
      clear ev
      have MV := M.below hbv
      have HMV := Lib.hid MV
      obtain ⟨_, _, _, d3, _, _, _⟩ := MV.cells
      clear M MV hbv
      go_wp2_with (first
        | ((with_reducible apply list_load_it); exact rfl; exact rfl; exact rfl; (with_reducible exact RG.out); simp only [Act.put, List.setIfInBounds_toArray, List.set_cons_succ, List.set_cons_zero])
        | (rw [← EV.out])
        | fail)
      have kw := iweight f.gr fb x v hokx d3
      obtain ⟨wt, ewt⟩ : ∃ q, q = wtV f.gr x := ⟨_, rfl⟩
      rw [← ewt] at hw0 kw
      have EWT := Lib.hid ewt
      clear ewt
      refine kw.mono ?_
      rintro e w1 ⟨rfl, b1⟩
      clear kw
      have hown1 := hp_below hown b1
      have M1 := HMV.out.below b1
      have HM1 := Lib.hid M1
      obtain ⟨_, _, _, e3, e4, e5, _⟩ := M1.cells
      clear N0 N1 N2 N3 N4 N5 N6 N7 N8 d3 hown b1 M1
      have n0 : w1.cell? ⟨wr.heap.size, 0, none⟩ = some (.int .i64 x.base) := Go.Joins.cell_of_block hown1 0
      have n1 : w1.cell? ⟨wr.heap.size, 1, none⟩ = some (.int .i64 x.least) := Go.Joins.cell_of_block hown1 1
      have n2 : w1.cell? ⟨wr.heap.size, 2, none⟩ = some (.int .i64 x.most) := Go.Joins.cell_of_block hown1 2
      have n3 : w1.cell? ⟨wr.heap.size, 3, none⟩ = some (.int .i64 x.grow) := Go.Joins.cell_of_block hown1 3
      have n4 : w1.cell? ⟨wr.heap.size, 4, none⟩ = some (.int .i64 x.shrink) := Go.Joins.cell_of_block hown1 4
      have n5 : w1.cell? ⟨wr.heap.size, 5, none⟩ = some (.int .i64 x.before) := Go.Joins.cell_of_block hown1 5
      have n6 : w1.cell? ⟨wr.heap.size, 6, none⟩ = some (.int .i64 x.behind) := Go.Joins.cell_of_block hown1 6
      have n7 : w1.cell? ⟨wr.heap.size, 7, none⟩ = some (.bool x.ab) := Go.Joins.cell_of_block hown1 7
      have n8 : w1.cell? ⟨wr.heap.size, 8, none⟩ = some (.bool x.ah) := Go.Joins.cell_of_block hown1 8
      have HOWN := Lib.hid hown1
      clear hown1
      have HEND := Lib.hid (fun (P : Prop) (h : P) => h)
      by_cases h1 : 0 < wt
      · dsimp only
        go_wp2_with (fail)
        refine (istuck f.gr fb x w1 e3).mono ?_
        rintro e w2 ⟨rfl, b2⟩
        have hown2 := hp_below HOWN.out b2
        have M2 := HM1.out.below b2
        have HM2 := Lib.hid M2
        obtain ⟨_, _, _, _, f4, f5, _⟩ := M2.cells
        have m0 : w2.cell? ⟨wr.heap.size, 0, none⟩ = some (.int .i64 x.base) := Go.Joins.cell_of_block hown2 0
        clear n0 n1 n2 n3 n4 n5 n6 n7 n8 e3 e4 e5 b2 hown2
        cases hs : stV f.gr x with
        | true =>
          have hd : hdV f.gr (f.x k) = true := by rw [← EX.out]; unfold hdV; rw [hs, Bool.or_true]
          have HD := Lib.hid hd
          clear hd hs f4 f5 m0 M2
          dsimp only
          go_wp2
          go_roundw
          case rel =>
            refine ⟨k + 1, zs, ws, by omega, by go_num, HM2.out, fun i hi => ?_⟩
            have := HV.out i hi
            by_cases e : i = k
            · subst e
              rw [HD.out] at this ⊢
              simpa using this
            · rw [if_next e, if_next e]
              exact this
          case measure => simp [intOf]; omega
        | false =>
          have hd : hdV f.gr (f.x k) = false := by rw [← EX.out]; unfold hdV; rw [hs, ← EWT.out, Bool.or_false, decide_eq_false (by omega)]
          have HD := Lib.hid hd
          clear hd hs
          obtain ⟨⟨q1, g1⟩, g2, M3'⟩ := M2.putZ hlt x.base
          obtain ⟨u3, eu3⟩ : ∃ q, q = (w2.setCell ⟨zb, k, none⟩ (.int .i64 x.base)).drew := ⟨_, rfl⟩
          have M3 : FxM w0 f (some ⟨b, off, none⟩) cap fb zb wb (zs.set k x.base) ws 0 u3 := eu3 ▸ M3'.below (Below.refl _ _).drew
          obtain ⟨⟨q2, g3⟩, g4, M4⟩ := M3.putW hlt wt
          have HM4 := Lib.hid M4
          have hlz := M2.lz
          have hlw := M2.lw
          have F5 := M3.cells.2.2.2.2.2.1
          have EU3 := Lib.hid eu3.symm
          clear M2 M3 M3' M4 eu3
          dsimp only
          go_wp2
          go_region
          rw [EU3.out]
          go_wp2
          go_roundw
          case rel =>
            refine ⟨k + 1, zs.set k x.base, ws.set k wt, by omega, by go_num, HM4.out, fun i hi => ?_⟩
            have := HV.out i hi
            rw [getD_set, getD_set]
            by_cases e : i = k
            · subst e
              refine ⟨?_, ?_⟩
              · rw [if_pos ⟨rfl, by omega⟩, if_pos ⟨by omega, HD.out⟩, ← EX.out]
              · rw [if_pos ⟨rfl, by omega⟩, if_pos ⟨by omega, HD.out⟩, ← EX.out]
                exact EWT.out
            · rw [if_next e, if_next e]
              refine ⟨?_, ?_⟩
              · rw [if_neg (fun h => e h.1)]; exact this.1
              · rw [if_neg (fun h => e h.1)]; exact this.2
          case measure => simp [intOf]; omega
      · have hd : hdV f.gr (f.x k) = true := by rw [← EX.out]; unfold hdV; rw [← EWT.out, decide_eq_true (show wt = 0 by omega), Bool.true_or]
        have HD := Lib.hid hd
        clear hd n0 n1 n2 n3 n4 n5 n6 n7 n8 e3 e4 e5
        dsimp only
        go_wp2
        go_roundw
        case rel =>
          refine ⟨k + 1, zs, ws, by omega, by go_num, HM1.out, fun i hi => ?_⟩
          have := HV.out i hi
          by_cases e : i = k
          · subst e
            rw [HD.out] at this ⊢
            simpa using this
          · rw [if_next e, if_next e]
            exact this
        case measure => simp [intOf]; omega
    · obtain rfl : k = f.xs.length := by omega
      have hz : zs = f.z0 := eq_range M.lz fun i hi => by
        rw [(hv i hi).1]
        cases hdV f.gr (f.x i) <;> simp [hi]
      have hw : ws = f.wL f.h0 := eq_range M.lw fun i hi => by
        rw [(hv i hi).2]
        show _ = f.wv f.h0 i
        unfold Fx.wv Fx.h0
        rw [rgD _ hi]
        cases hdV f.gr (f.x i) <;> simp [hi]
      subst hz hw
      go_wp2
      refine bodyPost_end (results_none rfl _ _ _) rfl ?_
      exact ⟨rfl, M⟩
end Go.Proofs.Ytopfiogmbnfjcaa
end

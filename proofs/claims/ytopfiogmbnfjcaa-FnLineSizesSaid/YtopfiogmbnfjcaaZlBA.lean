import Derived.Test.YtopfiogmbnfjcaaZlAX
import Derived.Test.YtopfiogmbnfjcaaZlAZ
section
namespace Go.Proofs.Ytopfiogmbnfjcaa
open Go.ChangeShapes Go.WideShapes Go.ChangeAt Go.RowKit
set_option linter.unusedVariables false
set_option linter.unusedSimpArgs false
set_option maxRecDepth 8000

theorem Fx.zs_all {f : Fx} {hs : List Bool} {zs : List Int} (hst : f.St hs zs) : AllI zs := allI_D hst.2.1 fun i hi => by
  have := (hst.2.2 i hi).1
  omega
theorem Fx.ws_all {f : Fx} {hs : List Bool} (hok : itsOk f.xs = true) : AllI (f.wL hs) := allI_D Fx.wL_len fun i hi => by
  rw [Fx.wL_at hi]
  have := Fx.wv_in (hs := hs) hok hi
  omega
theorem Fx.vs_all {f : Fx} {hs : List Bool} {zs : List Int} (hok : itsOk f.xs = true) (hst : f.St hs zs) : AllI (f.vL hs zs) := allI_D Fx.vL_len fun i hi => by
  rw [Fx.vL_at hi]
  have := Fx.vi_in hok hst hi
  omega
set_option maxHeartbeats 2000000 in
theorem ispace (w0 : World) (f : Fx) (a : Option Addr) (cap fb zb wb : Nat) (hs : List Bool) (zs ws : List Int) (p : Nat) (w : World) (hok : itsOk f.xs = true) (hst : f.St hs zs) (M : FxM w0 f a cap fb zb wb zs ws p w) :
    Calls Try.prog 97 #[.pointer (some ⟨fb, 0, none⟩)] w fun e w' => e = .returned (.int .i64 (f.fr zs)) ∧ Below w.heap.size w w' := by
  have h12 := Fx.n12 hok
  have ko := fun d os => iouter_any a cap f.xs (some ⟨zb, 0, none⟩) f.xs.length f.xs.length zs f.gap (Sort.grow (redrawn w d) os) (M.below (below_regrown w d os)).itsN (by omega) ((M.below (below_regrown w d os)).ints_z (Fx.zs_all hst)) (by omega)
  obtain ⟨c0, c1, c2, c3, c4, c5, c6⟩ := M.cells
  have q0 := fun d os => cell_regrown c0 d os
  have q1 := fun d os => cell_regrown c1 d os
  have q2 := fun d os => cell_regrown c2 d os
  have q4 := fun d os => cell_regrown c4 d os
  have HM := Lib.hid M
  clear M c0 c1 c2 c3 c4 c5 c6
  obtain ⟨o, eo⟩ : ∃ q, q = ouV f.xs zs f.gap := ⟨_, rfl⟩
  obtain ⟨s, es⟩ : ∃ q, q = wrap64 (f.inner - o) := ⟨_, rfl⟩
  have HF := Lib.hid (show f.fr zs = frV f.gr s by rw [es, eo]; rfl)
  have HI := Lib.hid (wr_in (f.inner - o))
  rw [← eo] at ko
  have ES := Lib.hid es.symm
  clear eo es
  go_enter Try.func97, Try.ntmps97
  go_wp2
  refine wp_region_quiet_below (by kernel_rfl) (by kernel_rfl) ?_
  repeat (go_big_quiet_step (first
    | (go_at_call 27; exact Calls.regrown_of (ko _ _))
    | fail))
  refine wpQuiet_nil ?_
  intro _ hw'
  obtain ⟨⟨dq, osq⟩, hw''⟩ := hw'
  subst hw''
  clear q0 q1 q2 q4 ko
  have b1 := below_regrown w dq osq
  have M1 := HM.out.below b1
  obtain ⟨_, _, _, d3, _, _, _⟩ := M1.cells
  clear M1
  obtain ⟨u, eu⟩ : ∃ q, q = Sort.grow (redrawn w dq) osq := ⟨_, rfl⟩
  rw [← eu] at b1 d3 ⊢
  have B1 := Lib.hid b1
  clear b1 eu
  rw [ES.out]
  have hin := HI.out
  rw [ES.out] at hin
  have HIN := Lib.hid hin
  clear hin HI ES HM
  cases hg : f.gr with
  | true =>
    rw [hg] at d3
    by_cases h1 : s < 0
    · go_wp2_with (fail)
      refine (iclamp_off _ _).mono ?_
      rintro e w2 ⟨rfl, rfl⟩
      go_wp2
      go_ret
      exact ⟨ret_int (by rw [HF.out, hg]; unfold frV; rw [if_pos rfl, if_pos h1]), B1.out⟩
    · go_wp2_with (fail)
      refine (iclamp_off _ _).mono ?_
      rintro e w2 ⟨rfl, rfl⟩
      go_wp2
      go_ret
      exact ⟨ret_int (by rw [HF.out, hg]; unfold frV; rw [if_pos rfl, if_neg (by omega)]), B1.out⟩
  | false =>
    rw [hg] at d3
    by_cases h1 : 0 < s
    · go_wp2_with (fail)
      refine (iclamp_off _ _).mono ?_
      rintro e w2 ⟨rfl, rfl⟩
      go_wp2
      go_ret
      exact ⟨ret_int (by rw [HF.out, hg]; unfold frV; rw [if_neg (by simp), if_pos h1]), B1.out⟩
    · go_wp2_with (fail)
      refine (iclamp_off _ _).mono ?_
      rintro e w2 ⟨rfl, rfl⟩
      go_wp2
      go_ret
      exact ⟨ret_int (by rw [HF.out, hg]; unfold frV; rw [if_neg (by simp), if_neg (by omega)]), B1.out⟩
theorem ifreeze (w0 : World) (f : Fx) (a : Option Addr) (cap fb zb wb : Nat) (zs ws : List Int) (p : Nat) (k : Nat) (x : Int) (w : World) (hk : k < f.xs.length) (hn : f.xs.length ≤ 1048576) (M : FxM w0 f a cap fb zb wb zs ws p w) :
    Calls Try.prog 106 #[.pointer (some ⟨fb, 0, none⟩), .int .i64 k, .int .i64 x] w fun e w' => e = .returned (.tuple #[]) ∧ FxM w0 f a cap fb zb wb (zs.set k x) (ws.set k 0) p w' ∧ w' = (w.setCell ⟨zb, k, none⟩ (.int .i64 x)).setCell ⟨wb, k, none⟩ (.int .i64 0) := by
  obtain ⟨⟨q1, g1⟩, g2, M1⟩ := M.putZ hk x
  obtain ⟨⟨q2, g3⟩, g4, M2⟩ := M1.putW hk 0
  have c4 := M.cells.2.2.2.2.1
  have c5 := M1.cells.2.2.2.2.2.1
  have HM := Lib.hid M2
  have hlo : (0 : Int) ≤ (k : Int) := Int.natCast_nonneg _
  have hhi : (k : Int) < (f.xs.length : Int) := by omega
  clear M M1 M2
  go_enter Try.func106, Try.ntmps106
  go_wp2
  refine bodyPost_end (results_none rfl _ _ _) rfl ?_
  exact ⟨rfl, HM.out, rfl⟩

def ViRel (f : Fx) (hs : List Bool) (zs : List Int) (w : World) (i : Value) (wr : World) : Prop :=
  ∃ k : Nat, k ≤ f.xs.length ∧ i = .int .i64 k ∧ RowI w.heap.size (.slice (some ⟨w.heap.size, 0, none⟩) f.xs.length f.xs.length) ((f.vL hs zs).take k ++ (List.replicate f.xs.length 0).drop k) wr ∧ Below w.heap.size w wr
set_option maxHeartbeats 4000000 in
theorem iviol (w0 : World) (f : Fx) (a : Option Addr) (cap fb zb wb : Nat) (hs : List Bool) (zs : List Int) (p : Nat) (w : World) (hok : itsOk f.xs = true) (hst : f.St hs zs) (M : FxM w0 f a cap fb zb wb zs (f.wL hs) p w) :
    Calls Try.prog 99 #[.pointer (some ⟨fb, 0, none⟩), .int .i64 (f.fr zs)] w fun e w' => e = .returned (.slice (some ⟨w.heap.size, 0, none⟩) f.xs.length f.xs.length) ∧
      RowI w.heap.size (.slice (some ⟨w.heap.size, 0, none⟩) f.xs.length f.xs.length) (f.vL hs zs) w' ∧ Below w.heap.size w w' := by
  obtain ⟨i0, hi, hz0, hz1, hz2⟩ := info_parts info_intP
  have h12 := Fx.n12 hok
  have HST := Lib.hid hst
  have HM := Lib.hid M
  have hlv : (f.vL hs zs).length = f.xs.length := Fx.vL_len
  obtain ⟨c0, _, _, _, _, c5, _⟩ := M.cells
  have hal : wrap64 (wsum (f.wL hs) f.xs.length) = f.al hs := IntWalk.wrap64_in _ (by have := Fx.al_in (hs := hs) hok; unfold Fx.al at this; omega)
  have ks := isum_any (some ⟨wb, 0, none⟩) f.xs.length f.xs.length (f.wL hs) w (M.ints_w (Fx.ws_all hok)) (by omega)
  rw [hal] at ks
  obtain ⟨A, eA⟩ : ∃ q, q = f.al hs := ⟨_, rfl⟩
  obtain ⟨sp, esp⟩ : ∃ q, q = f.fr zs := ⟨_, rfl⟩
  rw [← eA] at ks
  rw [← esp]
  have EA := Lib.hid eA
  have ESP := Lib.hid esp
  clear M hal eA esp hst
  go_enter Try.func99, Try.ntmps99
  go_wp2_with (fail)
  refine ks.mono ?_
  rintro e w1 ⟨rfl, rfl⟩
  clear ks
  go_wp2_with (first
    | (at_make; refine wpList_make_full _ rfl _ _ 27 rfl w1.heap.size 3 i0 (.int .i64 0) 1 Try.underlying27 hi hz0 hz1 .i64 .i64 _ _ f.xs.length rfl rfl rfl rfl (by rw [hz2]; omega) (by unfold maxLen; omega) (Nat.le_refl _) ?_))
  intro u0 hown0 hgrow0
  have hr0 : RowI w1.heap.size (.slice (some ⟨w1.heap.size, 0, none⟩) f.xs.length f.xs.length) ((f.vL hs zs).take 0 ++ (List.replicate f.xs.length 0).drop 0) u0 := by
    unfold RowI
    rw [toList_madeCells_one] at hown0
    simpa using hown0
  have hb0 : Below w1.heap.size w1 u0 := (Below.refl _ _).grown hgrow0 (Nat.le_refl _) (fun g hg => by cases hg)
  have d0 := kept_cell c0 hb0
  clear hown0 hgrow0 c0 c5
  go_wp2
  go_loopw [26] (ViRel f hs zs w1) (fun i _ => f.xs.length - (intOf i).toNat)
  case atStart => exact ⟨0, Nat.zero_le _, rfl, hr0, hb0⟩
  case round =>
    clear hr0 hb0 d0
    obtain ⟨k, hk, rfl, ho, hb⟩ := hrel
    have hll : ((f.vL hs zs).take k ++ (List.replicate f.xs.length (0 : Int)).drop k).length = f.xs.length := by rw [List.length_append, List.length_take, hlv]; simp; omega
    have M := HM.out.below hb
    by_cases hlt : k < f.xs.length
    · obtain ⟨b, off, rfl, hbl, hrg⟩ := M.itsN.look hlt
      have hlo : (0 : Int) ≤ (k : Int) := Int.natCast_nonneg _
      have hhi : (k : Int) < (f.xs.length : Int) := by omega
      have HSET := Lib.hid (show ((f.vL hs zs).take k ++ (List.replicate f.xs.length (0 : Int)).drop k).set k (f.vi hs zs k) = (f.vL hs zs).take (k + 1) ++ (List.replicate f.xs.length (0 : Int)).drop (k + 1) by rw [← Fx.vL_at (hs := hs) (zs := zs) hlt]; exact take_set (by rw [hlv]; exact hlt) (by simpa using hlt))
      have hx : f.x k = itD f.xs k := rfl
      rw [← hx] at hrg
      have e1 := Fx.sz_in hok HST.out hlt
      have e2 := Fx.fw_in (hs := hs) (zs := zs) hok hlt
      have e3 := Fx.tg_in hok HST.out hlt
      have e4 := Fx.le_in (hs := hs) hok hlt
      have e5 := Fx.mo_in (hs := hs) hok hlt
      have e6 := Fx.vi_in hok HST.out hlt
      have hzk := M.zat hlt
      have hwk := M.wat hlt
      rw [Fx.wL_at hlt] at hwk
      have hvi : f.vi hs zs k = wiI (f.tg hs zs k) ((f.x k).least * f.al hs) ((f.x k).most * f.al hs) - f.tg hs zs k := rfl
      have htg : f.tg hs zs k = zs.getD k 0 * f.al hs + f.fr zs * f.wv hs k := rfl
      rw [← EA.out] at e1 e4 e5 hvi htg
      rw [← ESP.out] at e2 htg
      obtain ⟨z, ez⟩ : ∃ q, q = zs.getD k 0 := ⟨_, rfl⟩
      obtain ⟨wk, ewk⟩ : ∃ q, q = f.wv hs k := ⟨_, rfl⟩
      obtain ⟨x, ex⟩ : ∃ q, q = f.x k := ⟨_, rfl⟩
      obtain ⟨tg, etg⟩ : ∃ q, q = f.tg hs zs k := ⟨_, rfl⟩
      obtain ⟨vi, evi⟩ : ∃ q, q = f.vi hs zs k := ⟨_, rfl⟩
      rw [← ez] at e1 hzk htg
      rw [← ewk] at e2 hwk htg
      rw [← ex] at hrg e4 e5 hvi
      rw [← etg] at e3 hvi htg
      rw [← evi] at e6 hvi HSET
      clear ez ewk ex etg evi hx
      have hw1 : IntKind.i64.wrap (z * A) = z * A := IntWalk.i64_in _ (by omega)
      have hw2 : IntKind.i64.wrap (sp * wk) = sp * wk := IntWalk.i64_in _ (by omega)
      have hw3 : IntKind.i64.wrap (z * A + sp * wk) = tg := by rw [IntWalk.i64_in _ (by omega)]; exact htg.symm
      have hw4 : IntKind.i64.wrap (x.least * A) = x.least * A := IntWalk.i64_in _ (by omega)
      have hw5 : IntKind.i64.wrap (x.most * A) = x.most * A := IntWalk.i64_in _ (by omega)
      have hw6 : IntKind.i64.wrap (wiI tg (x.least * A) (x.most * A) - tg) = vi := by rw [← hvi]; exact IntWalk.i64_in _ (by omega)
      have RG := Lib.hid hrg
      clear hrg e1 e2 e3 e4 e5 e6 hvi htg
      obtain ⟨v, ev⟩ : ∃ v, v = wr.alloc (.cells #[.int .i64 x.base, .int .i64 x.least, .int .i64 x.most, .int .i64 x.grow, .int .i64 x.shrink, .int .i64 x.before, .int .i64 x.behind, .bool x.ab, .bool x.ah] 34) := ⟨_, rfl⟩
      have hown : v.heap[wr.heap.size]? = some (.cells #[.int .i64 x.base, .int .i64 x.least, .int .i64 x.most, .int .i64 x.grow, .int .i64 x.shrink, .int .i64 x.before, .int .i64 x.behind, .bool x.ab, .bool x.ah] 34) := ev ▸ hp_new wr _
      have hbv : Below wr.heap.size wr v := ev ▸ Go.Joins.below_alloc1 wr _
      have N0 : v.cell? ⟨wr.heap.size, 0, none⟩ = some (.int .i64 x.base) := Go.Joins.cell_of_block hown 0
      have N1 : v.cell? ⟨wr.heap.size, 1, none⟩ = some (.int .i64 x.least) := Go.Joins.cell_of_block hown 1
      have N2 : v.cell? ⟨wr.heap.size, 2, none⟩ = some (.int .i64 x.most) := Go.Joins.cell_of_block hown 2
      have N3 : v.cell? ⟨wr.heap.size, 3, none⟩ = some (.int .i64 x.grow) := Go.Joins.cell_of_block hown 3
      have N4 : v.cell? ⟨wr.heap.size, 4, none⟩ = some (.int .i64 x.shrink) := Go.Joins.cell_of_block hown 4
      have N5 : v.cell? ⟨wr.heap.size, 5, none⟩ = some (.int .i64 x.before) := Go.Joins.cell_of_block hown 5
      have N6 : v.cell? ⟨wr.heap.size, 6, none⟩ = some (.int .i64 x.behind) := Go.Joins.cell_of_block hown 6
      have N7 : v.cell? ⟨wr.heap.size, 7, none⟩ = some (.bool x.ab) := Go.Joins.cell_of_block hown 7
      have N8 : v.cell? ⟨wr.heap.size, 8, none⟩ = some (.bool x.ah) := Go.Joins.cell_of_block hown 8
      have ev2 := ev
      have EV := Lib.hid ev
      clear ev
      have hov : RowI w1.heap.size _ _ v := ev2 ▸ World.ownsRow.alloc ho _
      have HO := Lib.hid hov
      have HLL := Lib.hid hll
      have MV := M.below hbv
      obtain ⟨_, _, _, _, d4, d5, _⟩ := MV.cells
      have y1 := kept_cell hzk hbv
      have y2 := kept_cell hwk hbv
      have q4 := fun d os => cell_regrown d4 d os
      have q5 := fun d os => cell_regrown d5 d os
      have q6 := fun d os => cell_regrown y1 d os
      have q7 := fun d os => cell_regrown y2 d os
      have HB := Lib.hid (hb.trans (hbv.mono hb.size))
      have HBV := Lib.hid hbv
      have HOWN := Lib.hid hown
      clear ho hb hov hll hbv M MV d4 d5 y1 y2 hzk hwk ev2 N0 N1 N2 N3 N4 N5 N6 N7 N8
      go_wp2_with (first
        | ((with_reducible apply list_load_it); exact rfl; exact rfl; exact rfl; (with_reducible exact RG.out); simp only [Act.put, List.setIfInBounds_toArray, List.set_cons_succ, List.set_cons_zero])
        | (rw [← EV.out])
        | fail)
      refine wp_region_quiet_below (by kernel_rfl) (by kernel_rfl) ?_
      repeat (go_big_quiet_step (fail))
      refine wpQuiet_nil ?_
      intro _ hw'
      obtain ⟨⟨dq, osq⟩, hw''⟩ := hw'
      subst hw''
      clear q4 q5 q6 q7 hw1 hw2 hw3
      have b2 := below_regrown v dq osq
      obtain ⟨u, eu⟩ : ∃ q, q = Sort.grow (redrawn v dq) osq := ⟨_, rfl⟩
      rw [← eu] at b2 ⊢
      clear eu
      have hown2 := hp_below HOWN.out b2
      have n1 : u.cell? ⟨wr.heap.size, 1, none⟩ = some (.int .i64 x.least) := Go.Joins.cell_of_block hown2 1
      have n2 : u.cell? ⟨wr.heap.size, 2, none⟩ = some (.int .i64 x.most) := Go.Joins.cell_of_block hown2 2
      obtain ⟨⟨q2, c2⟩, f2, hp⟩ := (HO.out.below b2).put HLL.out hlt vi
      rw [HSET.out] at hp
      have HP := Lib.hid hp
      have HB2 := Lib.hid (bl_set (HB.out.trans (b2.mono HB.out.size)) (g := w1.heap.size) k (Nat.le_refl _) (.int .i64 vi))
      clear hp b2 hown2
      go_wp2_with (fail)
      refine (iwit_any tg (x.least * A) (x.most * A) u).mono ?_
      rintro e w3 ⟨rfl, rfl⟩
      clear n1 n2
      generalize wiI tg (x.least * A) (x.most * A) = t at *
      go_wp2
      go_roundw
      case rel => exact ⟨k + 1, by omega, by go_num, HP.out, HB2.out⟩
      case measure => simp [intOf]; omega
    · obtain rfl : k = f.xs.length := by omega
      rw [List.take_of_length_le (by rw [hlv]; omega), List.drop_of_length_le (by simp), List.append_nil] at ho
      have HO := Lib.hid ho
      clear ho hll M
      go_wp2
      go_ret
      exact ⟨rfl, HO.out, hb⟩
end Go.Proofs.Ytopfiogmbnfjcaa
end

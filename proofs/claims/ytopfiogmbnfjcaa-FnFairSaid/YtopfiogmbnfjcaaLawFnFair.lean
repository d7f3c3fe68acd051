/-
  For every code of bytes, laws.FnFair returns true: equal items get sizes that differ by at most 1; OuterOf, HypOf and ItemOk are the model's; the code reads as before. Conditions: none.
-/
import Derived.Test.YtopfiogmbnfjcaaCodeIn
import Derived.Test.YtopfiogmbnfjcaaItF
import Derived.Test.YtopfiogmbnfjcaaFxQ
import Derived.Test.YtopfiogmbnfjcaaFxR
import Derived.Test.YtopfiogmbnfjcaaItQ
import Derived.BigQuiet
import Derived.Lib.QuietBelow
namespace Go.Proofs.Ytopfiogmbnfjcaa.fnFair
open Go.ChangeShapes Go.WideShapes Go.ChangeAt Go.RowKit
set_option linter.unusedVariables false
set_option linter.unusedSimpArgs false
set_option maxRecDepth 20000

def FRel (w u : World) (m : Nat) (x : It) (v i : Value) (wr : World) : Prop :=
  ∃ k : Nat, k ≤ m ∧ i = .int .i64 k ∧ RowT u.heap.size v (List.replicate k x) wr ∧ Below u.heap.size u wr
set_option maxRecDepth 100000 in
set_option maxHeartbeats 8000000 in
theorem walk (a : Option Addr) (len cap : Nat) (w : World) (hl : len ≤ 1048576) (hc : Code w a len) :
    Calls Try.prog 4 #[.slice a len cap] w fun e w' => e = .returned (.bool true) ∧ Below w.heap.size w w' := by
  obtain ⟨i0, hi, hz0, hz1, hz2⟩ := info_parts info_item
  go_enter Try.func4, Try.ntmps4
  go_wp2_with (first | (go_at_call 16; refine (draw_flexline a len cap w hl hc).mono ?_; rintro e w1 ⟨v1, xs, gap, inner, rfl, hxl, hx, hr1, hgap, hin, b1⟩) | (go_at_call 15; go_in))
  have HXI := Lib.hid (fun x hm => (hx x hm).inr : ∀ x ∈ xs, x.inr)
  obtain ⟨az, cz, rfl, hz⟩ := hr1.slice HXI.out
  have HZ1 := Lib.hid hz
  have B1 := Lib.hid b1
  have hg0 := hgap.1
  have hg1 := hgap.2
  clear hz hr1 b1 hc hx hgap hin
  have k595 := fun W => ihyp ⟨5, 9, 7, 0, 0, 0, 0, false, false⟩ W
  have h9 : hypV ⟨5, 9, 7, 0, 0, 0, 0, false, false⟩ = 9 := by decide
  rw [h9] at k595
  have K595 := Lib.hid k595
  clear k595 h9
  (try dsimp only)
  by_cases h0 : xs.length = 0
  · go_wp2_with (fail)
    refine (K595.out w1).mono ?_
    rintro e w2 ⟨rfl, b2⟩
    have B2 := Lib.hid (B1.out.trans (b2.mono B1.out.size))
    clear b2
    go_wp2
    go_ret
    exact ⟨rfl, B2.out⟩
  · have hpos : 0 < xs.length := by omega
    obtain ⟨b, off, rfl, hbl, hrg⟩ := HZ1.out.look hpos
    have hx0 := HXI.out _ (itD_mem hpos)
    generalize itD xs 0 = x at *
    rw [Nat.zero_mul, Nat.add_zero] at hrg
    have RG := Lib.hid hrg
    obtain ⟨u, eu⟩ : ∃ q, q = w1.alloc (.cells #[.int .i64 x.base, .int .i64 x.least, .int .i64 x.most, .int .i64 x.grow, .int .i64 x.shrink, .int .i64 x.before, .int .i64 x.behind, .bool x.ab, .bool x.ah] 34) := ⟨_, rfl⟩
    have hu : u.heap[w1.heap.size]? = some (.cells x.A 34) := by rw [eu]; exact hp_new w1 _
    have bu : Below w1.heap.size w1 u := eu ▸ (Below.refl _ _).alloc (Nat.le_refl _) _
    have EU := Lib.hid eu
    have HU := Lib.hid hu
    have BU := Lib.hid (B1.out.trans (bu.mono B1.out.size))
    have hlt : w1.heap.size < u.heap.size := hp_lt hu
    clear hrg eu hu bu
    obtain ⟨m, hm⟩ : ∃ m : Nat, (m : Int) = 1 + (len : Int) % 5 := ⟨1 + len % 5, by omega⟩
    have hm1 : 1 ≤ m ∧ m ≤ 5 := by omega
    go_wp2_with (first | (rw [← EU.out]) | ((with_reducible apply list_load_it (x := x)); exact rfl; exact rfl; exact rfl; (with_reducible exact RG.out); simp only [World.size_alloc, Act.put, List.setIfInBounds_toArray, List.set_cons_succ, List.set_cons_zero]) | fail)
    -- printed by gen/genfair.py from here on
    rw [← hm, show ((xs.length : Int) == 0) = false from beq_eq_false_iff_ne.2 (by omega)]
    have HM := Lib.hid hm
    clear hm
    have hr0 : RowT u.heap.size (.slice (some ⟨u.heap.size, 0, none⟩) 0 0) [] (u.alloc (.cells #[] 34)) := World.ownsRow_lit u #[] 0 (Nat.le_refl _) (by unfold maxLen; omega) rfl
    have hu0 : Below u.heap.size u (u.alloc (.cells #[] 34)) := (Below.refl _ _).alloc (Nat.le_refl _) _
    have HR0 := Lib.hid hr0
    have HU0 := Lib.hid hu0
    clear EU hr0 hu0
    generalize u.alloc (.cells #[] 34) = w0 at *
    go_loopw [8, 9] (FRel w u m x) (fun _ i _ => m - (intOf i).toNat)
    case atStart => exact ⟨0, by omega, rfl, HR0.out, HU0.out⟩
    case round =>
      clear HR0 HU0
      obtain ⟨k, hk, rfl, hr, hb⟩ := hrel
      have HR := Lib.hid hr
      have HB := Lib.hid hb
      by_cases hlt : k < m
      · have hki : (k : Int) < (m : Int) := by omega
        have HRG := Lib.hid (show wr.rangeAt w1.heap.size 0 x.L from range_block (hp_below HU.out hb))
        have hsz := hb.size
        clear hr hb
        go_wp2_with (first
          | ((with_reducible apply list_load_it (x := x)); exact rfl; exact rfl; exact rfl; (with_reducible exact HRG.out); simp only [World.size_alloc, Act.put, List.setIfInBounds_toArray, List.set_cons_succ, List.set_cons_zero])
          | (at_builtin; refine wpList_append_own _ rfl _ _ 24 rfl u.heap.size 34 i0 _ 9 64 Try.underlying24 hi hz0 hz1 hz2 rfl (by decide) _ _ _ rfl (World.ownsRow.alloc HR.out _) ⟨wr.heap.size, 0, none⟩ 1 1 x.L rfl rfl it_new x.L_one ?c3 ?c4 ?c5 ?_))
        case c3 => unfold maxLen; rw [List.length_replicate]; omega
        case c4 => rw [List.length_replicate]; omega
        case c5 => simp; omega
        intro v' w3 hown3 hgr _
        have HRA : RowT u.heap.size u8 (List.replicate k x) (wr.alloc (.cells x.A 34)) := World.ownsRow.alloc HR.out _
        have R3 := Lib.hid (show RowT u.heap.size v' (List.replicate (k + 1) x) w3 by rw [show List.replicate (k + 1) x = List.replicate k x ++ [x] from List.replicate_succ']; unfold RowT; rw [cellsI_push, List.length_append, List.length_replicate]; exact hown3)
        have B3 := Lib.hid ((HB.out.alloc HB.out.size (.cells x.A 34)).grown hgr (by simp; omega) (fun g hg => (World.ownsRow.lt HRA g hg).1))
        clear hown3 hgr HRA HRG
        go_wp2
        go_roundw
        case rel => exact ⟨k + 1, by omega, by go_num, R3.out, B3.out⟩
        case measure => simp [intOf]; omega
      · obtain rfl : k = m := by omega
        have hxr : ∀ y ∈ List.replicate k x, y.inr := fun y hy => by rw [(List.mem_replicate.1 hy).2]; exact hx0
        obtain ⟨aq, cs, rfl, hzs⟩ := hr.slice hxr
        have kf := iflexline aq cs (List.replicate k x) gap inner wr hzs (by rw [List.length_replicate]; omega)
        have hzl := fxV_len (List.replicate k x) gap inner
        have HFA := Lib.hid (fxV_all gap inner hxr)
        have HNEAR := Lib.hid (fun j (hj : j < k) => fxV_near (x := x) (gap := gap) (inner := inner) hj (show 0 < k by omega))
        generalize (fxV (List.replicate k x) gap inner).1 = ZS at *
        have HZS := Lib.hid hzs
        rw [List.length_replicate] at *
        have HZL := Lib.hid hzl
        have HUB := Lib.hid (BU.out.trans (hb.mono BU.out.size))
        have HXB := Lib.hid (hp_below HU.out hb)
        clear hr hb hzs hzl HR HB HU
        go_wp2_with (fail)
        refine kf.mono ?_
        rintro e w2 ⟨v2, rfl, r2, b2⟩
        obtain ⟨ai, ci, rfl, hzi⟩ := r2.slice HFA.out
        rw [HZL.out] at *
        have HZI := Lib.hid hzi
        have B2 := Lib.hid (HUB.out.trans (b2.mono HUB.out.size))
        have HZS2 := Lib.hid (HZS.out.below b2)
        have HXB2 := Lib.hid (hp_below HXB.out b2)
        clear kf r2 b2 hzi HZS HUB HXB
        (try dsimp only)
        go_wp2_with (fail)
        go_loopw [11] (fun i wx => ∃ j : Nat, 1 ≤ j ∧ j ≤ k ∧ i = .int .i64 j ∧ Below w2.heap.size w2 wx) (fun i _ => k - (intOf i).toNat)
        case atStart => exact ⟨1, by omega, by omega, rfl, Below.refl _ _⟩
        case round =>
          obtain ⟨j, hj1, hj, rfl, hbw⟩ := hrel
          have HBW := Lib.hid hbw
          have HSZ := Lib.hid hbw.size
          by_cases hlt : j < k
          · obtain ⟨bi, oi, rfl, hbi, hci⟩ := (HZI.out.below hbw).look hlt
            obtain ⟨bi', oi', hba, hbi', hci0⟩ := (HZI.out.below hbw).look (show 0 < k by omega)
            simp at hba
            obtain ⟨rfl, rfl⟩ := hba
            have hn := HNEAR.out j hlt
            have hlo : (0 : Int) ≤ (j : Int) := Int.natCast_nonneg _
            have hhi : (j : Int) < (k : Int) := by omega
            have hk0 : (0 : Int) < (k : Int) := by omega
            rw [Nat.add_zero] at hci0
            generalize ZS.getD j 0 = zj at *
            generalize ZS.getD 0 0 = z0 at *
            have hd : wrap64 (zj - z0) = zj - z0 := IntWalk.wrap64_in _ (by omega)
            obtain ⟨d, ed⟩ : ∃ q, q = zj - z0 := ⟨_, rfl⟩
            rw [← ed] at hd hn
            have ED := Lib.hid ed
            have DI := fun d os => cell_regrown hci d os
            have D0 := fun d os => cell_regrown hci0 d os
            clear hci hci0 hbw ed
            go_wp2_with (fail)
            refine wp_region_quiet_below (by kernel_rfl) (by kernel_rfl) ?_
            repeat (go_big_quiet_step (fail))
            refine wpQuiet_nil ?_
            intro _ hw'
            obtain ⟨⟨dq, osq⟩, hw''⟩ := hw'
            subst hw''
            clear DI D0
            rw [← ED.out]
            (try rw [hd])
            have hd1 : ¬ d < -1 := by omega
            have hd2 : ¬ 1 < d := by omega
            clear hd
            (try dsimp only)
            go_wp2
            go_roundw
            case rel => exact ⟨j + 1, by omega, by omega, by go_num, HBW.out.trans ((below_regrown wr dq osq).mono HSZ.out)⟩
            case measure => simp [intOf]; omega
          · clear HNEAR
            have HB3 := Lib.hid hbw
            have B3 := Lib.hid (B2.out.trans (hbw.mono B2.out.size))
            have HZ3 := Lib.hid (HZS2.out.below hbw)
            have HI3 := Lib.hid (HZI.out.below hbw)
            have HX3 := Lib.hid (hp_below HXB2.out hbw)
            clear hbw HZI HZS2 HXB2 B2
            have ko := iouter_any aq cs (List.replicate k x) ai k ci ZS gap wr HZ3.out (by rw [List.length_replicate]; omega) HI3.out (by omega)
            rw [List.length_replicate] at ko
            have kso := fun W (hb : Below wr.heap.size wr W) => souter_any aq cs (List.replicate k x) ai k ci ZS gap W (HZ3.out.below hb) (by rw [List.length_replicate]; omega) (HI3.out.below hb) (by omega)
            simp only [List.length_replicate] at kso
            generalize ouV (List.replicate k x) ZS gap = ov at *
            have KSO := Lib.hid kso
            clear kso
            go_wp2_with (fail)
            refine ko.mono ?_
            rintro e w4 ⟨rfl, b4⟩
            have B4 := Lib.hid (B3.out.trans (b4.mono B3.out.size))
            have HX4 := hp_below HX3.out b4
            have HB4 := Lib.hid b4
            clear ko b4 B3 HX3
            have kh := ihyp x
            have ksh := shyp x
            have ki := iitok x
            have ksi := sitok x
            have hbb : ∀ q : Bool, (q == q) = true := fun q => by cases q <;> rfl
            have hbx := hbb (itOk x)
            generalize hypV x = hy at *
            generalize itOk x = okx at *
            have KH := Lib.hid kh
            have KSH := Lib.hid ksh
            have KI := Lib.hid ki
            have KSI := Lib.hid ksi
            clear kh ksh ki ksi hbb
            (try dsimp only)
            go_wp2_with (fail)
            refine wp_region_quiet_below (by kernel_rfl) (by kernel_rfl) ?_
            (try simp only [List.append_eq, List.cons_append, List.nil_append])
            repeat (first
              | (go_big_quiet_want; (with_reducible apply quiet_it (x := x)); exact rfl; exact rfl; (with_reducible exact HX4); simp only [Act.put, List.setIfInBounds_toArray, List.set_cons_succ, List.set_cons_zero]; go_big_quiet_on)
              | go_big_quiet_step (first
                | (go_at_call 28; exact Calls.regrown_of (KSO.out _ (HB4.out.trans ((below_regrown w4 _ _).mono HB4.out.size))))
                | (go_at_call_of 26 x; exact Calls.regrown_of (KH.out _))
                | (go_at_call 26; exact Calls.regrown_of (K595.out _))
                | (go_at_call 29; exact Calls.regrown_of (KSH.out _))
                | (go_at_call 30; exact Calls.regrown_of (KI.out _))
                | (go_at_call 31; exact Calls.regrown_of (KSI.out _))
                | fail))
            refine wpQuiet_nil ?_
            intro _ hw'
            obtain ⟨⟨dq, osq⟩, hw''⟩ := hw'
            subst hw''
            clear HX4
            (try dsimp only)
            go_wp2
            go_ret
            exact ⟨rfl, B4.out.trans ((below_regrown w4 dq osq).mono B4.out.size)⟩

set_option maxRecDepth 100000 in
theorem walk_big (a : Option Addr) (len cap : Nat) (w : World) (hl : 1048576 < len) (hm : len ≤ 9223372036854775807) :
    Calls Try.prog 4 #[.slice a len cap] w fun e w' => e = .returned (.bool true) ∧ Below w.heap.size w w' := by
  go_enter Try.func4, Try.ntmps4
  go_wp2
  go_ret
  exact ⟨rfl, Below.refl _ _⟩

theorem laidOut : laidOutB Try.prog = true := by kernel_rfl

theorem contract (H : Type) (enc : TypeId × Value → H) (W : World) (base : Nat) (args : Array Value) (ds gs : List (DataW H)) (before : List MemPlace)
    (hval : ∀ (j : Nat) t v, Try.f4.params[j]? = some t → args[j]? = some v → Value.okWide Try.prog W .any base t v)
    (hW : DataW.Whole enc Try.prog Try.f4.params.toList Rows.fnFairSpec.vars false W args.toList ds gs before) :
    Calls Try.prog 4 args W fun e W' => ∃ v, e = .returned v ∧ Rows.fnFairSpec.post enc Try.prog Try.f4 false true false false W args v W' := by
  have hW' := hW
  obtain ⟨p, q, hA0, hV, rfl, hfz, hnd⟩ := hW
  have hA : DataW.TrodAll enc Try.prog W 0 (fun _ => true) true Try.f4.params.toList args.toList ds p := hA0
  rw [Try.params4] at hA hval
  obtain ⟨v0, vs0, d0, ds0, p0, q0, hargs, rfl, rfl, h0, r0⟩ := trodAll_cons hA
  obtain ⟨rfl, rfl, rfl⟩ := trodAll_nil r0
  obtain rfl : args = #[v0] := by cases args; simp_all
  obtain ⟨rfl, rfl⟩ := trodVars_none hV
  obtain ⟨a, len, cap, rfl⟩ := okWide_slice Try.underlying22 (hval 0 22 v0 rfl rfl)
  have lt0 : ∀ x ∈ p0, x.block < W.heap.size := by obtain ⟨m, hm⟩ := h0; exact DataW.trod_lt m _ _ _ hm
  obtain ⟨hc, hm⟩ := code_of h0
  have all : Calls Try.prog 4 #[.slice a len cap] W fun e w' => e = .returned (.bool true) ∧ Below W.heap.size W w' := by
    by_cases hl : len ≤ 1048576
    · exact walk a len cap W hl hc
    · exact walk_big a len cap W (by omega) hm
  refine all.mono fun e W' ⟨he, bel⟩ => ?_
  subst he
  exact ⟨_, rfl, law_post (pa := _) (pv := []) hW' (trodAll_cons_mk (shut_bool Try.underlying4 _) trodAll_mk0) (trodAll_cons_mk (Below.trod laidOut (by kernel_rfl) (of_decide_eq_true (by kernel_rfl)) h0 bel lt0) trodAll_mk0) rfl rfl bel⟩


set_option maxRecDepth 100000 in
theorem lifted (os : Os) (started : os.Started) (H : Type) (enc : TypeId × Value → H) :
    ReturnsInHanded {} Try.checked os 4 .any (Rows.fnFairSpec.pre6 enc Try.prog Try.f4 Rows.fnFairRow.domain false) (Rows.fnFairSpec.post enc Try.prog Try.f4 false true false false) := by
  refine returnsInHanded_of_change (C := Try.checked) own started (by kernel_rfl) Try.func4
    (ChangeSpec.witness6 (enc := enc) (C := Try.checked) false ⟨#[], #[.slice none 0 0], []⟩ 8 (by kernel_rfl) (by kernel_rfl) (by kernel_rfl) (by kernel_rfl)) ?_
  intro W base args ds gs before hval hW _ _
  exact contract H enc W base args ds gs before hval hW

/-- The given statement. -/
theorem proved : Rows.FnFairSaid :=
  OpenClaim.holds_of_wide 4 Try.f4 rfl rfl rfl rfl rfl rfl rfl ⟨rfl, rfl, rfl, rfl, rfl⟩ rfl rfl rfl rfl rfl (by kernel_rfl) Try.func4 (by kernel_rfl)
    (of_decide_eq_true (by kernel_rfl)) (by unfold Func.isWrapper; first | (rw [if_pos (by decide +kernel)]; kernel_rfl) | (rw [if_neg (by decide +kernel)]; exact ⟨rfl, rfl⟩))
    (fun os started H enc _ => lifted os started H enc)
#print axioms proved
end Go.Proofs.Ytopfiogmbnfjcaa.fnFair

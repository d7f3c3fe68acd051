import Derived.Test.YtopfiogmbnfjcaaZlAC
import Derived.Test.YtopfiogmbnfjcaaZlAF
import Derived.Test.YtopfiogmbnfjcaaZlAI
import Derived.Test.YtopfiogmbnfjcaaZlAT
import Derived.Test.YtopfiogmbnfjcaaZlBW
section
namespace Go.Proofs.Ytopfiogmbnfjcaa.fnLineSizes
open Go.ChangeShapes Go.WideShapes Go.ChangeAt Go.RowKit
set_option linter.unusedVariables false
set_option linter.unusedSimpArgs false
set_option maxRecDepth 20000

theorem sz_two : szA [(⟨60, 0, -1, 1, 0, 0, 0, false, false⟩ : It), (⟨60, 0, -1, 1, 0, 0, 0, false, false⟩ : It)] 0 100 true 100 = [100, 100] := by decide +kernel
set_option maxRecDepth 100000 in
set_option maxHeartbeats 8000000 in
theorem walk (a : Option Addr) (len cap : Nat) (w : World) (hl : len ≤ 1048576) (hc : Code w a len) :
    Calls Try.prog 6 #[.slice a len cap] w fun e w' => e = .returned (.bool true) ∧ Below w.heap.size w w' := by
  obtain ⟨i0, hi0, hz0, hz1, hz2⟩ := info_parts info_intP
  go_enter Try.func6, Try.ntmps6
  go_wp2_with (first | (go_at_call 42; refine (draw_linesizes a len cap w hl hc).mono ?_; rintro e w1 ⟨v1, xs, gap, room, wraps, inner, rfl, hxl, hx, hr1, hgap, hroom, hin, b1⟩) | (go_at_call 15; go_in))
  have HXI := Lib.hid (fun x hm => (hx x hm).inr : ∀ x ∈ xs, x.inr)
  have hcap0 := row_cap hr1
  obtain ⟨az, cz, rfl, hz⟩ := hr1.slice HXI.out
  have hcap : xs.length ≤ cz := hcap0 _ _ _ rfl
  have HZ1 := Lib.hid hz
  have B1 := Lib.hid b1
  have hl13 : xs.length ≤ 1048576 := by omega
  clear hz hr1 b1 hc hx hgap hroom hin hcap0
  have kk := isizes az cz xs gap room wraps inner w1 HZ1.out hl13 hcap
  have hall := szA_all gap room wraps inner HXI.out
  have hlen := szA_len xs gap room wraps inner
  have hdef : szA xs gap room wraps inner = szP xs gap inner (lnK xs gap room wraps xs.length) (lnK xs gap room wraps xs.length).length := rfl
  obtain ⟨ZS, ezs⟩ : ∃ q, q = szA xs gap room wraps inner := ⟨_, rfl⟩
  rw [← ezs] at kk hall hlen hdef
  have HALL := Lib.hid hall
  have HLEN := Lib.hid hlen
  have HDEF := Lib.hid hdef
  clear ezs hall hlen hdef
  (try dsimp only)
  go_wp2_with (fail)
  refine kk.mono ?_
  rintro e y2 ⟨v2, rfl, r2, b2⟩
  have HR2 := Lib.hid r2
  have HZ2 := Lib.hid (HZ1.out.below b2)
  have B2 := Lib.hid (B1.out.trans (b2.mono B1.out.size))
  clear kk r2 b2 HZ1 B1
  have kl := slines az cz xs gap room wraps y2 HZ2.out hl13
  have hpos := lnK_pos (xs := xs) (gap := gap) (room := room) (wraps := wraps) xs.length
  have hch := lnK_chain (xs := xs) (gap := gap) (room := room) (wraps := wraps) xs.length
  have hpl : (lnK xs gap room wraps xs.length).length ≤ 1048576 := Nat.le_trans (lnK_len _) hl13
  unfold lnL at kl
  generalize lnK xs gap room wraps xs.length = PS at *
  have HPOS := Lib.hid hpos
  have HCH := Lib.hid hch
  clear hpos hch
  (try dsimp only)
  go_wp2_with (fail)
  refine kl.mono ?_
  rintro e y3 ⟨v3, rfl, r3, b3⟩
  obtain ⟨a9, c9, e9, hss⟩ := r3.readP
  rw [List.length_map] at e9
  subst e9
  have HSS0 := Lib.hid hss
  have HR3 := Lib.hid (HR2.out.below b3)
  have HZ3 := Lib.hid (HZ2.out.below b3)
  have B3 := Lib.hid (B2.out.trans (b3.mono B2.out.size))
  clear kl r3 b3 hss HR2 HZ2 B2
  have hlit : RowI y3.heap.size (.slice (some ⟨y3.heap.size, 0, none⟩) 0 0) [] (y3.alloc (.cells #[] 3)) := World.ownsRow_lit y3 #[] 0 (Nat.le_refl _) (by unfold maxLen; omega) rfl
  have bu : Below y3.heap.size y3 (y3.alloc (.cells #[] 3)) := (Below.refl _ _).alloc (Nat.le_refl _) _
  have hss2 := HSS0.out.below bu
  obtain ⟨u, eu⟩ : ∃ q, q = y3.alloc (.cells #[] 3) := ⟨_, rfl⟩
  rw [← eu] at hlit bu hss2
  have EU := Lib.hid eu
  have HLIT := Lib.hid hlit
  have BU := Lib.hid bu
  have HSS := Lib.hid hss2
  clear eu hlit bu hss2 HSS0
  (try dsimp only)
  go_wp2_with (rw [← EU.out])
  clear EU
  go_loopw [10, 11] (LnzRel xs gap inner PS a9 y2.heap.size y3.heap.size y3) (fun _ i _ => PS.length - (intOf i).toNat)
  case atStart => exact ⟨0, Nat.zero_le _, rfl, HLIT.out, (fun b hb => Or.inr (by have h : some y3.heap.size = some b := hb; injection h with h; omega)), BU.out, HSS.out, BU.out.size⟩
  case round =>
    clear HLIT BU HSS
    obtain ⟨j, hj, rfl, ho, hap, hb0, hsp, hge⟩ := hrel
    have HO := Lib.hid ho
    have HAP := Lib.hid hap
    have HSP := Lib.hid hsp
    clear hap
    have HB0 := Lib.hid hb0
    by_cases hlt : j < PS.length
    · have hlo : (0 : Int) ≤ (j : Int) := Int.natCast_nonneg _
      have hhi : (j : Int) < (PS.length : Int) := by omega
      obtain ⟨b, off, ak, ck, rfl, hbl, hcell, hi⟩ := hsp.ss.look (k := j) (by rw [List.length_map]; exact hlt)
      rw [lnD_map hlt] at hcell hi
      have hpos := HPOS.out _ (pD_mem hlt)
      obtain ⟨p, ep⟩ : ∃ q, q = pD PS j := ⟨_, rfl⟩
      have HNX := Lib.hid (show szP xs gap inner PS (j + 1) = szP xs gap inner PS j ++ (fxV (segT xs p.1 p.2) gap inner).1 by rw [ep]; rfl)
      have hlj := szP_le (gap := gap) (inner := inner) HCH.out (show j ≤ PS.length by omega)
      have hlj1 := szP_le (gap := gap) (inner := inner) HCH.out (show j + 1 ≤ PS.length by omega)
      rw [← ep] at hcell hi hpos
      rw [lineI_len] at hcell hi
      rw [HNX.out, List.length_append] at hlj1
      have HLJ := Lib.hid hlj1
      clear ep hsp ho hlj1
      go_wp2_with (fail)
      refine (slit az cz xs ak (p.2 - p.1) ck (lineI p) wr (HZ3.out.below hb0) hl13 hi (by omega)).mono ?_
      rintro e w2 ⟨v2, rfl, r2, b2⟩
      rw [liV_line (s := p.1) (t := p.2) (by omega) (by omega)] at r2
      have hsi : ∀ x ∈ segT xs p.1 p.2, x.inr := fun x hx => HXI.out x (segT_mem x hx)
      obtain ⟨a2, c2, rfl, hz2'⟩ := r2.slice hsi
      have hsl : (segT xs p.1 p.2).length = p.2 - p.1 := segT_len (by omega)
      have kf := sflexline a2 c2 (segT xs p.1 p.2) gap inner w2 hz2' (by rw [hsl]; omega)
      have hfl := fxV_len (segT xs p.1 p.2) gap inner
      have HFA := Lib.hid (fxV_all gap inner hsi)
      rw [hsl] at hfl kf
      rw [hsl]
      generalize (fxV (segT xs p.1 p.2) gap inner).1 = FS at *
      have B2 := Lib.hid (HSP.out.below b2)
      have hge2 := Nat.le_trans hge b2.size
      have C2 := Lib.hid (HB0.out.trans (b2.mono HB0.out.size))
      have O2 := Lib.hid (HO.out.below b2)
      have KF := Lib.hid kf
      have HFL := Lib.hid hfl
      clear r2 b2 hz2' kf hfl hsi hsl hi HO
      (try dsimp only)
      go_wp2_with (fail)
      refine KF.out.mono ?_
      rintro e w3 ⟨v3, rfl, r3, b3⟩
      obtain ⟨a3, c3, rfl, hi3⟩ := r3.slice HFA.out
      rw [HFL.out] at hi3 ⊢
      obtain ⟨b3', o3, rfl, hbl3, _⟩ := hi3.look (k := 0) (by omega)
      have HNW := Lib.hid (news_of hi3 HFL.out)
      have B3 := Lib.hid (B2.out.below b3)
      have hge3 := Nat.le_trans hge2 b3.size
      have C3 := Lib.hid (C2.out.trans (b3.mono C2.out.size))
      have O3 := Lib.hid (O2.out.below b3)
      have hll := HLJ.out
      rw [HFL.out] at hll
      clear KF b3 hcell B2 C2 O2 r3 hi3
      go_wp2_with (at_builtin; refine wpList_append_own_at _ rfl _ _ 27 rfl y3.heap.size 3 i0 (.int .i64 0) 1 8 Try.underlying27 hi0 hz0 hz1 hz2 rfl (by decide) _ _ _ rfl O3.out ⟨b3', o3, none⟩ (p.2 - p.1) c3 (FS.map (Value.int .i64)) rfl ?c1 HNW.out ?c2 ?c3 ?c4 ?c5 ?_)
      case c1 => rw [List.length_map, HFL.out]; omega
      case c2 =>
        intro u hu
        obtain ⟨z, _, rfl⟩ := List.mem_map.1 hu
        rfl
      case c3 => unfold maxLen; omega
      case c4 => omega
      case c5 => exact C3.out.size
      intro v' w4 hown4 hgr _ hloc
      have R4 := Lib.hid (show RowI y3.heap.size v' (szP xs gap inner PS (j + 1)) w4 by rw [HNX.out]; unfold RowI; rw [List.length_append, List.map_append, HFL.out]; exact hown4)
      have C4 := Lib.hid (C3.out.grown hgr C3.out.size (fun g hg => (World.ownsRow.lt O3.out g hg).1))
      have B4 := Lib.hid (B3.out.kept hgr (fun b hb h => by have := HAP.out b hb; omega))
      have A4 := Lib.hid (show ∀ b, v'.ownBlock = some b → b < y2.heap.size ∨ y3.heap.size ≤ b from fun b hb => by
        rcases hloc with e | e
        · exact HAP.out b (e.symm.trans hb)
        · rw [e] at hb; injection hb with hb; omega)
      have hge4 := Nat.le_trans hge3 hgr.size
      clear hown4 hgr hloc
      go_wp2
      go_roundw
      case rel => exact ⟨j + 1, by omega, by go_num, R4.out, A4.out, C4.out, B4.out, hge4⟩
      case measure => simp [intOf]; omega
    · obtain rfl : j = PS.length := by omega
      rw [← HDEF.out] at ho
      have HO2 := Lib.hid ho
      have HR4 := Lib.hid (HR3.out.below hb0)
      have B4 := Lib.hid (B3.out.trans (hb0.mono B3.out.size))
      clear hsp ho HO HSP HAP HB0 hb0 HCH HPOS HDEF
      have h1 := hp_new wr (.cells #[.int .i64 60, .int .i64 0, .int .i64 (-1), .int .i64 1, .int .i64 0, .int .i64 0, .int .i64 0, .bool false, .bool false] 34)
      have RG := Lib.hid (show (wr.alloc (.cells #[.int .i64 60, .int .i64 0, .int .i64 (-1), .int .i64 1, .int .i64 0, .int .i64 0, .int .i64 0, .bool false, .bool false] 34)).rangeAt wr.heap.size 0 (⟨60, 0, -1, 1, 0, 0, 0, false, false⟩ : It).L from range_block h1)
      have bv : Below wr.heap.size wr (wr.alloc (.cells #[.int .i64 60, .int .i64 0, .int .i64 (-1), .int .i64 1, .int .i64 0, .int .i64 0, .int .i64 0, .bool false, .bool false] 34)) := (Below.refl _ _).alloc (Nat.le_refl _) _
      obtain ⟨v, ev⟩ : ∃ q, q = wr.alloc (.cells #[.int .i64 60, .int .i64 0, .int .i64 (-1), .int .i64 1, .int .i64 0, .int .i64 0, .int .i64 0, .bool false, .bool false] 34) := ⟨_, rfl⟩
      rw [← ev] at RG bv
      have EV := Lib.hid ev
      have HR5 := Lib.hid (HR4.out.below bv)
      have HO5 := Lib.hid (HO2.out.below bv)
      have B5 := Lib.hid (B4.out.trans (bv.mono B4.out.size))
      clear h1 bv ev HR4 HO2 B4
      (try dsimp only)
      go_wp2_with (rw [← EV.out])
      clear EV
      refine (sameR_any _ _ _ _ ZS v HALL.out (by rw [HLEN.out]; omega) HR5.out HO5.out).mono ?_
      rintro e w6 ⟨rfl, b6⟩
      have RG6 := Lib.hid (rg_below RG.out b6)
      have HR6 := Lib.hid (HR5.out.below b6)
      have B6 := Lib.hid (B5.out.trans (b6.mono B5.out.size))
      clear b6 HR5 HO5 B5 RG
      obtain ⟨aq, cq, rfl, _⟩ := HR6.out.slice HALL.out
      rw [HLEN.out]
      have hl3 := lit_its w6 [(⟨60, 0, -1, 1, 0, 0, 0, false, false⟩ : It), (⟨60, 0, -1, 1, 0, 0, 0, false, false⟩ : It)] 34 (by intro x hx; simp at hx; subst hx; simp only [It.inr, I64]; omega)
      have hb3 : Below w6.heap.size w6 (w6.alloc (.cells (cellsI [(⟨60, 0, -1, 1, 0, 0, 0, false, false⟩ : It), (⟨60, 0, -1, 1, 0, 0, 0, false, false⟩ : It)]).toArray 34)) := (Below.refl _ _).alloc (Nat.le_refl _) _
      have kt := isizes _ 2 _ 0 100 true 100 _ hl3 (by decide) (by decide)
      rw [sz_two] at kt
      have B7 := Lib.hid (B6.out.trans (hb3.mono B6.out.size))
      clear hl3 hb3 B6 HR6
      (try dsimp only)
      go_wp2_with (first | ((with_reducible apply list_load_git (x := (⟨60, 0, -1, 1, 0, 0, 0, false, false⟩ : It))); exact rfl; exact rfl; exact rfl; (with_reducible exact RG6.out); simp only [World.size_alloc, Act.put, List.setIfInBounds_toArray, List.set_cons_succ, List.set_cons_zero]) | fail)
      refine kt.mono ?_
      rintro e w8 ⟨v8, rfl, r8, b8⟩
      have HR8 := Lib.hid r8
      have B8 := Lib.hid (B7.out.trans (b8.mono B7.out.size))
      clear kt r8 b8 B7 RG6
      have hr33 : RowI w8.heap.size (.slice (some ⟨w8.heap.size, 0, none⟩) 2 2) [100, 100] (w8.alloc (.cells #[.int .i64 100, .int .i64 100] 3)) := World.ownsRow_lit w8 #[.int .i64 100, .int .i64 100] 2 (Nat.le_refl _) (by unfold maxLen; omega) rfl
      have hb33 : Below w8.heap.size w8 (w8.alloc (.cells #[.int .i64 100, .int .i64 100] 3)) := (Below.refl _ _).alloc (Nat.le_refl _) _
      have ks := sameR_any _ _ v8 _ [100, 100] _ (by intro z hz; simp at hz; omega) (by decide) (HR8.out.below hb33) hr33
      have B9 := Lib.hid (B8.out.trans (hb33.mono B8.out.size))
      have KS := Lib.hid ks
      clear hr33 hb33 ks HR8 B8
      (try dsimp only)
      go_wp2_with (fail)
      refine KS.out.mono ?_
      rintro e w10 ⟨rfl, b10⟩
      have B10 := Lib.hid (B9.out.trans (b10.mono B9.out.size))
      clear KS b10
      (try dsimp only)
      go_wp2
      go_ret
      exact ⟨rfl, B10.out⟩

set_option maxRecDepth 100000 in
theorem walk_big (a : Option Addr) (len cap : Nat) (w : World) (hl : 1048576 < len) (hm : len ≤ 9223372036854775807) :
    Calls Try.prog 6 #[.slice a len cap] w fun e w' => e = .returned (.bool true) ∧ Below w.heap.size w w' := by
  go_enter Try.func6, Try.ntmps6
  go_wp2
  go_ret
  exact ⟨rfl, Below.refl _ _⟩

theorem laidOut : laidOutB Try.prog = true := by kernel_rfl

theorem contract (H : Type) (enc : TypeId × Value → H) (W : World) (base : Nat) (args : Array Value) (ds gs : List (DataW H)) (before : List MemPlace)
    (hval : ∀ (j : Nat) t v, Try.f6.params[j]? = some t → args[j]? = some v → Value.okWide Try.prog W .any base t v)
    (hW : DataW.Whole enc Try.prog Try.f6.params.toList Rows.fnLineSizesSpec.vars false W args.toList ds gs before) :
    Calls Try.prog 6 args W fun e W' => ∃ v, e = .returned v ∧ Rows.fnLineSizesSpec.post enc Try.prog Try.f6 false true false false W args v W' := by
  have hW' := hW
  obtain ⟨p, q, hA0, hV, rfl, hfz, hnd⟩ := hW
  have hA : DataW.TrodAll enc Try.prog W 0 (fun _ => true) true Try.f6.params.toList args.toList ds p := hA0
  rw [Try.params6] at hA hval
  obtain ⟨v0, vs0, d0, ds0, p0, q0, hargs, rfl, rfl, h0, r0⟩ := trodAll_cons hA
  obtain ⟨rfl, rfl, rfl⟩ := trodAll_nil r0
  obtain rfl : args = #[v0] := by cases args; simp_all
  obtain ⟨rfl, rfl⟩ := trodVars_none hV
  obtain ⟨a, len, cap, rfl⟩ := okWide_slice Try.underlying22 (hval 0 22 v0 rfl rfl)
  have lt0 : ∀ x ∈ p0, x.block < W.heap.size := by obtain ⟨m, hm⟩ := h0; exact DataW.trod_lt m _ _ _ hm
  obtain ⟨hc, hm⟩ := code_of h0
  have all : Calls Try.prog 6 #[.slice a len cap] W fun e w' => e = .returned (.bool true) ∧ Below W.heap.size W w' := by
    by_cases hl : len ≤ 1048576
    · exact walk a len cap W hl hc
    · exact walk_big a len cap W (by omega) hm
  refine all.mono fun e W' ⟨he, bel⟩ => ?_
  subst he
  exact ⟨_, rfl, law_post (pa := _) (pv := []) hW' (trodAll_cons_mk (shut_bool Try.underlying4 _) trodAll_mk0) (trodAll_cons_mk (Below.trod laidOut (by kernel_rfl) (of_decide_eq_true (by kernel_rfl)) h0 bel lt0) trodAll_mk0) rfl rfl bel⟩


set_option maxRecDepth 100000 in
theorem lifted (os : Os) (started : os.Started) (H : Type) (enc : TypeId × Value → H) :
    ReturnsInHanded {} Try.checked os 6 .any (Rows.fnLineSizesSpec.pre6 enc Try.prog Try.f6 Rows.fnLineSizesRow.domain false) (Rows.fnLineSizesSpec.post enc Try.prog Try.f6 false true false false) := by
  refine returnsInHanded_of_change (C := Try.checked) own started (by kernel_rfl) Try.func6
    (ChangeSpec.witness6 (enc := enc) (C := Try.checked) false ⟨#[], #[.slice none 0 0], []⟩ 8 (by kernel_rfl) (by kernel_rfl) (by kernel_rfl) (by kernel_rfl)) ?_
  intro W base args ds gs before hval hW _ _
  exact contract H enc W base args ds gs before hval hW

/-- The given statement. -/
theorem proved : Rows.FnLineSizesSaid :=
  OpenClaim.holds_of_wide 6 Try.f6 rfl rfl rfl rfl rfl rfl rfl ⟨rfl, rfl, rfl, rfl, rfl⟩ rfl rfl rfl rfl rfl (by kernel_rfl) Try.func6 (by kernel_rfl)
    (of_decide_eq_true (by kernel_rfl)) (by unfold Func.isWrapper; first | (rw [if_pos (by decide +kernel)]; kernel_rfl) | (rw [if_neg (by decide +kernel)]; exact ⟨rfl, rfl⟩))
    (fun os started H enc _ => lifted os started H enc)
#print axioms proved
end Go.Proofs.Ytopfiogmbnfjcaa.fnLineSizes
end

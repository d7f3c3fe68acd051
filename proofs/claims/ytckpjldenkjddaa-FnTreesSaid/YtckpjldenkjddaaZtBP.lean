import Derived.Test.YtckpjldenkjddaaZtBO
section
namespace Go.Proofs.Ytckpjldenkjddaa
open Go.ChangeShapes Go.WideShapes Go.ChangeAt Go.RowKit
set_option linter.unusedSimpArgs false
set_option linter.unusedVariables false

theorem VOk.sz {k n : Int} (h : VOk k n) : sSzV k n = true := by
  unfold VOk at h
  unfold sSzV okV
  rcases h with ⟨rfl, rfl⟩ | ⟨rfl, h1, h2⟩ | ⟨rfl, h1, h2⟩
  · rfl
  · simp; omega
  · simp; omega
theorem SVOk.okV {k n : Int} (h : SVOk k n) : okV k n = true := by
  rcases h with h | ⟨rfl, rfl⟩
  · have := h.sz
    unfold sSzV at this
    exact (Bool.and_eq_true_iff.1 this).1
  · rfl
theorem FOk.ok {f : Nat → Int} (h : FOk f) : styOk f = true := by
  have o := fun k hk => h.one k hk
  have c0 := o 0 (by unfold singleS; omega)
  have c1 := o 1 (by unfold singleS; omega)
  have c2 := o 2 (by unfold singleS; omega)
  have c3 := o 3 (by unfold singleS; omega)
  have c4 := o 4 (by unfold singleS; omega)
  have c5 := o 5 (by unfold singleS; omega)
  have c8 := o 8 (by unfold singleS; omega)
  have c9 := o 9 (by unfold singleS; omega)
  have c10 := o 10 (by unfold singleS; omega)
  have c25 := o 25 (by unfold singleS; omega)
  have e : ∀ i, 50 ≤ i → i < 58 → inI (f i) = true := fun i h1 h2 => by
    have := o i (by unfold singleS; omega)
    have l1 : loS i = 0 := by unfold loS; rw [if_neg (by omega), if_neg (by omega)]
    have l2 : hiS i = 64 := by unfold hiS; rw [if_neg (by omega), if_neg (by omega), if_neg (by omega), if_neg (by omega), if_neg (by omega), if_neg (by omega), if_neg (by omega), if_neg (by omega), if_neg (by omega), if_pos (by omega)]
    unfold inI
    exact decide_eq_true (by omega)
  have c58 := o 58 (by unfold singleS; omega)
  have c59 := o 59 (by unfold singleS; omega)
  have h1 : sChV f = true := by
    unfold sChV inB
    simp [loS, hiS] at c0 c1 c2 c3 c4 c5
    simp [c0, c1, c2, c3, c4, c5]
  have h2 : sNmV f = true := by
    unfold sNmV inB
    simp [loS, hiS] at c8 c9 c10 c25
    simp [c8, c9, c10, c25]
  have h3 : sGpV f = true := by
    unfold sGpV inB
    simp [loS, hiS] at c58 c59
    simp; omega
  have h4 : sSiV f = true := by
    unfold sSiV
    have a0 := (h.sz 0 (by omega)).sz
    have a1 := (h.sz 1 (by omega)).sz
    have a2 := (h.sz 2 (by omega)).sz
    have a3 := (h.sz 3 (by omega)).sz
    have a4 := (h.sz 4 (by omega)).sz
    have a5 := (h.sz 5 (by omega)).sz
    have a6 := (h.sz 6 (by omega)).sz
    simp at a0 a1 a2 a3 a4 a5 a6
    rw [a0, a1, a2, a3, a4, a5, a6]; rfl
  have h5 : sEdV f = true := by
    have a : ∀ q, q < 12 → okV (f (26 + 2 * q)) (f (27 + 2 * q)) = true := fun q hq => (h.sd q hq).okV
    have a0 := a 0 (by omega)
    have a1 := a 1 (by omega)
    have a2 := a 2 (by omega)
    have a3 := a 3 (by omega)
    have a4 := a 4 (by omega)
    have a5 := a 5 (by omega)
    have a6 := a 6 (by omega)
    have a7 := a 7 (by omega)
    have a8 := a 8 (by omega)
    have a9 := a 9 (by omega)
    have a10 := a 10 (by omega)
    have a11 := a 11 (by omega)
    simp at a0 a1 a2 a3 a4 a5 a6 a7 a8 a9 a10 a11
    unfold sEdV sd1 sd2 ed1 ed2 sdOk edOk
    rw [a0, a1, a2, a3, a4, a5, a6, a7, a8, a9, a10, a11, e 50 (by omega) (by omega), e 51 (by omega) (by omega), e 52 (by omega) (by omega), e 53 (by omega) (by omega), e 54 (by omega) (by omega), e 55 (by omega) (by omega), e 56 (by omega) (by omega), e 57 (by omega) (by omega)]; rfl
  unfold styOk
  rw [h1, h2, h3, h4, h5]; rfl
theorem loS_ge (k : Nat) : -1000 ≤ loS k := by
  unfold loS
  split
  · omega
  · split <;> omega
theorem hiS_le (k : Nat) : hiS k ≤ 6400 := by
  unfold hiS
  split
  · omega
  · split
    · omega
    · split
      · omega
      · split
        · omega
        · split
          · omega
          · split
            · omega
            · split
              · omega
              · split
                · omega
                · split
                  · omega
                  · split <;> omega
theorem FOk.inr {f : Nat → Int} (h : FOk f) : InR f := fun i => by
  by_cases h1 : singleS i
  · have := h.one i h1
    have := loS_ge i
    have := hiS_le i
    omega
  · unfold singleS at h1
    by_cases h2 : i < 25
    · have h3 := (h.sz ((i - 11) / 2) (by omega)).isI
      unfold IsI at h3
      rcases Nat.mod_two_eq_zero_or_one (i - 11) with e | e
      · rw [show 11 + 2 * ((i - 11) / 2) = i by omega] at h3; exact h3.1
      · rw [show 12 + 2 * ((i - 11) / 2) = i by omega] at h3; exact h3.2
    · by_cases h4 : i < 50
      · have h3 := (h.sd ((i - 26) / 2) (by omega)).isI
        unfold IsI at h3
        rcases Nat.mod_two_eq_zero_or_one (i - 26) with e | e
        · rw [show 26 + 2 * ((i - 26) / 2) = i by omega] at h3; exact h3.1
        · rw [show 27 + 2 * ((i - 26) / 2) = i by omega] at h3; exact h3.2
      · rw [h.far i (by omega)]; omega
theorem InR.upd {f : Nat → Int} (h : InR f) (k : Nat) {z : Int} (hz : IsI z) : InR (upd f k z) := fun i => by
  unfold Go.Proofs.Ytckpjldenkjddaa.upd
  split
  · exact hz
  · exact h i
theorem InR.updL {f : Nat → Int} (h : InR f) (o : Nat) {zs : List Int} (hz : RA zs) : InR (updL f o zs) := fun i => by
  rw [updL_at]
  split
  · exact hz _
  · exact h i
/-- What a draw of any style leaves. -/
def StyInP (cb : Nat) (a : Option Addr) (len cap : Nat) (w : World) (e : Ending) (w' : World) : Prop :=
  ∃ f : Nat → Int, e = .returned (.agg (sCells f)) ∧ InR f ∧ Cur cb a len cap w' ∧ w.grownBy w' (some cb)
def YEI (w : World) (cb : Nat) (a : Option Addr) (len cap gr gs : Nat) (wr : World) : Prop := ∃ f, YS w cb a len cap gr gs f wr ∧ InR f

set_option maxRecDepth 100000 in
set_option maxHeartbeats 8000000 in
theorem anysty_in (cb : Nat) (a : Option Addr) (len cap : Nat) (w : World) (hcb : cb < w.heap.size) (hlt : 0 < len → ∀ b off, a = some ⟨b, off, none⟩ → b < w.heap.size) (hc : Cur cb a len cap w) :
    Calls Try.prog 85 #[.pointer (some ⟨cb, 0, none⟩)] w (StyInP cb a len cap w) := by
  have hr0 := hp_new w (.cells (sCells fun _ => 0) 41)
  have g0 := gr_new w (.cells (sCells fun _ => 0) 41) cb
  have c0 := hc.kept hcb (World.grownBy_alloc w (.cells (sCells fun _ => 0) 41) none) (fun k hk => by cases hk)
  have l0 : w.heap.size < (w.alloc (.cells (sCells fun _ => 0) 41)).heap.size := by simp
  obtain ⟨u, eu⟩ : ∃ u, u = w.alloc (.cells (sCells fun _ => 0) 41) := ⟨_, rfl⟩
  rw [← eu] at hr0 g0 c0 l0
  have EU := Lib.hid eu
  clear eu
  go_enter Try.func85, Try.ntmps85
  go_wp2_with (first | (rw [← EU.out]) | ((with_reducible apply list_alloc_sty); exact rfl; exact rfl; simp only [World.size_alloc, Act.put, List.setIfInBounds_toArray, List.set_cons_succ, List.set_cons_zero]))
  clear EU
  refine (drawsty_ok cb a len cap u (by omega) (fun h b off e => by have := hlt h b off e; omega) c0).mono ?_
  rintro e w0 ⟨f0, rfl, hv0, c1, b0⟩
  have V0 := Lib.hid hv0.inr
  clear hv0
  have hr1 := blk_kept hr0 b0 (by omega)
  have g1 := gr_trans g0 b0
  have l1 : w.heap.size < w0.heap.size := Nat.lt_of_lt_of_le l0 b0.size
  have WW := Lib.hid (show SDw w cb a len w.heap.size w0.heap.size from ⟨hcb, Nat.le_refl _, by omega, by omega, hlt⟩)
  clear hr0 g0 c0 l0 b0 hc
  (try dsimp only)
  (try dsimp only)
  go_wp2_with ((with_reducible apply list_new_sty (f := f0)); exact rfl; exact rfl; exact rfl; exact rfl; exact rfl; exact rfl; exact rfl; intro u0 bu0 hu0; have k0 : YS w cb a len cap w.heap.size w0.heap.size f0 u0 := ⟨hu0, hp_below hr1 bu0, c1.kept (by have := g1.size; omega) (gr_below bu0 none) (fun k hk => by cases hk), gr_trans g1 (gr_below bu0 (some cb))⟩; clear hu0 bu0; simp only [World.size_alloc, Act.put, List.setIfInBounds_toArray, List.set_cons_succ, List.set_cons_zero])
  clear hr1 c1 g1 hlt
  generalize w0.heap.size = gs at *
  obtain ⟨gr, hgr⟩ : ∃ gr, gr = w.heap.size := ⟨_, rfl⟩
  rw [← hgr] at WW k0 ⊢
  clear hgr
  refine (pick_r (-1001) 9223372036854775807 (by decide) (by decide) [0, -1, 7, 1001, -1001, 6401, 1048577, 9223372036854775807] 8 rfl (by omega) (by omega) (by decide) cb a len cap _ (k0.lt WW.out) k0.cur).mono ?_
  rintro e w1 ⟨x1, rfl, p1, q1, c1, g1⟩
  have k1 := k0.kept WW.out g1 c1
  clear k0 g1 c1
  (try dsimp only)
  go_wp2_with (fail)
  refine (below_pos 24 cb a len cap _ (by omega) (by omega) k1.cur).mono ?_
  rintro e w2 ⟨y2, rfl, p2, q2, c2, g2, _⟩
  have k2 := k1.kept WW.out g2 c2
  clear k1 g2 c2
  (try dsimp only)
  go_upto_block 0 with (fail)
  go_cut [] from 5 (fun wx => YEI w cb a len cap gr gs wx)
  case first =>
    by_cases e0 : y2 = 0
    ·
      subst e0
      have z3 := sty_cell k2.here 0 (by decide)
      have F3 := sty_free k2.here 0
      (try dsimp only)
      go_wp2_with (fail)
      go_meet
      case rel => exact ⟨_, k2.store WW.out 0 x1 _ (by decide) (sCell_int _ (by decide)), V0.out.upd 0 (by unfold IsI; omega)⟩
    by_cases e1 : y2 = 1
    ·
      subst e1
      have z4 := sty_cell k2.here 3 (by decide)
      have F4 := sty_free k2.here 3
      (try dsimp only)
      go_wp2_with (fail)
      go_meet
      case rel => exact ⟨_, k2.store WW.out 3 x1 _ (by decide) (sCell_int _ (by decide)), V0.out.upd 3 (by unfold IsI; omega)⟩
    by_cases e2 : y2 = 2
    ·
      subst e2
      have z5 := sty_cell k2.here 4 (by decide)
      have F5 := sty_free k2.here 4
      (try dsimp only)
      go_wp2_with (fail)
      go_meet
      case rel => exact ⟨_, k2.store WW.out 4 x1 _ (by decide) (sCell_int _ (by decide)), V0.out.upd 4 (by unfold IsI; omega)⟩
    by_cases e3 : y2 = 3
    ·
      subst e3
      have z6 := sty_cell k2.here 9 (by decide)
      have F6 := sty_free k2.here 9
      (try dsimp only)
      go_wp2_with (fail)
      go_meet
      case rel => exact ⟨_, k2.store WW.out 9 x1 _ (by decide) (sCell_int _ (by decide)), V0.out.upd 9 (by unfold IsI; omega)⟩
    by_cases e4 : y2 = 4
    ·
      subst e4
      have z7 := sty_cell k2.here 8 (by decide)
      have F7 := sty_free k2.here 8
      (try dsimp only)
      go_wp2_with (fail)
      go_meet
      case rel => exact ⟨_, k2.store WW.out 8 x1 _ (by decide) (sCell_int _ (by decide)), V0.out.upd 8 (by unfold IsI; omega)⟩
    by_cases e5 : y2 = 5
    ·
      subst e5
      have z8 := sty_cell k2.here 25 (by decide)
      have F8 := sty_free k2.here 25
      (try dsimp only)
      go_wp2_with (fail)
      go_meet
      case rel => exact ⟨_, k2.store WW.out 25 x1 _ (by decide) (sCell_int _ (by decide)), V0.out.upd 25 (by unfold IsI; omega)⟩
    by_cases e6 : y2 = 6
    ·
      subst e6
      (try dsimp only)
      go_wp2_with (fail)
      refine (anyval cb a len cap _ (k2.lt WW.out) (k2.code WW.out) k2.cur).mono ?_
      rintro e w10 ⟨x10, y10, rfl, ix10, iy10, c10, g10⟩
      have k10 := k2.kept WW.out g10 c10
      clear k2 g10 c10
      (try dsimp only)
      go_wp2_with ((with_reducible apply list_put_ys [x10, y10] 13); exact rfl; exact rfl; exact rfl; exact rfl; exact val_size2; (simp); exact WW.out; exact k10; intro u10 m10; simp only [World.size_alloc, Act.put, List.setIfInBounds_toArray, List.set_cons_succ, List.set_cons_zero])
      clear k10
      go_meet
      case rel => exact ⟨_, m10, V0.out.updL 13 (.cons ix10 (.cons iy10 ra_nil))⟩
    by_cases e7 : y2 = 7
    ·
      subst e7
      (try dsimp only)
      go_wp2_with (fail)
      refine (anysid_in cb a len cap _ (k2.lt WW.out) (k2.code WW.out) k2.cur).mono ?_
      rintro e w12 ⟨x12_0, x12_1, x12_2, x12_3, x12_4, x12_5, x12_6, x12_7, x12_8, x12_9, x12_10, x12_11, rfl, ra12, c12, g12⟩
      have k12 := k2.kept WW.out g12 c12
      clear k2 g12 c12
      (try dsimp only)
      go_wp2_with ((with_reducible apply list_put_ys [x12_0, x12_1, x12_2, x12_3, x12_4, x12_5, x12_6, x12_7, x12_8, x12_9, x12_10, x12_11] 26); exact rfl; exact rfl; exact rfl; exact rfl; exact sid_size12; (simp); exact WW.out; exact k12; intro u12 m12; simp only [World.size_alloc, Act.put, List.setIfInBounds_toArray, List.set_cons_succ, List.set_cons_zero])
      clear k12
      go_meet
      case rel => exact ⟨_, m12, V0.out.updL 26 ra12⟩
    by_cases e8 : y2 = 8
    ·
      subst e8
      (try dsimp only)
      go_wp2_with (fail)
      refine (anyedg_in cb a len cap _ (k2.lt WW.out) (k2.code WW.out) k2.cur).mono ?_
      rintro e w14 ⟨x14_0, x14_1, x14_2, x14_3, rfl, ra14, c14, g14⟩
      have k14 := k2.kept WW.out g14 c14
      clear k2 g14 c14
      (try dsimp only)
      go_wp2_with ((with_reducible apply list_put_ys [x14_0, x14_1, x14_2, x14_3] 50); exact rfl; exact rfl; exact rfl; exact rfl; exact edg_size4; (simp); exact WW.out; exact k14; intro u14 m14; simp only [World.size_alloc, Act.put, List.setIfInBounds_toArray, List.set_cons_succ, List.set_cons_zero])
      clear k14
      go_meet
      case rel => exact ⟨_, m14, V0.out.updL 50 ra14⟩
    by_cases e9 : y2 = 9
    ·
      subst e9
      have z15 := sty_cell k2.here 58 (by decide)
      have F15 := sty_free k2.here 58
      (try dsimp only)
      go_wp2_with (fail)
      go_meet
      case rel => exact ⟨_, k2.store WW.out 58 x1 _ (by decide) (sCell_int _ (by decide)), V0.out.upd 58 (by unfold IsI; omega)⟩
    by_cases e10 : y2 = 10
    ·
      subst e10
      (try dsimp only)
      go_wp2_with ((with_reducible apply list_put_ys [1, -1] 23); exact rfl; exact rfl; exact rfl; exact rfl; exact val_size2; (simp); exact WW.out; exact k2; intro u16 m16; simp only [World.size_alloc, Act.put, List.setIfInBounds_toArray, List.set_cons_succ, List.set_cons_zero])
      go_meet
      case rel => exact ⟨_, m16, V0.out.updL 23 (.cons (by unfold IsI; omega) (.cons (by unfold IsI; omega) ra_nil))⟩
    (try dsimp only)
    go_wp2_with (fail)
    go_meet
    case rel => exact ⟨_, k2, V0.out⟩
  case rest =>
    clear k2
    obtain ⟨f9, k9, hv9⟩ := hcut
    have V9 := Lib.hid hv9
    clear hv9
    have h9 := Lib.hid (setRow_heap _ _ _ (sCells f9) _ _ k9.res)
    have q9 := k9.fin WW.out
    (try dsimp only)
    go_wp2_with (first | ((with_reducible apply list_load_sty); exact rfl; exact rfl; exact rfl; (with_reducible exact k9.here); simp only [World.size_alloc, Act.put, List.setIfInBounds_toArray, List.set_cons_succ, List.set_cons_zero]) | ((with_reducible apply list_store_sty); exact rfl; exact rfl; exact rfl; exact rfl; (with_reducible exact k9.res); simp only [World.size_alloc, Act.put, List.setIfInBounds_toArray, List.set_cons_succ, List.set_cons_zero]))
    exact bodyPost_ret (results_sty rfl rfl h9.out) rfl ⟨_, rfl, V9.out, q9.1, q9.2⟩
end Go.Proofs.Ytckpjldenkjddaa
end

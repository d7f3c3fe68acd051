import Derived.Test.YtopfiogmbnfjcaaZlBB
section
namespace Go.Proofs.Ytopfiogmbnfjcaa
open Go.ChangeShapes Go.WideShapes Go.ChangeAt Go.RowKit
set_option linter.unusedVariables false
set_option linter.unusedSimpArgs false
set_option maxRecDepth 8000

theorem Fx.wok {f : Fx} {hs : List Bool} (hok : itsOk f.xs = true) : wokI (f.wL hs) = true := decide_eq_true ⟨by rw [Fx.wL_len]; have := Fx.n12 hok; omega, by rw [Fx.wL_len]; exact Fx.wL_ok hok⟩
theorem Fx.sh_len {f : Fx} {hs : List Bool} {zs : List Int} (hok : itsOk f.xs = true) : (shrL (f.fr zs) (f.wL hs)).length = f.xs.length := (shrL_len (Fx.wok hok)).trans Fx.wL_len
theorem Fx.sh_at {f : Fx} {hs : List Bool} {zs : List Int} (hok : itsOk f.xs = true) {i : Nat} (hi : i < f.xs.length) : (shrL (f.fr zs) (f.wL hs)).getD i 0 = shrI (f.fr zs) (f.wL hs) i := by
  unfold shrL
  rw [if_pos (Fx.wok hok), rgD _ (by rw [Fx.wL_len]; exact hi), Fx.fr_id]
theorem Fx.sh_in {f : Fx} {hs : List Bool} {zs : List Int} (hok : itsOk f.xs = true) {i : Nat} (hi : i < f.xs.length) : -144115188075855872 ≤ (shrL (f.fr zs) (f.wL hs)).getD i 0 ∧ (shrL (f.fr zs) (f.wL hs)).getD i 0 ≤ 144115188075855872 := by
  rw [Fx.sh_at hok hi]
  obtain ⟨h64, h⟩ := wok_all (Fx.wok (hs := hs) hok)
  have h1 := pos_in (n := f.fr zs) h h64 (show i ≤ (f.wL hs).length by rw [Fx.wL_len]; omega)
  have h2 := pos_in (n := f.fr zs) h h64 (show i + 1 ≤ (f.wL hs).length by rw [Fx.wL_len]; omega)
  rw [Fx.fr_id] at h1 h2
  unfold shrI
  omega
def FsRel (w0 : World) (f : Fx) (a : Option Addr) (cap fb zb wb B : Nat) (sv : Value) (hs : List Bool) (zs : List Int) (p : Nat) (i : Value) (wr : World) : Prop :=
  ∃ (k : Nat) (zs' ws' : List Int), k ≤ f.xs.length ∧ i = .int .i64 k ∧ FxM w0 f a cap fb zb wb zs' ws' p wr ∧ RowI B sv (shrL (f.fr zs) (f.wL hs)) wr ∧
    ∀ i, i < f.xs.length → zs'.getD i 0 = (if i < k then f.ez hs zs i else zs.getD i 0) ∧ ws'.getD i 0 = (if i < k then 0 else f.wv hs i)
set_option maxHeartbeats 8000000 in
theorem ifsh (w0 : World) (f : Fx) (a : Option Addr) (cap fb zb wb : Nat) (hs : List Bool) (zs : List Int) (p : Nat) (w : World) (hok : itsOk f.xs = true) (hst : f.St hs zs) (M : FxM w0 f a cap fb zb wb zs (f.wL hs) p w) :
    Calls Try.prog 100 #[.pointer (some ⟨fb, 0, none⟩), .int .i64 (f.fr zs)] w fun e w' => e = .returned (.tuple #[]) ∧ ∃ ws', FxM w0 f a cap fb zb wb (f.zE hs zs) ws' p w' := by
  have h12 := Fx.n12 hok
  have HST := Lib.hid hst
  have HSL := Lib.hid (Fx.sh_len (hs := hs) (zs := zs) hok)
  have HSA := Lib.hid (shrL_all (f.fr zs) (f.wL hs))
  have HSI := Lib.hid (fun (i : Nat) (hi : i < f.xs.length) => Fx.sh_in (hs := hs) (zs := zs) hok hi)
  have HEZ := Lib.hid (show ∀ i : Nat, f.ez hs zs i = if hs.getD i true = true then zs.getD i 0 else clI (zs.getD i 0 + (shrL (f.fr zs) (f.wL hs)).getD i 0) from fun i => rfl)
  have kh := ish_any (f.fr zs) (some ⟨wb, 0, none⟩) f.xs.length f.xs.length (f.wL hs) w (M.ints_w (Fx.ws_all hok)) (by omega)
  have HM := Lib.hid M
  have c5 := M.cells.2.2.2.2.2.1
  obtain ⟨S, eS⟩ : ∃ q, q = shrL (f.fr zs) (f.wL hs) := ⟨_, rfl⟩
  rw [← eS] at kh HSL HSA HSI HEZ
  obtain ⟨sp, esp⟩ : ∃ q, q = f.fr zs := ⟨_, rfl⟩
  rw [← esp] at kh ⊢
  have ES := Lib.hid (show S = shrL (f.fr zs) (f.wL hs) from eS)
  clear M hst eS esp
  go_enter Try.func100, Try.ntmps100
  go_wp2_with (fail)
  refine kh.mono ?_
  rintro e w1 ⟨sv, rfl, r1, b1⟩
  clear kh
  obtain ⟨sa, sc, rfl, _⟩ := r1.slice HSA.out
  rw [HSL.out] at r1 ⊢
  have M1 := HM.out.below b1
  have own : ∀ g, g < w.heap.size → (Value.slice sa f.xs.length sc).ownBlock = none ∨ (Value.slice sa f.xs.length sc).ownBlock ≠ some g := by
    intro g hg
    cases h : (Value.slice sa f.xs.length sc).ownBlock with
    | none => exact Or.inl rfl
    | some q =>
      refine Or.inr fun e => ?_
      have := (World.ownsRow.lt r1 q h).1
      injection e with e
      omega
  have NB1 := Lib.hid (own zb HM.out.zlt.2)
  have NB2 := Lib.hid (own wb HM.out.wlt.2)
  have HM1 := Lib.hid M1
  have HR1 := Lib.hid r1
  have d5 := kept_cell c5 b1
  clear M1 r1 own c5 b1 HM
  dsimp only
  go_wp2
  go_loopw [18] (FsRel w0 f a cap fb zb wb w.heap.size (.slice sa f.xs.length sc) hs zs p) (fun i _ => f.xs.length - (intOf i).toNat)
  case atStart => exact ⟨0, _, _, Nat.zero_le _, rfl, HM1.out, by rw [← ES.out]; exact HR1.out, fun i hi => ⟨by rw [if_neg (by omega)], by rw [if_neg (by omega)]; exact Fx.wL_at hi⟩⟩
  case round =>
    clear HM1 HR1 d5
    obtain ⟨k, zs', ws', hk, rfl, M, RS, hv⟩ := hrel
    rw [← ES.out] at RS
    by_cases hlt : k < f.xs.length
    · have hlo : (0 : Int) ≤ (k : Int) := Int.natCast_nonneg _
      have hhi : (k : Int) < (f.xs.length : Int) := by omega
      have HV := Lib.hid hv
      obtain ⟨hv1, hv2⟩ := hv k hlt
      rw [if_neg (by omega)] at hv1 hv2
      have hzk := M.zat hlt
      have hwk := M.wat hlt
      rw [hv1] at hzk
      rw [hv2] at hwk
      have hzin := (HST.out.2.2 k hlt).1
      have hwin := Fx.wv_in (hs := hs) hok hlt
      have hfree : hs.getD k true = false → 0 < f.wv hs k := fun h => by rw [Fx.wv_free h]; exact ((HST.out.2.2 k hlt).2.2 h).2
      have hheld : hs.getD k true = true → f.wv hs k = 0 := Fx.wv_held
      have hez := HEZ.out k
      have hsi := HSI.out k hlt
      obtain ⟨_, hSI⟩ := RS.intsOf HSA.out
      obtain ⟨sb, so, esa, hsbl, hsk⟩ := hSI.look hlt
      have HMM := Lib.hid M
      have HRS := Lib.hid RS
      have HLZ := Lib.hid M.lz
      have HLW := Lib.hid M.lw
      have c4 := M.cells.2.2.2.2.1
      obtain ⟨z, ez⟩ : ∃ q, q = zs.getD k 0 := ⟨_, rfl⟩
      obtain ⟨wk, ewk⟩ : ∃ q, q = f.wv hs k := ⟨_, rfl⟩
      obtain ⟨sh, esh⟩ : ∃ q, q = S.getD k 0 := ⟨_, rfl⟩
      rw [← ez] at hzk hzin hez hv1
      rw [← ewk] at hwk hwin hfree hheld hv2
      rw [← esh] at hez hsi hsk
      have hNF : ∀ (zs2 ws2 : List Int) (z2 : Int), zs2 = zs'.set k z2 → z2 = f.ez hs zs k → ws2 = ws'.set k 0 →
          ∀ i, i < f.xs.length → zs2.getD i 0 = (if i < k + 1 then f.ez hs zs i else zs.getD i 0) ∧ ws2.getD i 0 = (if i < k + 1 then 0 else f.wv hs i) := by
        intro zs2 ws2 z2 h1 h2 h3 i hi
        have h5 := HV.out i hi
        rw [h1, h3, h2, getD_set, getD_set]
        by_cases e : i = k
        · subst e
          refine ⟨?_, ?_⟩
          · rw [if_pos ⟨rfl, by rw [HLZ.out]; exact hi⟩, if_pos (Nat.lt_succ_self _)]
          · rw [if_pos ⟨rfl, by rw [HLW.out]; exact hi⟩, if_pos (Nat.lt_succ_self _)]
        · refine ⟨?_, ?_⟩
          · rw [if_neg (fun h => e h.1), lt_next e]; exact h5.1
          · rw [if_neg (fun h => e h.1), lt_next e]; exact h5.2
      have hSAME : f.ez hs zs k = z → wk = 0 → ∀ i, i < f.xs.length → zs'.getD i 0 = (if i < k + 1 then f.ez hs zs i else zs.getD i 0) ∧ ws'.getD i 0 = (if i < k + 1 then 0 else f.wv hs i) := by
        intro h1 h2 i hi
        have h5 := HV.out i hi
        by_cases e : i = k
        · subst e
          rw [if_pos (Nat.lt_succ_self _), if_pos (Nat.lt_succ_self _), hv1, hv2, h1, h2]
          exact ⟨rfl, rfl⟩
        · rw [lt_next e, lt_next e]; exact h5
      have HNF := Lib.hid hNF
      have HSAME := Lib.hid hSAME
      clear M RS HV hv hv1 hv2 ez ewk esh hNF hSAME hSI
      subst esa
      by_cases h1 : 0 < wk
      · have hb : hs.getD k true = false := by
          cases hb : hs.getD k true with
          | false => rfl
          | true => have := hheld hb; omega
        rw [hb] at hez
        have HEK := Lib.hid (show clI (z + sh) = f.ez hs zs k by rw [hez]; exact (if_neg (by decide)).symm)
        have hw1 : IntKind.i64.wrap (z + sh) = z + sh := IntWalk.i64_in _ (by omega)
        have q4 := fun d os => cell_regrown c4 d os
        have q5 := fun d os => cell_regrown hzk d os
        have q6 := fun d os => cell_regrown hsk d os
        have kc := fun (W : World) => (iclamped (z + sh) W).mono (fun e w' (h : e = .returned (.int .i64 (clI (z + sh))) ∧ w' = W) => (⟨h.1, by rw [h.2]; exact Below.refl _ _⟩ : e = .returned (.int .i64 (clI (z + sh))) ∧ Below W.heap.size W w'))
        clear hb hez hheld hfree hzin hwin hsi
        go_wp2
        refine region_qtail 15 (by kernel_rfl) (by kernel_rfl) ?_
        simp only [blank, nopOf, Nat.reduceAdd, Nat.reduceEqDiff, Nat.reduceLeDiff, or_self, or_true, false_or, or_false, true_or, ↓reduceIte]
        repeat (go_big_quiet_step (first
          | (go_at_call 108; exact Calls.regrown_of (kc _))
          | fail))
        refine wpQuiet_nil ?_
        intro w2 hw'
        have b2 := below_of hw'
        clear hw' q4 q5 q6 c4 hzk hwk hsk kc hw1
        have M2 := HMM.out.below b2
        have R2 := HRS.out.below b2
        have HM2 := Lib.hid M2
        have HR2 := Lib.hid R2
        clear M2 R2 b2
        simp only [List.drop_succ_cons, List.drop_zero]
        obtain ⟨ck, eck⟩ : ∃ q, q = clI (z + sh) := ⟨_, rfl⟩
        rw [← eck] at HEK ⊢
        clear eck
        go_wp2_with (fail)
        refine (ifreeze w0 f a cap fb zb wb zs' ws' p k ck w2 hlt (by omega) HM2.out).mono ?_
        rintro e w3 ⟨rfl, M3, ew3⟩
        have HR3 := Lib.hid (show RowI _ _ _ w3 by rw [ew3]; exact put2 HR2.out NB1.out NB2.out)
        have HM3 := Lib.hid M3
        clear M3 ew3
        dsimp only
        go_wp2
        go_roundw
        case rel => exact ⟨k + 1, _, _, by omega, by go_num, HM3.out, by rw [← ES.out]; exact HR3.out, HNF.out _ _ _ rfl HEK.out rfl⟩
        case measure => simp [intOf]; omega
      · have hb : hs.getD k true = true := by
          cases hb : hs.getD k true with
          | true => rfl
          | false => have := hfree hb; omega
        have hw0 : wk = 0 := hheld hb
        rw [if_pos hb] at hez
        have HFIN := Lib.hid (HSAME.out hez hw0)
        clear hb hez hheld hfree hzin hwin hsi hzk hsk c4 hw0
        go_wp2
        go_roundw
        case rel => exact ⟨k + 1, _, _, by omega, by go_num, HMM.out, by rw [← ES.out]; exact HRS.out, HFIN.out⟩
        case measure => simp [intOf]; omega
    · obtain rfl : k = f.xs.length := by omega
      have hz : zs' = f.zE hs zs := eq_range M.lz fun i hi => by rw [(hv i hi).1, if_pos hi]
      subst hz
      have HMF := Lib.hid M
      clear M RS hv
      go_wp2
      refine bodyPost_end (results_none rfl _ _ _) rfl ?_
      exact ⟨rfl, _, HMF.out⟩
end Go.Proofs.Ytopfiogmbnfjcaa
end

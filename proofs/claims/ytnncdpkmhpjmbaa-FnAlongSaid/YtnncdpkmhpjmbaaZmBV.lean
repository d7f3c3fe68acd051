import Derived.Test.YtnncdpkmhpjmbaaZmBM
import Derived.Test.YtnncdpkmhpjmbaaZmBT
import Derived.Test.YtnncdpkmhpjmbaaZmBU
section
namespace Go.Proofs.Ytnncdpkmhpjmbaa
open Go.ChangeShapes Go.WideShapes Go.ChangeAt Go.RowKit
set_option linter.unusedVariables false
set_option linter.unusedSimpArgs false
set_option maxRecDepth 20000

/-- Where the model stands ahead of item k. -/
def stA (n : Nat) (ys : List It) (zs : List Int) (gap : Int) (sp : Nat → Int) (k : Nat) : Int :=
  if k < n then (if k = 0 then enV ys zs gap sp k else enV ys zs gap sp k + gap) + sp k else enV ys zs gap sp k
theorem st_lt {n : Nat} {ys : List It} {zs : List Int} {gap : Int} {sp : Nat → Int} {k : Nat} (h : k < n) : stA n ys zs gap sp k + (itD ys k).before = pvV ys gap sp (enV ys zs gap sp k) k := by
  unfold stA pvV; rw [if_pos h]
theorem st_next {n : Nat} {ys : List It} {zs : List Int} {gap : Int} {sp : Nat → Int} {k : Nat} (h : k + 1 < n) : stA n ys zs gap sp (k + 1) = enV ys zs gap sp (k + 1) + gap + sp (k + 1) := by
  unfold stA; rw [if_pos h, if_neg (by omega)]
theorem st_end {n : Nat} {ys : List It} {zs : List Int} {gap : Int} {sp : Nat → Int} {k : Nat} (h : ¬ k < n) : stA n ys zs gap sp k = enV ys zs gap sp k := by
  unfold stA; rw [if_neg h]
theorem st_zero {n : Nat} {ys : List It} {zs : List Int} {gap : Int} {sp : Nat → Int} (h : 0 < n) : stA n ys zs gap sp 0 = sp 0 := by
  unfold stA; rw [if_pos h, if_pos rfl]; exact Int.zero_add _
theorem st_bd {n : Nat} {ys : List It} {zs : List Int} {gap : Int} {sp : Nat → Int} (h : EnB ys zs gap sp) (k : Nat) : -(9437184 * (k : Int)) - 9437184 ≤ stA n ys zs gap sp k ∧ stA n ys zs gap sp k ≤ 9437184 * (k : Int) + 9437184 := by
  have h1 := en_bd h k
  have h2 := h.g
  have h3 := h.s k
  unfold stA
  (repeat' split) <;> omega
/-- An item's margins with their shares, as they are added. -/
theorem wx_before {xs : List It} {free : Int} {k : Nat} (h : k < xs.length) : (itD (wxV xs free) k).before = (itD xs k).before + (if (itD xs k).ab = true then (gvV xs free).getD (auN xs k) 0 else 0) := by unfold wxV; rw [wdL_at h]; rfl
theorem wx_behind {xs : List It} {free : Int} {k : Nat} (h : k < xs.length) : (itD (wxV xs free) k).behind = (itD xs k).behind + (if (itD xs k).ah = true then (gvV xs free).getD (au1 xs k) 0 else 0) := by unfold wxV; rw [wdL_at h]; rfl
theorem zero_all (n : Nat) : AllI (List.replicate n 0) := fun z hz => by have := List.eq_of_mem_replicate hz; omega
theorem zero_at (n k : Nat) : (List.replicate n (0 : Int)).getD k 0 = 0 := by
  rw [List.getD_eq_getElem?_getD, List.getElem?_replicate]
  split <;> rfl
def PsRel (w w5 : World) (xs ys : List It) (zs : List Int) (gap : Int) (sp : Nat → Int) (ga sa : Option Addr) (G SP : List Int) (v at_ kk i : Value) (wr : World) : Prop :=
  ∃ k : Nat, k ≤ xs.length ∧ i = .int .i64 k ∧ at_ = .int .i64 (stA xs.length ys zs gap sp k) ∧ kk = .int .i64 (auN xs k) ∧ RowI w.heap.size v (plK ys zs gap sp k) wr ∧ (∀ b, v.ownBlock = some b → b = w.heap.size ∨ w5.heap.size ≤ b) ∧ Below w.heap.size w wr ∧ Ints wr ga G.length G ∧ Ints wr sa SP.length SP ∧ w5.heap.size ≤ wr.heap.size
theorem ints_kept {w w' : World} {a : Option Addr} {len lo hi : Nat} {zs : List Int} {v : Value} (h : Ints w a len zs) (hg : w.grownBy w' v.ownBlock) (hv : ∀ b, v.ownBlock = some b → b = lo ∨ hi ≤ b) (ha : ∀ b off, a = some ⟨b, off, none⟩ → lo < b ∧ b < hi) : Ints w' a len zs :=
  h.grownX hg (fun b off e e2 => by
    have h1 := ha b off e
    have h2 := hv b e2
    omega)
theorem row_in {b : Nat} {v : Value} {xs : List Int} {w : World} (h : RowI b v xs w) : ∀ a n c, v = .slice a n c → ∀ b' o, a = some ⟨b', o, none⟩ → b ≤ b' ∧ b' < w.heap.size := by
  intro a n c e b' o e2
  subst e e2
  rcases h.2 with ⟨h1, h2⟩ | ⟨g, cap, cur, h1, h2, _⟩
  · cases h1
  · obtain ⟨rfl, rfl⟩ : b' = g ∧ o = 0 := by injection h1 with e1 _ _; injection e1 with e1; injection e1 with e1 e2; exact ⟨e1, e2⟩
    exact ⟨h2, (World.ownsRow.lt h b' rfl).2⟩

set_option maxHeartbeats 8000000 in
theorem splaces (a : Option Addr) (cap : Nat) (xs : List It) (b : Option Addr) (len cap2 : Nat) (zs : List Int) (gap inner js : Int) (w : World) (hz : Its w a xs) (hl : xs.length ≤ 1048576) (hs : Ints w b len zs) (hsl : len ≤ 1048576) :
    Calls Try.prog 54 #[.slice a xs.length cap, .slice b len cap2, .int .i64 gap, .int .i64 inner, .int .i64 js] w (PcPost (plV xs zs gap inner js) (edA xs zs gap inner js) w) := by
  obtain ⟨i0, hi, hz0, hz1, hz2⟩ := info_parts info_intP
  have hzl : zs.length = len := hs.1
  subst hzl
  have HZ := Lib.hid hz
  have HSZ := Lib.hid hs
  have hr0 : RowI w.heap.size (.slice (some ⟨w.heap.size, 0, none⟩) 0 0) [] (w.alloc (.cells #[] 3)) := World.ownsRow_lit w #[] 0 (Nat.le_refl _) (by unfold maxLen; omega) rfl
  have bu : Below w.heap.size w (w.alloc (.cells #[] 3)) := (Below.refl _ _).alloc (Nat.le_refl _) _
  have hus : (w.alloc (.cells #[] 3)).heap.size = w.heap.size + 1 := by simp
  obtain ⟨u, eu⟩ : ∃ u, u = w.alloc (.cells #[] 3) := ⟨_, rfl⟩
  rw [← eu] at hr0 bu hus
  have EU := Lib.hid eu
  have HRu := Lib.hid hr0
  have BU := Lib.hid bu
  clear eu hr0 bu
  have KO := Lib.hid (salok a cap xs b zs.length cap2 zs gap inner u (hz.below BU.out) hl (hs.below BU.out) hsl)
  have hpl : plV xs zs gap inner js = (if alOk xs zs gap inner = true then plK (wxV xs (fcV xs zs gap inner)) zs gap (sqV xs (fcV xs zs gap inner) js) xs.length else []) := rfl
  have hed : edA xs zs gap inner js = (if alOk xs zs gap inner = true then enV (wxV xs (fcV xs zs gap inner)) zs gap (sqV xs (fcV xs zs gap inner) js) xs.length else 0) := rfl
  rw [hpl, hed]
  clear hz hs hpl hed
  cases hok : alOk xs zs gap inner with
  | false =>
    rw [hok] at KO
    rw [if_neg (by decide), if_neg (by decide)]
    go_enter Try.func54, Try.ntmps54
    go_wp2_with (rw [← EU.out])
    refine KO.out.mono ?_
    rintro e w1 ⟨rfl, b1⟩
    have B1 := Lib.hid (BU.out.trans (b1.mono BU.out.size))
    have R1 := Lib.hid (HRu.out.below b1)
    clear b1 KO
    (try dsimp only)
    go_wp2
    go_ret2
    exact ⟨_, rfl, R1.out, B1.out⟩
  | true =>
    have hF := al_of hok
    rw [hok] at KO
    rw [if_pos rfl, if_pos rfl]
    have hfc := fc_in xs zs gap inner
    have HEB := Lib.hid (wx_bd hF js)
    have hn12 := hF.n12
    have HN12 := Lib.hid hn12
    have HZL := Lib.hid hF.len
    have HMG := Lib.hid hF.mg
    have KF := Lib.hid (fun w' (h : Below w.heap.size w w') => sfree15 a cap xs b zs.length cap2 zs gap inner w' (HZ.out.below h) hl (HSZ.out.below h) hsl)
    have KC := Lib.hid (fun w' => slen (frA xs zs gap inner) w')
    have efc : lenI (frA xs zs gap inner) = fcV xs zs gap inner := rfl
    rw [efc] at KC
    have KA := Lib.hid (fun w' (h : Below w.heap.size w w') => sautos a cap xs w' (HZ.out.below h) hl)
    have KL := Lib.hid (fun w' => slead (fcV xs zs gap inner) xs.length js w' (by omega) (by omega))
    have KS := Lib.hid (fun w' => sspaces (fcV xs zs gap inner) xs.length js w' hfc.1 hfc.2 hn12)
    obtain ⟨fc, efc2⟩ : ∃ fc, fc = fcV xs zs gap inner := ⟨_, rfl⟩
    rw [← efc2] at KC KL KS HEB hfc ⊢
    have EFC := Lib.hid efc2
    obtain ⟨fr, efr⟩ : ∃ fr, fr = frA xs zs gap inner := ⟨_, rfl⟩
    rw [← efr] at KC KF
    clear efc efc2 efr hF
    have hau24 := auN_le xs xs.length
    have hG0 : gvV xs fc = evnL (if fc < 0 then 0 else fc) (auN xs xs.length) := rfl
    have HG24 := Lib.hid (show (gvV xs fc).length ≤ 24 by rw [hG0, evn_len (by omega)]; omega)
    have HGL := Lib.hid (show (gvV xs fc).length = auN xs xs.length by rw [hG0, evn_len (by omega)])
    have HGB := Lib.hid (show ∀ j, -1048577 ≤ (gvV xs fc).getD j 0 ∧ (gvV xs fc).getD j 0 ≤ 1048577 from fun j => evn_bd _ _ j)
    have HBF := Lib.hid (fun (k : Nat) (h : k < xs.length) => wx_before (free := fc) h)
    have HBH := Lib.hid (fun (k : Nat) (h : k < xs.length) => wx_behind (free := fc) h)
    by_cases hau : 0 < auN xs xs.length
    · have hau2 : (0 : Int) < (auN xs xs.length : Int) := by omega
      have hau3 : ¬ (auN xs xs.length : Int) = 0 := by omega
      have hsq : ∀ i, sqV xs fc js i = 0 := fun i => by unfold sqV; rw [if_pos hau]
      by_cases hfp : 0 < fc
      · have KE := Lib.hid (fun w' => sev_any fc (auN xs xs.length : Int) w')
        rw [← show gvV xs fc = evnL fc (auN xs xs.length : Int) by rw [hG0, if_neg (by omega)]] at KE
        go_enter Try.func54, Try.ntmps54
        go_wp2_with (rw [← EU.out])
        refine KO.out.mono ?_
        rintro e w1 ⟨rfl, b1⟩
        have B1 := Lib.hid (BU.out.trans (b1.mono BU.out.size))
        have R1 := Lib.hid (HRu.out.below b1)
        have hs1 := b1.size
        clear b1 KO HRu BU
        (try dsimp only)
        go_wp2_with (fail)
        refine (KF.out w1 B1.out).mono ?_
        rintro e w2 ⟨rfl, b2⟩
        have B2 := Lib.hid (B1.out.trans (b2.mono B1.out.size))
        have R2 := Lib.hid (R1.out.below b2)
        have hs2 := b2.size
        clear b2 B1 R1 KF
        (try dsimp only)
        go_wp2_with (fail)
        refine (KC.out w2).mono ?_
        rintro e w2' ⟨rfl, rfl⟩
        clear KC
        (try dsimp only)
        go_wp2_with (fail)
        refine (KA.out _ B2.out).mono ?_
        rintro e w3 ⟨rfl, b3⟩
        have B3 := Lib.hid (B2.out.trans (b3.mono B2.out.size))
        have R3 := Lib.hid (R2.out.below b3)
        have hs3 := b3.size
        clear b3 B2 R2 KA
        (try dsimp only)
        go_wp2_with (first
          | (at_make; refine wpList_make_full _ rfl _ _ 24 rfl w3.heap.size 3 i0 (.int .i64 0) 1 Try.underlying24 hi hz0 hz1 .i64 .i64 _ _ (auN xs xs.length) rfl rfl rfl rfl (by rw [hz2]; omega) (by unfold maxLen; omega) (Nat.le_refl _) ?_))
        intro w35 hown35 hgrow35
        have HG35 := Lib.hid (show RowI w3.heap.size (.slice (some ⟨w3.heap.size, 0, none⟩) (auN xs xs.length) (auN xs xs.length)) (List.replicate (auN xs xs.length) 0) w35 by
          unfold RowI
          rw [toList_madeCells_one] at hown35
          first | simpa using hown35 | simpa [hau0] using hown35)
        have b35 : Below w3.heap.size w3 w35 := (Below.refl _ _).grown hgrow35 (Nat.le_refl _) (fun g hg => by cases hg)
        have B35 := Lib.hid (B3.out.trans (b35.mono B3.out.size))
        have R35 := Lib.hid (R3.out.below b35)
        have hs35 : w3.heap.size < w35.heap.size := (World.ownsRow.lt HG35.out w3.heap.size rfl).2
        clear hown35 hgrow35 b35 B3 R3
        (try dsimp only)
        go_wp2_with (first
          | (at_make; refine wpList_make_full _ rfl _ _ 24 rfl w35.heap.size 3 i0 (.int .i64 0) 1 Try.underlying24 hi hz0 hz1 .i64 .i64 _ _ xs.length rfl rfl rfl rfl (by rw [hz2]; omega) (by unfold maxLen; omega) (Nat.le_refl _) ?_))
        intro w4 hown4 hgrow4
        have HS4 := Lib.hid (show RowI w35.heap.size (.slice (some ⟨w35.heap.size, 0, none⟩) xs.length xs.length) (List.replicate xs.length 0) w4 by
          unfold RowI
          rw [toList_madeCells_one] at hown4
          simpa using hown4)
        have b4 : Below w35.heap.size w35 w4 := (Below.refl _ _).grown hgrow4 (Nat.le_refl _) (fun g hg => by cases hg)
        have B4 := Lib.hid (B35.out.trans (b4.mono B35.out.size))
        have R4 := Lib.hid (R35.out.below b4)
        have HG4 := Lib.hid (HG35.out.below b4)
        have hs4 : w35.heap.size < w4.heap.size := (World.ownsRow.lt HS4.out w35.heap.size rfl).2
        clear hown4 hgrow4 b4 B35 R35 HG35
        (try dsimp only)
        go_wp2_with (fail)
        refine (KE.out w4).mono ?_
        rintro e w5 ⟨gv, rfl, r5, b5⟩
        obtain ⟨ga, gc, rfl, hga0⟩ := r5.slice (evn_all _ _)
        rw [HGL.out] at hga0 ⊢
        have HGA0 := Lib.hid hga0
        have HGAB := Lib.hid (show ∀ b off, ga = some ⟨b, off, none⟩ → w.heap.size < b ∧ b < w5.heap.size from fun b off e => by
          have := row_in r5 _ _ _ rfl b off e
          have := B4.out.size
          omega)
        obtain ⟨sa, esa0⟩ : ∃ q : Option Addr, q = some ⟨w35.heap.size, 0, none⟩ := ⟨_, rfl⟩
        have HSA0 := Lib.hid (show Ints w5 sa xs.length (List.replicate xs.length 0) by rw [esa0]; exact (HS4.out.below b5).ints (by simp) (zero_all _))
        have HSAB := Lib.hid (show ∀ b off, sa = some ⟨b, off, none⟩ → w.heap.size < b ∧ b < w5.heap.size from fun b off e => by
          rw [esa0] at e
          injection e with e
          injection e with e
          have := b5.size
          omega)
        have HR0 := Lib.hid (R4.out.below b5)
        have HB0 := Lib.hid (B4.out.trans (b5.mono B4.out.size))
        rw [← esa0]
        clear r5 b5 hga0 KE esa0 R4 B4 HS4 HG4
        obtain ⟨sp, esp⟩ : ∃ sp, sp = sqV xs fc js := ⟨_, rfl⟩
        have HST0 := Lib.hid (show (0 : Int) = stA xs.length (wxV xs fc) zs gap sp 0 by
          by_cases h0 : 0 < xs.length
          · rw [st_zero h0, esp]; exact (hsq 0).symm
          · rw [st_end h0]; rfl)
        have HSP := Lib.hid (show ∀ k, k + 1 < xs.length → (List.replicate xs.length (0 : Int)).getD k 0 = sp (k + 1) from fun k h => by rw [esp, hsq]; exact zero_at _ _)
        have HSL := Lib.hid (show (List.replicate xs.length (0 : Int)).length = xs.length by simp)
        have HR00 := Lib.hid (show RowI w.heap.size (.slice (some ⟨w.heap.size, 0, none⟩) 0 0) (plK (wxV xs fc) zs gap sp 0) w5 from HR0.out)
        have HOB0 := Lib.hid (show ∀ b, (Value.slice (some ⟨w.heap.size, 0, none⟩) 0 0).ownBlock = some b → b = w.heap.size ∨ w5.heap.size ≤ b from fun b hb => Or.inl (by have h : some w.heap.size = some b := hb; injection h with h; exact h.symm))
        rw [← esp] at HEB ⊢
        have HGA1 := Lib.hid (show Ints w5 ga (gvV xs fc).length (gvV xs fc) by rw [HGL.out]; exact HGA0.out)
        have HSA1 := Lib.hid (show Ints w5 sa (List.replicate xs.length (0 : Int)).length (List.replicate xs.length 0) by rw [HSL.out]; exact HSA0.out)
        obtain ⟨SP, eSP⟩ : ∃ q, q = List.replicate xs.length (0 : Int) := ⟨_, rfl⟩
        rw [← eSP] at HSP HSL HSA1
        obtain ⟨ys, eys⟩ : ∃ ys, ys = wxV xs fc := ⟨_, rfl⟩
        rw [← eys] at HST0 HR00 HEB HBF HBH ⊢
        obtain ⟨G, eG⟩ : ∃ G, G = gvV xs fc := ⟨_, rfl⟩
        rw [← eG] at HG24 HGL HGB HBF HBH HGA1
        have ESP := Lib.hid esp
        have EYS := Lib.hid eys
        have HSAL := Lib.hid (show ∀ q : Nat, q = xs.length → q = SP.length from fun q h => by rw [h, HSL.out])
        clear HR0 HGA0 HSA0 esp eys eSP eG
        have HR0 := HR00
        have HGA0 := HGA1
        have HSA0 := HSA1
        clear HR00 HGA1 HSA1
        (try dsimp only)
        go_wp2
        (try rw [show ((auN xs xs.length : Int) == 0) = false from beq_eq_false_iff_ne.2 hau3])
        go_loopw [12, 16, 18, 19] (PsRel w w5 xs ys zs gap sp ga sa G SP) (fun _ _ _ i _ => xs.length - (intOf i).toNat)
        case atStart => exact ⟨0, Nat.zero_le _, rfl, by rw [HST0.out], rfl, HR0.out, HOB0.out, HB0.out, HGA0.out, HSA0.out, Nat.le_refl _⟩
        case round =>
          clear HST0 HR0 HOB0 HB0 HGA0 HSA0
          obtain ⟨k, hk, rfl, rfl, rfl, hro, hob, hb, hga, hsa, hge⟩ := hrel
          by_cases hlt : k < xs.length
          · have hlo : (0 : Int) ≤ (k : Int) := Int.natCast_nonneg _
            have hhi : (k : Int) < (xs.length : Int) := by omega
            have hk12 : (k : Int) < 12 := by have := HN12.out; omega
            have hhz : (k : Int) < (zs.length : Int) := by have := HZL.out; omega
            obtain ⟨bi, oi, rfl, hbi, hrg⟩ := HZ.out.look hlt
            obtain ⟨bz, oz, rfl, hbz, hcz⟩ := HSZ.out.look (k := k) (Nat.lt_of_lt_of_eq hlt HZL.out.symm)
            have HRG := Lib.hid hrg
            have HCZ := Lib.hid hcz
            obtain ⟨c0, c1, c2, c3, c4, C5, C6, C7, C8⟩ := rg_it (rg_below hrg hb)
            clear c0 c1 c2 c3 c4 C6 C8 hrg hcz
            have hB := HEB.out.b k
            have hH := HEB.out.h k
            have hZ := HEB.out.z k
            have hG := HEB.out.g
            have hS1 := HEB.out.s (k + 1)
            have hE1 := en_bd HEB.out (k + 1)
            have hSt := st_bd (n := xs.length) HEB.out k
            have hPb := pl_bd HEB.out k
            have hP := st_lt (ys := ys) (zs := zs) (gap := gap) (sp := sp) hlt
            have hNX := en_next ys zs gap sp k
            have HPL := Lib.hid (plK_succ ys zs gap sp k)
            have hau2 : auN xs (k + 1) ≤ G.length := by rw [HGL.out]; exact auN_mono xs hlt
            have hnx := au1_next xs k
            have hnx1 : au1 xs k = auN xs k + (if (itD xs k).ab = true then 1 else 0) := rfl
            have hbf := HBF.out k hlt
            have hbh := HBH.out k hlt
            have hmg := HMG.out k
            have hgb1 := HGB.out (auN xs k)
            have hgb2 := HGB.out (au1 xs k)
            have hST1 : k + 1 < xs.length → enV ys zs gap sp (k + 1) + gap + SP.getD k 0 = stA xs.length ys zs gap sp (k + 1) := fun h => by rw [st_next h, HSP.out k h]
            have hST2 : ¬ k + 1 < xs.length → enV ys zs gap sp (k + 1) = stA xs.length ys zs gap sp (k + 1) := fun h => (st_end h).symm
            have HLL := Lib.hid (plK_len ys zs gap sp k)
            have hsp2 : k + 1 < xs.length → SP.getD k 0 = sp (k + 1) := HSP.out k
            obtain ⟨A2, eA2⟩ : ∃ q, q = auN xs (k + 1) := ⟨_, rfl⟩
            obtain ⟨ST2, eST2⟩ : ∃ q, q = stA xs.length ys zs gap sp (k + 1) := ⟨_, rfl⟩
            rw [← eA2] at hau2 hnx
            rw [← eST2] at hST1 hST2
            have EA2 := Lib.hid eA2
            have EST2 := Lib.hid eST2
            clear eA2 eST2
            generalize pvV ys gap sp (enV ys zs gap sp k) k = P at *
            generalize enV ys zs gap sp (k + 1) = E1 at *
            generalize stA xs.length ys zs gap sp k = ST at *
            generalize sp (k + 1) = S1 at *
            generalize zs.getD k 0 = Z at *
            generalize itD ys k = y at *
            generalize itD xs k = x at *
            generalize auN xs k = A0 at *
            generalize au1 xs k = A1 at *
            have HRO := Lib.hid hro
            have HOB := Lib.hid hob
            have HB := Lib.hid hb
            have HGA := Lib.hid hga
            have HSA := Lib.hid hsa
            have HGE := Lib.hid hge
            clear hro hob hga hsa hge
            rcases Bool.eq_false_or_eq_true x.ab with hab | hab
            · rw [if_pos hab] at hbf hnx1
              have hA0 : A0 < G.length := by omega
              obtain ⟨bg, og, ega, hbg, hcg⟩ := HGA.out.look hA0
              have hgi : (A0 : Int) < (auN xs xs.length : Int) := by have := HGL.out; omega
              have hgz : (0 : Int) ≤ (A0 : Int) := Int.natCast_nonneg _
              have hgm : G.length ≤ 24 := HG24.out
              have HP2 := Lib.hid (show ST + x.before + G.getD A0 0 = P by omega)
              have HA1 := Lib.hid hnx1
              subst ega
              generalize G.getD A0 0 = g1 at *
              clear hb
              go_wp2_with (at_builtin; refine wpList_append_own_at _ rfl _ _ 24 rfl w.heap.size 3 i0 (.int .i64 0) 1 8 Try.underlying24 hi hz0 hz1 hz2 rfl (by decide) _ _ _ rfl (World.ownsRow.alloc HRO.out _) ⟨wr.heap.size, 0, none⟩ 1 1 [.int .i64 (ST + x.before + g1)] rfl rfl (one_intP _ _ _) ?c2a1 ?c3a1 ?c4a1 ?c5a1 ?_)
              case c2a1 => intro u hu; simp at hu; subst hu; rfl
              case c3a1 => unfold maxLen; rw [HLL.out]; omega
              case c4a1 => rw [HLL.out]; omega
              case c5a1 => have := HB.out.size; simp; omega
              intro v' w4 hown4 hgr _ hloc
              rw [HP2.out] at hown4 hgr ⊢
              rw [show ((A0 : Int) + 1) = (A1 : Int) from by have := HA1.out; omega]
              have ga1 := World.grownBy_alloc wr (.cells #[Value.int .i64 P] 3) none
              have bA : Below wr.heap.size wr (wr.alloc (.cells #[Value.int .i64 P] 3)) := (Below.refl _ _).alloc (Nat.le_refl _) _
              have R4 := Lib.hid (show RowI w.heap.size v' (plK ys zs gap sp (k + 1)) w4 by rw [HPL.out]; unfold RowI; rw [List.length_append]; simpa using hown4)
              have B4 := Lib.hid ((HB.out.trans (bA.mono HB.out.size)).grown hgr (Nat.le_trans HB.out.size bA.size) (fun g hg => (World.ownsRow.lt HRO.out g hg).1))
              have OB4 := Lib.hid (show ∀ b, v'.ownBlock = some b → b = w.heap.size ∨ w5.heap.size ≤ b from fun b hb => by
                rcases hloc with e | e
                · exact HOB.out b (e.symm.trans hb)
                · rw [e] at hb; injection hb with hb; have := HGE.out; have := bA.size; omega)
              have GA4 := Lib.hid (ints_kept (HGA.out.below bA) hgr HOB.out HGAB.out)
              have SA4 := Lib.hid (ints_kept (HSA.out.below bA) hgr HOB.out HSAB.out)
              have GE4 := Lib.hid (Nat.le_trans HGE.out (Nat.le_trans bA.size hgr.size))
              clear hown4 hgr hloc ga1 bA
              have hrg4 := rg_below HRG.out B4.out
              obtain ⟨c0, c1, c2, c3, c4, c5, q6, c7, c8⟩ := rg_it hrg4
              have C6 := fun d os => cell_regrown q6 d os
              have CZ := fun d os => cell_regrown (cell_low HCZ.out B4.out) d os
              have hw3 : IntKind.i64.wrap (P + Z) = P + Z := IntWalk.i64_in _ (by omega)
              have hw4 : IntKind.i64.wrap (P + Z + x.behind) = P + Z + x.behind := IntWalk.i64_in _ (by omega)
              clear c0 c1 c2 c3 c4 c5 q6 c7 c8 hrg4 C5 C7
              (try dsimp only)
              go_wp2_with (fail)
              refine wp_region_quiet_below (by kernel_rfl) (by kernel_rfl) ?_
              repeat (go_big_quiet_step (fail))
              refine wpQuiet_nil ?_
              intro _ hw'
              obtain ⟨⟨dq, osq⟩, hw''⟩ := hw'
              obtain ⟨w6, ew6⟩ : ∃ q, q = «Sort».grow (redrawn w4 dq) osq := ⟨_, rfl⟩
              have b6 : Below w4.heap.size w4 w6 := ew6 ▸ below_regrown w4 dq osq
              rw [← ew6] at hw''
              subst hw''
              have R6 := Lib.hid (R4.out.below b6)
              have B6 := Lib.hid (B4.out.trans (b6.mono B4.out.size))
              have GA6 := Lib.hid (GA4.out.below b6)
              have SA6 := Lib.hid (SA4.out.below b6)
              have GE6 := Lib.hid (Nat.le_trans GE4.out b6.size)
              clear ew6 b6 C6 CZ hw3 hw4 R4 B4 GA4 SA4 GE4
              obtain ⟨c0, c1, c2, c3, c4, c5, c6, c7, C8⟩ := rg_it (rg_below HRG.out B6.out)
              clear c0 c1 c2 c3 c4 c5 c6 c7
              obtain ⟨Q, eQ⟩ : ∃ q, q = P + Z + x.behind := ⟨_, rfl⟩
              rw [← eQ]
              rcases Bool.eq_false_or_eq_true x.ah with hah | hah
              · rw [if_pos hah] at hbh hnx
                have hA1 : A1 < G.length := by omega
                obtain ⟨bg2, og2, ega2, hbg2, hcg2⟩ := GA6.out.look hA1
                injection ega2 with ega2
                injection ega2 with ega21 ega22
                subst ega21 ega22
                have hgi2 : (A1 : Int) < (auN xs xs.length : Int) := by have := HGL.out; omega
                have hgz2 : (0 : Int) ≤ (A1 : Int) := Int.natCast_nonneg _
                have hgm2 : G.length ≤ 24 := HG24.out
                have HA22 := Lib.hid (show A2 = A1 + 1 from hnx)
                have hQE : Q + G.getD A1 0 = E1 := by omega
                generalize G.getD A1 0 = g2 at *
                have HQE := Lib.hid hQE
                have hQ0 : -200000000 ≤ Q ∧ Q ≤ 200000000 := by omega
                have hST1' : k + 1 < xs.length → Q + g2 + gap + SP.getD k 0 = ST2 := fun h => by have := hST1 h; omega
                have hST2' : ¬ k + 1 < xs.length → Q + g2 = ST2 := fun h => by have := hST2 h; omega
                clear hQE hST1 hST2 hnx hbh eQ hP hNX hbf hnx1 hPb hE1 hSt hB hH hZ hmg hgb1
                by_cases hk1 : k + 1 < xs.length
                · obtain ⟨bs, os, esa, hbs, hcs⟩ := SA6.out.look (k := k) (by rw [HSL.out]; exact hlt)
                  have hk1i : (k : Int) + 1 < (xs.length : Int) := by omega
                  have hsp3 := hsp2 hk1
                  have HFIN := Lib.hid (hST1' hk1)
                  rw [← hsp3] at hS1
                  clear hST1' hST2' hsp2 hsp3
                  subst esa
                  generalize SP.getD k 0 = S2 at *
                  repeat go_step
                  go_roundw
                  case rel => exact ⟨k + 1, by omega, by go_num, by rw [← EST2.out, ← HFIN.out], by first | (rw [← EA2.out, HA22.out]; done) | (rw [← EA2.out, HA22.out]; go_num), R6.out, OB4.out, B6.out, GA6.out, SA6.out, GE6.out⟩
                  case measure => simp [intOf]; omega
                · have hk1i : ¬ (k : Int) + 1 < (xs.length : Int) := by omega
                  have HFIN := Lib.hid (hST2' hk1)
                  clear hST1' hST2' hsp2 hS1
                  repeat go_step
                  go_roundw
                  case rel => exact ⟨k + 1, by omega, by go_num, by rw [← EST2.out, ← HFIN.out], by first | (rw [← EA2.out, HA22.out]; done) | (rw [← EA2.out, HA22.out]; go_num), R6.out, OB4.out, B6.out, GA6.out, SA6.out, GE6.out⟩
                  case measure => simp [intOf]; omega
              · rw [if_neg (by rw [hah]; decide)] at hbh hnx
                have HQE := Lib.hid (show Q = E1 by omega)
                have HA22 := Lib.hid (show A2 = A1 from hnx)
                have hQ0 : -200000000 ≤ Q ∧ Q ≤ 200000000 := by omega
                have hST1' : k + 1 < xs.length → Q + gap + SP.getD k 0 = ST2 := fun h => by have := hST1 h; omega
                have hST2' : ¬ k + 1 < xs.length → Q = ST2 := fun h => by have := hST2 h; omega
                clear hST1 hST2 hnx hbh eQ hP hNX hbf hnx1 hPb hE1 hSt hB hH hZ hmg hgb1 hgb2
                by_cases hk1 : k + 1 < xs.length
                · obtain ⟨bs, os, esa, hbs, hcs⟩ := SA6.out.look (k := k) (by rw [HSL.out]; exact hlt)
                  have hk1i : (k : Int) + 1 < (xs.length : Int) := by omega
                  have hsp3 := hsp2 hk1
                  have HFIN := Lib.hid (hST1' hk1)
                  rw [← hsp3] at hS1
                  clear hST1' hST2' hsp2 hsp3
                  subst esa
                  generalize SP.getD k 0 = S2 at *
                  repeat go_step
                  go_roundw
                  case rel => exact ⟨k + 1, by omega, by go_num, by rw [← EST2.out, ← HFIN.out], by first | (rw [← EA2.out, HA22.out]; done) | (rw [← EA2.out, HA22.out]; go_num), R6.out, OB4.out, B6.out, GA6.out, SA6.out, GE6.out⟩
                  case measure => simp [intOf]; omega
                · have hk1i : ¬ (k : Int) + 1 < (xs.length : Int) := by omega
                  have HFIN := Lib.hid (hST2' hk1)
                  clear hST1' hST2' hsp2 hS1
                  repeat go_step
                  go_roundw
                  case rel => exact ⟨k + 1, by omega, by go_num, by rw [← EST2.out, ← HFIN.out], by first | (rw [← EA2.out, HA22.out]; done) | (rw [← EA2.out, HA22.out]; go_num), R6.out, OB4.out, B6.out, GA6.out, SA6.out, GE6.out⟩
                  case measure => simp [intOf]; omega
            · rw [if_neg (by rw [hab]; decide)] at hbf hnx1
              have HP2 := Lib.hid (show ST + x.before = P by omega)
              have HA1 := Lib.hid (show A1 = A0 from hnx1)
              clear hb
              go_wp2_with (at_builtin; refine wpList_append_own_at _ rfl _ _ 24 rfl w.heap.size 3 i0 (.int .i64 0) 1 8 Try.underlying24 hi hz0 hz1 hz2 rfl (by decide) _ _ _ rfl (World.ownsRow.alloc HRO.out _) ⟨wr.heap.size, 0, none⟩ 1 1 [.int .i64 (ST + x.before)] rfl rfl (one_intP _ _ _) ?c2a2 ?c3a2 ?c4a2 ?c5a2 ?_)
              case c2a2 => intro u hu; simp at hu; subst hu; rfl
              case c3a2 => unfold maxLen; rw [HLL.out]; omega
              case c4a2 => rw [HLL.out]; omega
              case c5a2 => have := HB.out.size; simp; omega
              intro v' w4 hown4 hgr _ hloc
              rw [HP2.out] at hown4 hgr ⊢
              rw [show (A0 : Int) = (A1 : Int) from by have := HA1.out; omega]
              have ga1 := World.grownBy_alloc wr (.cells #[Value.int .i64 P] 3) none
              have bA : Below wr.heap.size wr (wr.alloc (.cells #[Value.int .i64 P] 3)) := (Below.refl _ _).alloc (Nat.le_refl _) _
              have R4 := Lib.hid (show RowI w.heap.size v' (plK ys zs gap sp (k + 1)) w4 by rw [HPL.out]; unfold RowI; rw [List.length_append]; simpa using hown4)
              have B4 := Lib.hid ((HB.out.trans (bA.mono HB.out.size)).grown hgr (Nat.le_trans HB.out.size bA.size) (fun g hg => (World.ownsRow.lt HRO.out g hg).1))
              have OB4 := Lib.hid (show ∀ b, v'.ownBlock = some b → b = w.heap.size ∨ w5.heap.size ≤ b from fun b hb => by
                rcases hloc with e | e
                · exact HOB.out b (e.symm.trans hb)
                · rw [e] at hb; injection hb with hb; have := HGE.out; have := bA.size; omega)
              have GA4 := Lib.hid (ints_kept (HGA.out.below bA) hgr HOB.out HGAB.out)
              have SA4 := Lib.hid (ints_kept (HSA.out.below bA) hgr HOB.out HSAB.out)
              have GE4 := Lib.hid (Nat.le_trans HGE.out (Nat.le_trans bA.size hgr.size))
              clear hown4 hgr hloc ga1 bA
              have hrg4 := rg_below HRG.out B4.out
              obtain ⟨c0, c1, c2, c3, c4, c5, q6, c7, c8⟩ := rg_it hrg4
              have C6 := fun d os => cell_regrown q6 d os
              have CZ := fun d os => cell_regrown (cell_low HCZ.out B4.out) d os
              have hw3 : IntKind.i64.wrap (P + Z) = P + Z := IntWalk.i64_in _ (by omega)
              have hw4 : IntKind.i64.wrap (P + Z + x.behind) = P + Z + x.behind := IntWalk.i64_in _ (by omega)
              clear c0 c1 c2 c3 c4 c5 q6 c7 c8 hrg4 C5 C7
              (try dsimp only)
              go_wp2_with (fail)
              refine wp_region_quiet_below (by kernel_rfl) (by kernel_rfl) ?_
              repeat (go_big_quiet_step (fail))
              refine wpQuiet_nil ?_
              intro _ hw'
              obtain ⟨⟨dq, osq⟩, hw''⟩ := hw'
              obtain ⟨w6, ew6⟩ : ∃ q, q = «Sort».grow (redrawn w4 dq) osq := ⟨_, rfl⟩
              have b6 : Below w4.heap.size w4 w6 := ew6 ▸ below_regrown w4 dq osq
              rw [← ew6] at hw''
              subst hw''
              have R6 := Lib.hid (R4.out.below b6)
              have B6 := Lib.hid (B4.out.trans (b6.mono B4.out.size))
              have GA6 := Lib.hid (GA4.out.below b6)
              have SA6 := Lib.hid (SA4.out.below b6)
              have GE6 := Lib.hid (Nat.le_trans GE4.out b6.size)
              clear ew6 b6 C6 CZ hw3 hw4 R4 B4 GA4 SA4 GE4
              obtain ⟨c0, c1, c2, c3, c4, c5, c6, c7, C8⟩ := rg_it (rg_below HRG.out B6.out)
              clear c0 c1 c2 c3 c4 c5 c6 c7
              obtain ⟨Q, eQ⟩ : ∃ q, q = P + Z + x.behind := ⟨_, rfl⟩
              rw [← eQ]
              rcases Bool.eq_false_or_eq_true x.ah with hah | hah
              · rw [if_pos hah] at hbh hnx
                have hA1 : A1 < G.length := by omega
                obtain ⟨bg2, og2, ega2, hbg2, hcg2⟩ := GA6.out.look hA1
                subst ega2
                have hgi2 : (A1 : Int) < (auN xs xs.length : Int) := by have := HGL.out; omega
                have hgz2 : (0 : Int) ≤ (A1 : Int) := Int.natCast_nonneg _
                have hgm2 : G.length ≤ 24 := HG24.out
                have HA22 := Lib.hid (show A2 = A1 + 1 from hnx)
                have hQE : Q + G.getD A1 0 = E1 := by omega
                generalize G.getD A1 0 = g2 at *
                have HQE := Lib.hid hQE
                have hQ0 : -200000000 ≤ Q ∧ Q ≤ 200000000 := by omega
                have hST1' : k + 1 < xs.length → Q + g2 + gap + SP.getD k 0 = ST2 := fun h => by have := hST1 h; omega
                have hST2' : ¬ k + 1 < xs.length → Q + g2 = ST2 := fun h => by have := hST2 h; omega
                clear hQE hST1 hST2 hnx hbh eQ hP hNX hbf hnx1 hPb hE1 hSt hB hH hZ hmg hgb1
                by_cases hk1 : k + 1 < xs.length
                · obtain ⟨bs, os, esa, hbs, hcs⟩ := SA6.out.look (k := k) (by rw [HSL.out]; exact hlt)
                  have hk1i : (k : Int) + 1 < (xs.length : Int) := by omega
                  have hsp3 := hsp2 hk1
                  have HFIN := Lib.hid (hST1' hk1)
                  rw [← hsp3] at hS1
                  clear hST1' hST2' hsp2 hsp3
                  subst esa
                  generalize SP.getD k 0 = S2 at *
                  repeat go_step
                  go_roundw
                  case rel => exact ⟨k + 1, by omega, by go_num, by rw [← EST2.out, ← HFIN.out], by first | (rw [← EA2.out, HA22.out]; done) | (rw [← EA2.out, HA22.out]; go_num), R6.out, OB4.out, B6.out, GA6.out, SA6.out, GE6.out⟩
                  case measure => simp [intOf]; omega
                · have hk1i : ¬ (k : Int) + 1 < (xs.length : Int) := by omega
                  have HFIN := Lib.hid (hST2' hk1)
                  clear hST1' hST2' hsp2 hS1
                  repeat go_step
                  go_roundw
                  case rel => exact ⟨k + 1, by omega, by go_num, by rw [← EST2.out, ← HFIN.out], by first | (rw [← EA2.out, HA22.out]; done) | (rw [← EA2.out, HA22.out]; go_num), R6.out, OB4.out, B6.out, GA6.out, SA6.out, GE6.out⟩
                  case measure => simp [intOf]; omega
              · rw [if_neg (by rw [hah]; decide)] at hbh hnx
                have HQE := Lib.hid (show Q = E1 by omega)
                have HA22 := Lib.hid (show A2 = A1 from hnx)
                have hQ0 : -200000000 ≤ Q ∧ Q ≤ 200000000 := by omega
                have hST1' : k + 1 < xs.length → Q + gap + SP.getD k 0 = ST2 := fun h => by have := hST1 h; omega
                have hST2' : ¬ k + 1 < xs.length → Q = ST2 := fun h => by have := hST2 h; omega
                clear hST1 hST2 hnx hbh eQ hP hNX hbf hnx1 hPb hE1 hSt hB hH hZ hmg hgb1 hgb2
                by_cases hk1 : k + 1 < xs.length
                · obtain ⟨bs, os, esa, hbs, hcs⟩ := SA6.out.look (k := k) (by rw [HSL.out]; exact hlt)
                  have hk1i : (k : Int) + 1 < (xs.length : Int) := by omega
                  have hsp3 := hsp2 hk1
                  have HFIN := Lib.hid (hST1' hk1)
                  rw [← hsp3] at hS1
                  clear hST1' hST2' hsp2 hsp3
                  subst esa
                  generalize SP.getD k 0 = S2 at *
                  repeat go_step
                  go_roundw
                  case rel => exact ⟨k + 1, by omega, by go_num, by rw [← EST2.out, ← HFIN.out], by first | (rw [← EA2.out, HA22.out]; done) | (rw [← EA2.out, HA22.out]; go_num), R6.out, OB4.out, B6.out, GA6.out, SA6.out, GE6.out⟩
                  case measure => simp [intOf]; omega
                · have hk1i : ¬ (k : Int) + 1 < (xs.length : Int) := by omega
                  have HFIN := Lib.hid (hST2' hk1)
                  clear hST1' hST2' hsp2 hS1
                  repeat go_step
                  go_roundw
                  case rel => exact ⟨k + 1, by omega, by go_num, by rw [← EST2.out, ← HFIN.out], by first | (rw [← EA2.out, HA22.out]; done) | (rw [← EA2.out, HA22.out]; go_num), R6.out, OB4.out, B6.out, GA6.out, SA6.out, GE6.out⟩
                  case measure => simp [intOf]; omega
          · obtain rfl : k = xs.length := by omega
            have HR9 := Lib.hid hro
            have HB9 := Lib.hid hb
            have HE9 := Lib.hid (st_end (n := xs.length) (ys := ys) (zs := zs) (gap := gap) (sp := sp) (k := xs.length) (Nat.lt_irrefl _))
            clear hro hb hob hga hsa hge
            rw [HE9.out]
            go_wp2
            go_ret2
            obtain rfl := ESP.out
            obtain rfl := EYS.out
            exact ⟨_, rfl, HR9.out, HB9.out⟩
      · have hG1 : gvV xs fc = List.replicate (auN xs xs.length) 0 := by
          rw [hG0, show (if fc < 0 then 0 else fc) = 0 by split <;> omega, evn_zero (by omega)]
        go_enter Try.func54, Try.ntmps54
        go_wp2_with (rw [← EU.out])
        refine KO.out.mono ?_
        rintro e w1 ⟨rfl, b1⟩
        have B1 := Lib.hid (BU.out.trans (b1.mono BU.out.size))
        have R1 := Lib.hid (HRu.out.below b1)
        have hs1 := b1.size
        clear b1 KO HRu BU
        (try dsimp only)
        go_wp2_with (fail)
        refine (KF.out w1 B1.out).mono ?_
        rintro e w2 ⟨rfl, b2⟩
        have B2 := Lib.hid (B1.out.trans (b2.mono B1.out.size))
        have R2 := Lib.hid (R1.out.below b2)
        have hs2 := b2.size
        clear b2 B1 R1 KF
        (try dsimp only)
        go_wp2_with (fail)
        refine (KC.out w2).mono ?_
        rintro e w2' ⟨rfl, rfl⟩
        clear KC
        (try dsimp only)
        go_wp2_with (fail)
        refine (KA.out _ B2.out).mono ?_
        rintro e w3 ⟨rfl, b3⟩
        have B3 := Lib.hid (B2.out.trans (b3.mono B2.out.size))
        have R3 := Lib.hid (R2.out.below b3)
        have hs3 := b3.size
        clear b3 B2 R2 KA
        (try dsimp only)
        go_wp2_with (first
          | (at_make; refine wpList_make_full _ rfl _ _ 24 rfl w3.heap.size 3 i0 (.int .i64 0) 1 Try.underlying24 hi hz0 hz1 .i64 .i64 _ _ (auN xs xs.length) rfl rfl rfl rfl (by rw [hz2]; omega) (by unfold maxLen; omega) (Nat.le_refl _) ?_))
        intro w35 hown35 hgrow35
        have HG35 := Lib.hid (show RowI w3.heap.size (.slice (some ⟨w3.heap.size, 0, none⟩) (auN xs xs.length) (auN xs xs.length)) (List.replicate (auN xs xs.length) 0) w35 by
          unfold RowI
          rw [toList_madeCells_one] at hown35
          first | simpa using hown35 | simpa [hau0] using hown35)
        have b35 : Below w3.heap.size w3 w35 := (Below.refl _ _).grown hgrow35 (Nat.le_refl _) (fun g hg => by cases hg)
        have B35 := Lib.hid (B3.out.trans (b35.mono B3.out.size))
        have R35 := Lib.hid (R3.out.below b35)
        have hs35 : w3.heap.size < w35.heap.size := (World.ownsRow.lt HG35.out w3.heap.size rfl).2
        clear hown35 hgrow35 b35 B3 R3
        (try dsimp only)
        go_wp2_with (first
          | (at_make; refine wpList_make_full _ rfl _ _ 24 rfl w35.heap.size 3 i0 (.int .i64 0) 1 Try.underlying24 hi hz0 hz1 .i64 .i64 _ _ xs.length rfl rfl rfl rfl (by rw [hz2]; omega) (by unfold maxLen; omega) (Nat.le_refl _) ?_))
        intro w4 hown4 hgrow4
        have HS4 := Lib.hid (show RowI w35.heap.size (.slice (some ⟨w35.heap.size, 0, none⟩) xs.length xs.length) (List.replicate xs.length 0) w4 by
          unfold RowI
          rw [toList_madeCells_one] at hown4
          simpa using hown4)
        have b4 : Below w35.heap.size w35 w4 := (Below.refl _ _).grown hgrow4 (Nat.le_refl _) (fun g hg => by cases hg)
        have B4 := Lib.hid (B35.out.trans (b4.mono B35.out.size))
        have R4 := Lib.hid (R35.out.below b4)
        have HG4 := Lib.hid (HG35.out.below b4)
        have hs4 : w35.heap.size < w4.heap.size := (World.ownsRow.lt HS4.out w35.heap.size rfl).2
        clear hown4 hgrow4 b4 B35 R35 HG35
        obtain ⟨w5, ew5⟩ : ∃ q, q = w4 := ⟨_, rfl⟩
        obtain ⟨ga, ega⟩ : ∃ q : Option Addr, q = some ⟨w3.heap.size, 0, none⟩ := ⟨_, rfl⟩
        obtain ⟨sa, esa0⟩ : ∃ q : Option Addr, q = some ⟨w35.heap.size, 0, none⟩ := ⟨_, rfl⟩
        have HGA0 := Lib.hid (show Ints w5 ga (auN xs xs.length) (gvV xs fc) by rw [ew5, ega, hG1]; exact HG4.out.ints (by simp) (zero_all _))
        have HGAB := Lib.hid (show ∀ b off, ga = some ⟨b, off, none⟩ → w.heap.size < b ∧ b < w5.heap.size from fun b off e => by rw [ega] at e; injection e with e; injection e with e; rw [ew5]; omega)
        have HSA0 := Lib.hid (show Ints w5 sa xs.length (List.replicate xs.length 0) by rw [ew5, esa0]; exact HS4.out.ints (by simp) (zero_all _))
        have HSAB := Lib.hid (show ∀ b off, sa = some ⟨b, off, none⟩ → w.heap.size < b ∧ b < w5.heap.size from fun b off e => by rw [esa0] at e; injection e with e; injection e with e; rw [ew5]; omega)
        have HR0 := Lib.hid (show RowI w.heap.size _ _ w5 by rw [ew5]; exact R4.out)
        have HB0 := Lib.hid (show Below w.heap.size w w5 by rw [ew5]; exact B4.out)
        rw [← ew5, ← ega, ← esa0]
        clear ew5 ega esa0 R4 B4 HS4 HG4
        obtain ⟨sp, esp⟩ : ∃ sp, sp = sqV xs fc js := ⟨_, rfl⟩
        have HST0 := Lib.hid (show (0 : Int) = stA xs.length (wxV xs fc) zs gap sp 0 by
          by_cases h0 : 0 < xs.length
          · rw [st_zero h0, esp]; exact (hsq 0).symm
          · rw [st_end h0]; rfl)
        have HSP := Lib.hid (show ∀ k, k + 1 < xs.length → (List.replicate xs.length (0 : Int)).getD k 0 = sp (k + 1) from fun k h => by rw [esp, hsq]; exact zero_at _ _)
        have HSL := Lib.hid (show (List.replicate xs.length (0 : Int)).length = xs.length by simp)
        have HR00 := Lib.hid (show RowI w.heap.size (.slice (some ⟨w.heap.size, 0, none⟩) 0 0) (plK (wxV xs fc) zs gap sp 0) w5 from HR0.out)
        have HOB0 := Lib.hid (show ∀ b, (Value.slice (some ⟨w.heap.size, 0, none⟩) 0 0).ownBlock = some b → b = w.heap.size ∨ w5.heap.size ≤ b from fun b hb => Or.inl (by have h : some w.heap.size = some b := hb; injection h with h; exact h.symm))
        rw [← esp] at HEB ⊢
        have HGA1 := Lib.hid (show Ints w5 ga (gvV xs fc).length (gvV xs fc) by rw [HGL.out]; exact HGA0.out)
        have HSA1 := Lib.hid (show Ints w5 sa (List.replicate xs.length (0 : Int)).length (List.replicate xs.length 0) by rw [HSL.out]; exact HSA0.out)
        obtain ⟨SP, eSP⟩ : ∃ q, q = List.replicate xs.length (0 : Int) := ⟨_, rfl⟩
        rw [← eSP] at HSP HSL HSA1
        obtain ⟨ys, eys⟩ : ∃ ys, ys = wxV xs fc := ⟨_, rfl⟩
        rw [← eys] at HST0 HR00 HEB HBF HBH ⊢
        obtain ⟨G, eG⟩ : ∃ G, G = gvV xs fc := ⟨_, rfl⟩
        rw [← eG] at HG24 HGL HGB HBF HBH HGA1
        have ESP := Lib.hid esp
        have EYS := Lib.hid eys
        have HSAL := Lib.hid (show ∀ q : Nat, q = xs.length → q = SP.length from fun q h => by rw [h, HSL.out])
        clear HR0 HGA0 HSA0 esp eys eSP eG
        have HR0 := HR00
        have HGA0 := HGA1
        have HSA0 := HSA1
        clear HR00 HGA1 HSA1
        (try dsimp only)
        go_wp2
        (try rw [show ((auN xs xs.length : Int) == 0) = false from beq_eq_false_iff_ne.2 hau3])
        go_loopw [12, 16, 18, 19] (PsRel w w5 xs ys zs gap sp ga sa G SP) (fun _ _ _ i _ => xs.length - (intOf i).toNat)
        case atStart => exact ⟨0, Nat.zero_le _, rfl, by rw [HST0.out], rfl, HR0.out, HOB0.out, HB0.out, HGA0.out, HSA0.out, Nat.le_refl _⟩
        case round =>
          clear HST0 HR0 HOB0 HB0 HGA0 HSA0
          obtain ⟨k, hk, rfl, rfl, rfl, hro, hob, hb, hga, hsa, hge⟩ := hrel
          by_cases hlt : k < xs.length
          · have hlo : (0 : Int) ≤ (k : Int) := Int.natCast_nonneg _
            have hhi : (k : Int) < (xs.length : Int) := by omega
            have hk12 : (k : Int) < 12 := by have := HN12.out; omega
            have hhz : (k : Int) < (zs.length : Int) := by have := HZL.out; omega
            obtain ⟨bi, oi, rfl, hbi, hrg⟩ := HZ.out.look hlt
            obtain ⟨bz, oz, rfl, hbz, hcz⟩ := HSZ.out.look (k := k) (Nat.lt_of_lt_of_eq hlt HZL.out.symm)
            have HRG := Lib.hid hrg
            have HCZ := Lib.hid hcz
            obtain ⟨c0, c1, c2, c3, c4, C5, C6, C7, C8⟩ := rg_it (rg_below hrg hb)
            clear c0 c1 c2 c3 c4 C6 C8 hrg hcz
            have hB := HEB.out.b k
            have hH := HEB.out.h k
            have hZ := HEB.out.z k
            have hG := HEB.out.g
            have hS1 := HEB.out.s (k + 1)
            have hE1 := en_bd HEB.out (k + 1)
            have hSt := st_bd (n := xs.length) HEB.out k
            have hPb := pl_bd HEB.out k
            have hP := st_lt (ys := ys) (zs := zs) (gap := gap) (sp := sp) hlt
            have hNX := en_next ys zs gap sp k
            have HPL := Lib.hid (plK_succ ys zs gap sp k)
            have hau2 : auN xs (k + 1) ≤ G.length := by rw [HGL.out]; exact auN_mono xs hlt
            have hnx := au1_next xs k
            have hnx1 : au1 xs k = auN xs k + (if (itD xs k).ab = true then 1 else 0) := rfl
            have hbf := HBF.out k hlt
            have hbh := HBH.out k hlt
            have hmg := HMG.out k
            have hgb1 := HGB.out (auN xs k)
            have hgb2 := HGB.out (au1 xs k)
            have hST1 : k + 1 < xs.length → enV ys zs gap sp (k + 1) + gap + SP.getD k 0 = stA xs.length ys zs gap sp (k + 1) := fun h => by rw [st_next h, HSP.out k h]
            have hST2 : ¬ k + 1 < xs.length → enV ys zs gap sp (k + 1) = stA xs.length ys zs gap sp (k + 1) := fun h => (st_end h).symm
            have HLL := Lib.hid (plK_len ys zs gap sp k)
            have hsp2 : k + 1 < xs.length → SP.getD k 0 = sp (k + 1) := HSP.out k
            obtain ⟨A2, eA2⟩ : ∃ q, q = auN xs (k + 1) := ⟨_, rfl⟩
            obtain ⟨ST2, eST2⟩ : ∃ q, q = stA xs.length ys zs gap sp (k + 1) := ⟨_, rfl⟩
            rw [← eA2] at hau2 hnx
            rw [← eST2] at hST1 hST2
            have EA2 := Lib.hid eA2
            have EST2 := Lib.hid eST2
            clear eA2 eST2
            generalize pvV ys gap sp (enV ys zs gap sp k) k = P at *
            generalize enV ys zs gap sp (k + 1) = E1 at *
            generalize stA xs.length ys zs gap sp k = ST at *
            generalize sp (k + 1) = S1 at *
            generalize zs.getD k 0 = Z at *
            generalize itD ys k = y at *
            generalize itD xs k = x at *
            generalize auN xs k = A0 at *
            generalize au1 xs k = A1 at *
            have HRO := Lib.hid hro
            have HOB := Lib.hid hob
            have HB := Lib.hid hb
            have HGA := Lib.hid hga
            have HSA := Lib.hid hsa
            have HGE := Lib.hid hge
            clear hro hob hga hsa hge
            rcases Bool.eq_false_or_eq_true x.ab with hab | hab
            · rw [if_pos hab] at hbf hnx1
              have hA0 : A0 < G.length := by omega
              obtain ⟨bg, og, ega, hbg, hcg⟩ := HGA.out.look hA0
              have hgi : (A0 : Int) < (auN xs xs.length : Int) := by have := HGL.out; omega
              have hgz : (0 : Int) ≤ (A0 : Int) := Int.natCast_nonneg _
              have hgm : G.length ≤ 24 := HG24.out
              have HP2 := Lib.hid (show ST + x.before + G.getD A0 0 = P by omega)
              have HA1 := Lib.hid hnx1
              subst ega
              generalize G.getD A0 0 = g1 at *
              clear hb
              go_wp2_with (at_builtin; refine wpList_append_own_at _ rfl _ _ 24 rfl w.heap.size 3 i0 (.int .i64 0) 1 8 Try.underlying24 hi hz0 hz1 hz2 rfl (by decide) _ _ _ rfl (World.ownsRow.alloc HRO.out _) ⟨wr.heap.size, 0, none⟩ 1 1 [.int .i64 (ST + x.before + g1)] rfl rfl (one_intP _ _ _) ?c2b1 ?c3b1 ?c4b1 ?c5b1 ?_)
              case c2b1 => intro u hu; simp at hu; subst hu; rfl
              case c3b1 => unfold maxLen; rw [HLL.out]; omega
              case c4b1 => rw [HLL.out]; omega
              case c5b1 => have := HB.out.size; simp; omega
              intro v' w4 hown4 hgr _ hloc
              rw [HP2.out] at hown4 hgr ⊢
              rw [show ((A0 : Int) + 1) = (A1 : Int) from by have := HA1.out; omega]
              have ga1 := World.grownBy_alloc wr (.cells #[Value.int .i64 P] 3) none
              have bA : Below wr.heap.size wr (wr.alloc (.cells #[Value.int .i64 P] 3)) := (Below.refl _ _).alloc (Nat.le_refl _) _
              have R4 := Lib.hid (show RowI w.heap.size v' (plK ys zs gap sp (k + 1)) w4 by rw [HPL.out]; unfold RowI; rw [List.length_append]; simpa using hown4)
              have B4 := Lib.hid ((HB.out.trans (bA.mono HB.out.size)).grown hgr (Nat.le_trans HB.out.size bA.size) (fun g hg => (World.ownsRow.lt HRO.out g hg).1))
              have OB4 := Lib.hid (show ∀ b, v'.ownBlock = some b → b = w.heap.size ∨ w5.heap.size ≤ b from fun b hb => by
                rcases hloc with e | e
                · exact HOB.out b (e.symm.trans hb)
                · rw [e] at hb; injection hb with hb; have := HGE.out; have := bA.size; omega)
              have GA4 := Lib.hid (ints_kept (HGA.out.below bA) hgr HOB.out HGAB.out)
              have SA4 := Lib.hid (ints_kept (HSA.out.below bA) hgr HOB.out HSAB.out)
              have GE4 := Lib.hid (Nat.le_trans HGE.out (Nat.le_trans bA.size hgr.size))
              clear hown4 hgr hloc ga1 bA
              have hrg4 := rg_below HRG.out B4.out
              obtain ⟨c0, c1, c2, c3, c4, c5, q6, c7, c8⟩ := rg_it hrg4
              have C6 := fun d os => cell_regrown q6 d os
              have CZ := fun d os => cell_regrown (cell_low HCZ.out B4.out) d os
              have hw3 : IntKind.i64.wrap (P + Z) = P + Z := IntWalk.i64_in _ (by omega)
              have hw4 : IntKind.i64.wrap (P + Z + x.behind) = P + Z + x.behind := IntWalk.i64_in _ (by omega)
              clear c0 c1 c2 c3 c4 c5 q6 c7 c8 hrg4 C5 C7
              (try dsimp only)
              go_wp2_with (fail)
              refine wp_region_quiet_below (by kernel_rfl) (by kernel_rfl) ?_
              repeat (go_big_quiet_step (fail))
              refine wpQuiet_nil ?_
              intro _ hw'
              obtain ⟨⟨dq, osq⟩, hw''⟩ := hw'
              obtain ⟨w6, ew6⟩ : ∃ q, q = «Sort».grow (redrawn w4 dq) osq := ⟨_, rfl⟩
              have b6 : Below w4.heap.size w4 w6 := ew6 ▸ below_regrown w4 dq osq
              rw [← ew6] at hw''
              subst hw''
              have R6 := Lib.hid (R4.out.below b6)
              have B6 := Lib.hid (B4.out.trans (b6.mono B4.out.size))
              have GA6 := Lib.hid (GA4.out.below b6)
              have SA6 := Lib.hid (SA4.out.below b6)
              have GE6 := Lib.hid (Nat.le_trans GE4.out b6.size)
              clear ew6 b6 C6 CZ hw3 hw4 R4 B4 GA4 SA4 GE4
              obtain ⟨c0, c1, c2, c3, c4, c5, c6, c7, C8⟩ := rg_it (rg_below HRG.out B6.out)
              clear c0 c1 c2 c3 c4 c5 c6 c7
              obtain ⟨Q, eQ⟩ : ∃ q, q = P + Z + x.behind := ⟨_, rfl⟩
              rw [← eQ]
              rcases Bool.eq_false_or_eq_true x.ah with hah | hah
              · rw [if_pos hah] at hbh hnx
                have hA1 : A1 < G.length := by omega
                obtain ⟨bg2, og2, ega2, hbg2, hcg2⟩ := GA6.out.look hA1
                injection ega2 with ega2
                injection ega2 with ega21 ega22
                subst ega21 ega22
                have hgi2 : (A1 : Int) < (auN xs xs.length : Int) := by have := HGL.out; omega
                have hgz2 : (0 : Int) ≤ (A1 : Int) := Int.natCast_nonneg _
                have hgm2 : G.length ≤ 24 := HG24.out
                have HA22 := Lib.hid (show A2 = A1 + 1 from hnx)
                have hQE : Q + G.getD A1 0 = E1 := by omega
                generalize G.getD A1 0 = g2 at *
                have HQE := Lib.hid hQE
                have hQ0 : -200000000 ≤ Q ∧ Q ≤ 200000000 := by omega
                have hST1' : k + 1 < xs.length → Q + g2 + gap + SP.getD k 0 = ST2 := fun h => by have := hST1 h; omega
                have hST2' : ¬ k + 1 < xs.length → Q + g2 = ST2 := fun h => by have := hST2 h; omega
                clear hQE hST1 hST2 hnx hbh eQ hP hNX hbf hnx1 hPb hE1 hSt hB hH hZ hmg hgb1
                by_cases hk1 : k + 1 < xs.length
                · obtain ⟨bs, os, esa, hbs, hcs⟩ := SA6.out.look (k := k) (by rw [HSL.out]; exact hlt)
                  have hk1i : (k : Int) + 1 < (xs.length : Int) := by omega
                  have hsp3 := hsp2 hk1
                  have HFIN := Lib.hid (hST1' hk1)
                  rw [← hsp3] at hS1
                  clear hST1' hST2' hsp2 hsp3
                  subst esa
                  generalize SP.getD k 0 = S2 at *
                  repeat go_step
                  go_roundw
                  case rel => exact ⟨k + 1, by omega, by go_num, by rw [← EST2.out, ← HFIN.out], by first | (rw [← EA2.out, HA22.out]; done) | (rw [← EA2.out, HA22.out]; go_num), R6.out, OB4.out, B6.out, GA6.out, SA6.out, GE6.out⟩
                  case measure => simp [intOf]; omega
                · have hk1i : ¬ (k : Int) + 1 < (xs.length : Int) := by omega
                  have HFIN := Lib.hid (hST2' hk1)
                  clear hST1' hST2' hsp2 hS1
                  repeat go_step
                  go_roundw
                  case rel => exact ⟨k + 1, by omega, by go_num, by rw [← EST2.out, ← HFIN.out], by first | (rw [← EA2.out, HA22.out]; done) | (rw [← EA2.out, HA22.out]; go_num), R6.out, OB4.out, B6.out, GA6.out, SA6.out, GE6.out⟩
                  case measure => simp [intOf]; omega
              · rw [if_neg (by rw [hah]; decide)] at hbh hnx
                have HQE := Lib.hid (show Q = E1 by omega)
                have HA22 := Lib.hid (show A2 = A1 from hnx)
                have hQ0 : -200000000 ≤ Q ∧ Q ≤ 200000000 := by omega
                have hST1' : k + 1 < xs.length → Q + gap + SP.getD k 0 = ST2 := fun h => by have := hST1 h; omega
                have hST2' : ¬ k + 1 < xs.length → Q = ST2 := fun h => by have := hST2 h; omega
                clear hST1 hST2 hnx hbh eQ hP hNX hbf hnx1 hPb hE1 hSt hB hH hZ hmg hgb1 hgb2
                by_cases hk1 : k + 1 < xs.length
                · obtain ⟨bs, os, esa, hbs, hcs⟩ := SA6.out.look (k := k) (by rw [HSL.out]; exact hlt)
                  have hk1i : (k : Int) + 1 < (xs.length : Int) := by omega
                  have hsp3 := hsp2 hk1
                  have HFIN := Lib.hid (hST1' hk1)
                  rw [← hsp3] at hS1
                  clear hST1' hST2' hsp2 hsp3
                  subst esa
                  generalize SP.getD k 0 = S2 at *
                  repeat go_step
                  go_roundw
                  case rel => exact ⟨k + 1, by omega, by go_num, by rw [← EST2.out, ← HFIN.out], by first | (rw [← EA2.out, HA22.out]; done) | (rw [← EA2.out, HA22.out]; go_num), R6.out, OB4.out, B6.out, GA6.out, SA6.out, GE6.out⟩
                  case measure => simp [intOf]; omega
                · have hk1i : ¬ (k : Int) + 1 < (xs.length : Int) := by omega
                  have HFIN := Lib.hid (hST2' hk1)
                  clear hST1' hST2' hsp2 hS1
                  repeat go_step
                  go_roundw
                  case rel => exact ⟨k + 1, by omega, by go_num, by rw [← EST2.out, ← HFIN.out], by first | (rw [← EA2.out, HA22.out]; done) | (rw [← EA2.out, HA22.out]; go_num), R6.out, OB4.out, B6.out, GA6.out, SA6.out, GE6.out⟩
                  case measure => simp [intOf]; omega
            · rw [if_neg (by rw [hab]; decide)] at hbf hnx1
              have HP2 := Lib.hid (show ST + x.before = P by omega)
              have HA1 := Lib.hid (show A1 = A0 from hnx1)
              clear hb
              go_wp2_with (at_builtin; refine wpList_append_own_at _ rfl _ _ 24 rfl w.heap.size 3 i0 (.int .i64 0) 1 8 Try.underlying24 hi hz0 hz1 hz2 rfl (by decide) _ _ _ rfl (World.ownsRow.alloc HRO.out _) ⟨wr.heap.size, 0, none⟩ 1 1 [.int .i64 (ST + x.before)] rfl rfl (one_intP _ _ _) ?c2b2 ?c3b2 ?c4b2 ?c5b2 ?_)
              case c2b2 => intro u hu; simp at hu; subst hu; rfl
              case c3b2 => unfold maxLen; rw [HLL.out]; omega
              case c4b2 => rw [HLL.out]; omega
              case c5b2 => have := HB.out.size; simp; omega
              intro v' w4 hown4 hgr _ hloc
              rw [HP2.out] at hown4 hgr ⊢
              rw [show (A0 : Int) = (A1 : Int) from by have := HA1.out; omega]
              have ga1 := World.grownBy_alloc wr (.cells #[Value.int .i64 P] 3) none
              have bA : Below wr.heap.size wr (wr.alloc (.cells #[Value.int .i64 P] 3)) := (Below.refl _ _).alloc (Nat.le_refl _) _
              have R4 := Lib.hid (show RowI w.heap.size v' (plK ys zs gap sp (k + 1)) w4 by rw [HPL.out]; unfold RowI; rw [List.length_append]; simpa using hown4)
              have B4 := Lib.hid ((HB.out.trans (bA.mono HB.out.size)).grown hgr (Nat.le_trans HB.out.size bA.size) (fun g hg => (World.ownsRow.lt HRO.out g hg).1))
              have OB4 := Lib.hid (show ∀ b, v'.ownBlock = some b → b = w.heap.size ∨ w5.heap.size ≤ b from fun b hb => by
                rcases hloc with e | e
                · exact HOB.out b (e.symm.trans hb)
                · rw [e] at hb; injection hb with hb; have := HGE.out; have := bA.size; omega)
              have GA4 := Lib.hid (ints_kept (HGA.out.below bA) hgr HOB.out HGAB.out)
              have SA4 := Lib.hid (ints_kept (HSA.out.below bA) hgr HOB.out HSAB.out)
              have GE4 := Lib.hid (Nat.le_trans HGE.out (Nat.le_trans bA.size hgr.size))
              clear hown4 hgr hloc ga1 bA
              have hrg4 := rg_below HRG.out B4.out
              obtain ⟨c0, c1, c2, c3, c4, c5, q6, c7, c8⟩ := rg_it hrg4
              have C6 := fun d os => cell_regrown q6 d os
              have CZ := fun d os => cell_regrown (cell_low HCZ.out B4.out) d os
              have hw3 : IntKind.i64.wrap (P + Z) = P + Z := IntWalk.i64_in _ (by omega)
              have hw4 : IntKind.i64.wrap (P + Z + x.behind) = P + Z + x.behind := IntWalk.i64_in _ (by omega)
              clear c0 c1 c2 c3 c4 c5 q6 c7 c8 hrg4 C5 C7
              (try dsimp only)
              go_wp2_with (fail)
              refine wp_region_quiet_below (by kernel_rfl) (by kernel_rfl) ?_
              repeat (go_big_quiet_step (fail))
              refine wpQuiet_nil ?_
              intro _ hw'
              obtain ⟨⟨dq, osq⟩, hw''⟩ := hw'
              obtain ⟨w6, ew6⟩ : ∃ q, q = «Sort».grow (redrawn w4 dq) osq := ⟨_, rfl⟩
              have b6 : Below w4.heap.size w4 w6 := ew6 ▸ below_regrown w4 dq osq
              rw [← ew6] at hw''
              subst hw''
              have R6 := Lib.hid (R4.out.below b6)
              have B6 := Lib.hid (B4.out.trans (b6.mono B4.out.size))
              have GA6 := Lib.hid (GA4.out.below b6)
              have SA6 := Lib.hid (SA4.out.below b6)
              have GE6 := Lib.hid (Nat.le_trans GE4.out b6.size)
              clear ew6 b6 C6 CZ hw3 hw4 R4 B4 GA4 SA4 GE4
              obtain ⟨c0, c1, c2, c3, c4, c5, c6, c7, C8⟩ := rg_it (rg_below HRG.out B6.out)
              clear c0 c1 c2 c3 c4 c5 c6 c7
              obtain ⟨Q, eQ⟩ : ∃ q, q = P + Z + x.behind := ⟨_, rfl⟩
              rw [← eQ]
              rcases Bool.eq_false_or_eq_true x.ah with hah | hah
              · rw [if_pos hah] at hbh hnx
                have hA1 : A1 < G.length := by omega
                obtain ⟨bg2, og2, ega2, hbg2, hcg2⟩ := GA6.out.look hA1
                subst ega2
                have hgi2 : (A1 : Int) < (auN xs xs.length : Int) := by have := HGL.out; omega
                have hgz2 : (0 : Int) ≤ (A1 : Int) := Int.natCast_nonneg _
                have hgm2 : G.length ≤ 24 := HG24.out
                have HA22 := Lib.hid (show A2 = A1 + 1 from hnx)
                have hQE : Q + G.getD A1 0 = E1 := by omega
                generalize G.getD A1 0 = g2 at *
                have HQE := Lib.hid hQE
                have hQ0 : -200000000 ≤ Q ∧ Q ≤ 200000000 := by omega
                have hST1' : k + 1 < xs.length → Q + g2 + gap + SP.getD k 0 = ST2 := fun h => by have := hST1 h; omega
                have hST2' : ¬ k + 1 < xs.length → Q + g2 = ST2 := fun h => by have := hST2 h; omega
                clear hQE hST1 hST2 hnx hbh eQ hP hNX hbf hnx1 hPb hE1 hSt hB hH hZ hmg hgb1
                by_cases hk1 : k + 1 < xs.length
                · obtain ⟨bs, os, esa, hbs, hcs⟩ := SA6.out.look (k := k) (by rw [HSL.out]; exact hlt)
                  have hk1i : (k : Int) + 1 < (xs.length : Int) := by omega
                  have hsp3 := hsp2 hk1
                  have HFIN := Lib.hid (hST1' hk1)
                  rw [← hsp3] at hS1
                  clear hST1' hST2' hsp2 hsp3
                  subst esa
                  generalize SP.getD k 0 = S2 at *
                  repeat go_step
                  go_roundw
                  case rel => exact ⟨k + 1, by omega, by go_num, by rw [← EST2.out, ← HFIN.out], by first | (rw [← EA2.out, HA22.out]; done) | (rw [← EA2.out, HA22.out]; go_num), R6.out, OB4.out, B6.out, GA6.out, SA6.out, GE6.out⟩
                  case measure => simp [intOf]; omega
                · have hk1i : ¬ (k : Int) + 1 < (xs.length : Int) := by omega
                  have HFIN := Lib.hid (hST2' hk1)
                  clear hST1' hST2' hsp2 hS1
                  repeat go_step
                  go_roundw
                  case rel => exact ⟨k + 1, by omega, by go_num, by rw [← EST2.out, ← HFIN.out], by first | (rw [← EA2.out, HA22.out]; done) | (rw [← EA2.out, HA22.out]; go_num), R6.out, OB4.out, B6.out, GA6.out, SA6.out, GE6.out⟩
                  case measure => simp [intOf]; omega
              · rw [if_neg (by rw [hah]; decide)] at hbh hnx
                have HQE := Lib.hid (show Q = E1 by omega)
                have HA22 := Lib.hid (show A2 = A1 from hnx)
                have hQ0 : -200000000 ≤ Q ∧ Q ≤ 200000000 := by omega
                have hST1' : k + 1 < xs.length → Q + gap + SP.getD k 0 = ST2 := fun h => by have := hST1 h; omega
                have hST2' : ¬ k + 1 < xs.length → Q = ST2 := fun h => by have := hST2 h; omega
                clear hST1 hST2 hnx hbh eQ hP hNX hbf hnx1 hPb hE1 hSt hB hH hZ hmg hgb1 hgb2
                by_cases hk1 : k + 1 < xs.length
                · obtain ⟨bs, os, esa, hbs, hcs⟩ := SA6.out.look (k := k) (by rw [HSL.out]; exact hlt)
                  have hk1i : (k : Int) + 1 < (xs.length : Int) := by omega
                  have hsp3 := hsp2 hk1
                  have HFIN := Lib.hid (hST1' hk1)
                  rw [← hsp3] at hS1
                  clear hST1' hST2' hsp2 hsp3
                  subst esa
                  generalize SP.getD k 0 = S2 at *
                  repeat go_step
                  go_roundw
                  case rel => exact ⟨k + 1, by omega, by go_num, by rw [← EST2.out, ← HFIN.out], by first | (rw [← EA2.out, HA22.out]; done) | (rw [← EA2.out, HA22.out]; go_num), R6.out, OB4.out, B6.out, GA6.out, SA6.out, GE6.out⟩
                  case measure => simp [intOf]; omega
                · have hk1i : ¬ (k : Int) + 1 < (xs.length : Int) := by omega
                  have HFIN := Lib.hid (hST2' hk1)
                  clear hST1' hST2' hsp2 hS1
                  repeat go_step
                  go_roundw
                  case rel => exact ⟨k + 1, by omega, by go_num, by rw [← EST2.out, ← HFIN.out], by first | (rw [← EA2.out, HA22.out]; done) | (rw [← EA2.out, HA22.out]; go_num), R6.out, OB4.out, B6.out, GA6.out, SA6.out, GE6.out⟩
                  case measure => simp [intOf]; omega
          · obtain rfl : k = xs.length := by omega
            have HR9 := Lib.hid hro
            have HB9 := Lib.hid hb
            have HE9 := Lib.hid (st_end (n := xs.length) (ys := ys) (zs := zs) (gap := gap) (sp := sp) (k := xs.length) (Nat.lt_irrefl _))
            clear hro hb hob hga hsa hge
            rw [HE9.out]
            go_wp2
            go_ret2
            obtain rfl := ESP.out
            obtain rfl := EYS.out
            exact ⟨_, rfl, HR9.out, HB9.out⟩
    · have hau0 : auN xs xs.length = 0 := by omega
      have hau2 : ¬ (0 : Int) < (auN xs xs.length : Int) := by omega
      have hau3 : (auN xs xs.length : Int) = 0 := by omega
      have hsq := fun i => sq_none (free := fc) (js := js) hau0 i
      have hG1 : gvV xs fc = List.replicate (auN xs xs.length) 0 := by
        rw [hG0, hau0]
        exact List.length_eq_zero_iff.1 (evn_len (by omega))
      go_enter Try.func54, Try.ntmps54
      go_wp2_with (rw [← EU.out])
      refine KO.out.mono ?_
      rintro e w1 ⟨rfl, b1⟩
      have B1 := Lib.hid (BU.out.trans (b1.mono BU.out.size))
      have R1 := Lib.hid (HRu.out.below b1)
      have hs1 := b1.size
      clear b1 KO HRu BU
      (try dsimp only)
      go_wp2_with (fail)
      refine (KF.out w1 B1.out).mono ?_
      rintro e w2 ⟨rfl, b2⟩
      have B2 := Lib.hid (B1.out.trans (b2.mono B1.out.size))
      have R2 := Lib.hid (R1.out.below b2)
      have hs2 := b2.size
      clear b2 B1 R1 KF
      (try dsimp only)
      go_wp2_with (fail)
      refine (KC.out w2).mono ?_
      rintro e w2' ⟨rfl, rfl⟩
      clear KC
      (try dsimp only)
      go_wp2_with (fail)
      refine (KA.out _ B2.out).mono ?_
      rintro e w3 ⟨rfl, b3⟩
      have B3 := Lib.hid (B2.out.trans (b3.mono B2.out.size))
      have R3 := Lib.hid (R2.out.below b3)
      have hs3 := b3.size
      clear b3 B2 R2 KA
      (try dsimp only)
      go_wp2_with (first
        | (at_make; refine wpList_make_full _ rfl _ _ 24 rfl w3.heap.size 3 i0 (.int .i64 0) 1 Try.underlying24 hi hz0 hz1 .i64 .i64 _ _ (auN xs xs.length) rfl rfl rfl rfl (by rw [hz2]; omega) (by unfold maxLen; omega) (Nat.le_refl _) ?_))
      intro w35 hown35 hgrow35
      have HG35 := Lib.hid (show RowI w3.heap.size (.slice (some ⟨w3.heap.size, 0, none⟩) (auN xs xs.length) (auN xs xs.length)) (List.replicate (auN xs xs.length) 0) w35 by
        unfold RowI
        rw [toList_madeCells_one] at hown35
        first | simpa using hown35 | simpa [hau0] using hown35)
      have b35 : Below w3.heap.size w3 w35 := (Below.refl _ _).grown hgrow35 (Nat.le_refl _) (fun g hg => by cases hg)
      have B35 := Lib.hid (B3.out.trans (b35.mono B3.out.size))
      have R35 := Lib.hid (R3.out.below b35)
      have hs35 : w3.heap.size < w35.heap.size := (World.ownsRow.lt HG35.out w3.heap.size rfl).2
      clear hown35 hgrow35 b35 B3 R3
      (try dsimp only)
      go_wp2_with (first
        | (at_make; refine wpList_make_full _ rfl _ _ 24 rfl w35.heap.size 3 i0 (.int .i64 0) 1 Try.underlying24 hi hz0 hz1 .i64 .i64 _ _ xs.length rfl rfl rfl rfl (by rw [hz2]; omega) (by unfold maxLen; omega) (Nat.le_refl _) ?_))
      intro w4 hown4 hgrow4
      have HS4 := Lib.hid (show RowI w35.heap.size (.slice (some ⟨w35.heap.size, 0, none⟩) xs.length xs.length) (List.replicate xs.length 0) w4 by
        unfold RowI
        rw [toList_madeCells_one] at hown4
        simpa using hown4)
      have b4 : Below w35.heap.size w35 w4 := (Below.refl _ _).grown hgrow4 (Nat.le_refl _) (fun g hg => by cases hg)
      have B4 := Lib.hid (B35.out.trans (b4.mono B35.out.size))
      have R4 := Lib.hid (R35.out.below b4)
      have HG4 := Lib.hid (HG35.out.below b4)
      have hs4 : w35.heap.size < w4.heap.size := (World.ownsRow.lt HS4.out w35.heap.size rfl).2
      clear hown4 hgrow4 b4 B35 R35 HG35
      (try dsimp only)
      go_wp2_with (fail)
      refine (KL.out w4).mono ?_
      rintro e w45 ⟨rfl, b45⟩
      have B45 := Lib.hid (B4.out.trans (b45.mono B4.out.size))
      have R45 := Lib.hid (R4.out.below b45)
      have HG45 := Lib.hid (HG4.out.below b45)
      have hs45 := b45.size
      clear b45 B4 R4 HG4 HS4 KL
      (try dsimp only)
      go_wp2_with (fail)
      refine (KS.out w45).mono ?_
      rintro e w5 ⟨sv, rfl, r5, b5⟩
      obtain ⟨sa, sc, rfl, hsa0⟩ := r5.slice (scV_all hfc.1 hfc.2)
      rw [scV_len] at hsa0 ⊢
      have HSA0 := Lib.hid hsa0
      have HSAB := Lib.hid (show ∀ b off, sa = some ⟨b, off, none⟩ → w.heap.size < b ∧ b < w5.heap.size from fun b off e => by
        have := row_in r5 _ _ _ rfl b off e
        have := B45.out.size
        omega)
      obtain ⟨ga, ega⟩ : ∃ q : Option Addr, q = some ⟨w3.heap.size, 0, none⟩ := ⟨_, rfl⟩
      have HGA0 := Lib.hid (show Ints w5 ga (auN xs xs.length) (gvV xs fc) by rw [ega, hG1]; exact (HG45.out.below b5).ints (by simp) (zero_all _))
      have HGAB := Lib.hid (show ∀ b off, ga = some ⟨b, off, none⟩ → w.heap.size < b ∧ b < w5.heap.size from fun b off e => by rw [ega] at e; injection e with e; injection e with e; have := b5.size; omega)
      have HR0 := Lib.hid (R45.out.below b5)
      have HB0 := Lib.hid (B45.out.trans (b5.mono B45.out.size))
      rw [← ega]
      clear r5 b5 hsa0 ega R45 B45 HG45 KS
      obtain ⟨sp, esp⟩ : ∃ sp, sp = sqV xs fc js := ⟨_, rfl⟩
      have HST0 := Lib.hid (show ldV fc xs.length js = stA xs.length (wxV xs fc) zs gap sp 0 by
        by_cases h0 : 0 < xs.length
        · rw [st_zero h0, esp]; exact hsq 0
        · rw [st_end h0, ld_no (by rw [show (xs.length : Int) = 0 by omega]; rfl)]; rfl)
      have HSP := Lib.hid (show ∀ k, k + 1 < xs.length → (scV fc xs.length js).getD k 0 = sp (k + 1) from fun k h => by rw [esp, ← hsq]; exact scV_at h)
      have HSL := Lib.hid (show (scV fc xs.length js).length = xs.length by exact scV_len _ _ _)
      have HR00 := Lib.hid (show RowI w.heap.size (.slice (some ⟨w.heap.size, 0, none⟩) 0 0) (plK (wxV xs fc) zs gap sp 0) w5 from HR0.out)
      have HOB0 := Lib.hid (show ∀ b, (Value.slice (some ⟨w.heap.size, 0, none⟩) 0 0).ownBlock = some b → b = w.heap.size ∨ w5.heap.size ≤ b from fun b hb => Or.inl (by have h : some w.heap.size = some b := hb; injection h with h; exact h.symm))
      rw [← esp] at HEB ⊢
      have HGA1 := Lib.hid (show Ints w5 ga (gvV xs fc).length (gvV xs fc) by rw [HGL.out]; exact HGA0.out)
      have HSA1 := Lib.hid (show Ints w5 sa (scV fc xs.length js).length (scV fc xs.length js) by rw [HSL.out]; exact HSA0.out)
      obtain ⟨SP, eSP⟩ : ∃ q, q = scV fc xs.length js := ⟨_, rfl⟩
      rw [← eSP] at HSP HSL HSA1
      obtain ⟨ys, eys⟩ : ∃ ys, ys = wxV xs fc := ⟨_, rfl⟩
      rw [← eys] at HST0 HR00 HEB HBF HBH ⊢
      obtain ⟨G, eG⟩ : ∃ G, G = gvV xs fc := ⟨_, rfl⟩
      rw [← eG] at HG24 HGL HGB HBF HBH HGA1
      have ESP := Lib.hid esp
      have EYS := Lib.hid eys
      have HSAL := Lib.hid (show ∀ q : Nat, q = xs.length → q = SP.length from fun q h => by rw [h, HSL.out])
      clear HR0 HGA0 HSA0 esp eys eSP eG
      have HR0 := HR00
      have HGA0 := HGA1
      have HSA0 := HSA1
      clear HR00 HGA1 HSA1
      (try dsimp only)
      go_wp2
      (try rw [show ((auN xs xs.length : Int) == 0) = false from beq_eq_false_iff_ne.2 hau3])
      go_loopw [12, 16, 18, 19] (PsRel w w5 xs ys zs gap sp ga sa G SP) (fun _ _ _ i _ => xs.length - (intOf i).toNat)
      case atStart => exact ⟨0, Nat.zero_le _, rfl, by rw [HST0.out], rfl, HR0.out, HOB0.out, HB0.out, HGA0.out, HSA0.out, Nat.le_refl _⟩
      case round =>
        clear HST0 HR0 HOB0 HB0 HGA0 HSA0
        obtain ⟨k, hk, rfl, rfl, rfl, hro, hob, hb, hga, hsa, hge⟩ := hrel
        by_cases hlt : k < xs.length
        · have hlo : (0 : Int) ≤ (k : Int) := Int.natCast_nonneg _
          have hhi : (k : Int) < (xs.length : Int) := by omega
          have hk12 : (k : Int) < 12 := by have := HN12.out; omega
          have hhz : (k : Int) < (zs.length : Int) := by have := HZL.out; omega
          obtain ⟨bi, oi, rfl, hbi, hrg⟩ := HZ.out.look hlt
          obtain ⟨bz, oz, rfl, hbz, hcz⟩ := HSZ.out.look (k := k) (Nat.lt_of_lt_of_eq hlt HZL.out.symm)
          have HRG := Lib.hid hrg
          have HCZ := Lib.hid hcz
          obtain ⟨c0, c1, c2, c3, c4, C5, C6, C7, C8⟩ := rg_it (rg_below hrg hb)
          clear c0 c1 c2 c3 c4 C6 C8 hrg hcz
          have hB := HEB.out.b k
          have hH := HEB.out.h k
          have hZ := HEB.out.z k
          have hG := HEB.out.g
          have hS1 := HEB.out.s (k + 1)
          have hE1 := en_bd HEB.out (k + 1)
          have hSt := st_bd (n := xs.length) HEB.out k
          have hPb := pl_bd HEB.out k
          have hP := st_lt (ys := ys) (zs := zs) (gap := gap) (sp := sp) hlt
          have hNX := en_next ys zs gap sp k
          have HPL := Lib.hid (plK_succ ys zs gap sp k)
          have hau2 : auN xs (k + 1) ≤ G.length := by rw [HGL.out]; exact auN_mono xs hlt
          have hnx := au1_next xs k
          have hnx1 : au1 xs k = auN xs k + (if (itD xs k).ab = true then 1 else 0) := rfl
          have hbf := HBF.out k hlt
          have hbh := HBH.out k hlt
          have hmg := HMG.out k
          have hgb1 := HGB.out (auN xs k)
          have hgb2 := HGB.out (au1 xs k)
          have hST1 : k + 1 < xs.length → enV ys zs gap sp (k + 1) + gap + SP.getD k 0 = stA xs.length ys zs gap sp (k + 1) := fun h => by rw [st_next h, HSP.out k h]
          have hST2 : ¬ k + 1 < xs.length → enV ys zs gap sp (k + 1) = stA xs.length ys zs gap sp (k + 1) := fun h => (st_end h).symm
          have HLL := Lib.hid (plK_len ys zs gap sp k)
          have hsp2 : k + 1 < xs.length → SP.getD k 0 = sp (k + 1) := HSP.out k
          obtain ⟨A2, eA2⟩ : ∃ q, q = auN xs (k + 1) := ⟨_, rfl⟩
          obtain ⟨ST2, eST2⟩ : ∃ q, q = stA xs.length ys zs gap sp (k + 1) := ⟨_, rfl⟩
          rw [← eA2] at hau2 hnx
          rw [← eST2] at hST1 hST2
          have EA2 := Lib.hid eA2
          have EST2 := Lib.hid eST2
          clear eA2 eST2
          generalize pvV ys gap sp (enV ys zs gap sp k) k = P at *
          generalize enV ys zs gap sp (k + 1) = E1 at *
          generalize stA xs.length ys zs gap sp k = ST at *
          generalize sp (k + 1) = S1 at *
          generalize zs.getD k 0 = Z at *
          generalize itD ys k = y at *
          generalize itD xs k = x at *
          generalize auN xs k = A0 at *
          generalize au1 xs k = A1 at *
          have HRO := Lib.hid hro
          have HOB := Lib.hid hob
          have HB := Lib.hid hb
          have HGA := Lib.hid hga
          have HSA := Lib.hid hsa
          have HGE := Lib.hid hge
          clear hro hob hga hsa hge
          rcases Bool.eq_false_or_eq_true x.ab with hab | hab
          · rw [if_pos hab] at hbf hnx1
            exfalso
            have := HGL.out
            omega
          · rw [if_neg (by rw [hab]; decide)] at hbf hnx1
            have HP2 := Lib.hid (show ST + x.before = P by omega)
            have HA1 := Lib.hid (show A1 = A0 from hnx1)
            clear hb
            go_wp2_with (at_builtin; refine wpList_append_own_at _ rfl _ _ 24 rfl w.heap.size 3 i0 (.int .i64 0) 1 8 Try.underlying24 hi hz0 hz1 hz2 rfl (by decide) _ _ _ rfl (World.ownsRow.alloc HRO.out _) ⟨wr.heap.size, 0, none⟩ 1 1 [.int .i64 (ST + x.before)] rfl rfl (one_intP _ _ _) ?c2d1 ?c3d1 ?c4d1 ?c5d1 ?_)
            case c2d1 => intro u hu; simp at hu; subst hu; rfl
            case c3d1 => unfold maxLen; rw [HLL.out]; omega
            case c4d1 => rw [HLL.out]; omega
            case c5d1 => have := HB.out.size; simp; omega
            intro v' w4 hown4 hgr _ hloc
            rw [HP2.out] at hown4 hgr ⊢
            rw [show (A0 : Int) = (A1 : Int) from by have := HA1.out; omega]
            have ga1 := World.grownBy_alloc wr (.cells #[Value.int .i64 P] 3) none
            have bA : Below wr.heap.size wr (wr.alloc (.cells #[Value.int .i64 P] 3)) := (Below.refl _ _).alloc (Nat.le_refl _) _
            have R4 := Lib.hid (show RowI w.heap.size v' (plK ys zs gap sp (k + 1)) w4 by rw [HPL.out]; unfold RowI; rw [List.length_append]; simpa using hown4)
            have B4 := Lib.hid ((HB.out.trans (bA.mono HB.out.size)).grown hgr (Nat.le_trans HB.out.size bA.size) (fun g hg => (World.ownsRow.lt HRO.out g hg).1))
            have OB4 := Lib.hid (show ∀ b, v'.ownBlock = some b → b = w.heap.size ∨ w5.heap.size ≤ b from fun b hb => by
              rcases hloc with e | e
              · exact HOB.out b (e.symm.trans hb)
              · rw [e] at hb; injection hb with hb; have := HGE.out; have := bA.size; omega)
            have GA4 := Lib.hid (ints_kept (HGA.out.below bA) hgr HOB.out HGAB.out)
            have SA4 := Lib.hid (ints_kept (HSA.out.below bA) hgr HOB.out HSAB.out)
            have GE4 := Lib.hid (Nat.le_trans HGE.out (Nat.le_trans bA.size hgr.size))
            clear hown4 hgr hloc ga1 bA
            have hrg4 := rg_below HRG.out B4.out
            obtain ⟨c0, c1, c2, c3, c4, c5, q6, c7, c8⟩ := rg_it hrg4
            have C6 := fun d os => cell_regrown q6 d os
            have CZ := fun d os => cell_regrown (cell_low HCZ.out B4.out) d os
            have hw3 : IntKind.i64.wrap (P + Z) = P + Z := IntWalk.i64_in _ (by omega)
            have hw4 : IntKind.i64.wrap (P + Z + x.behind) = P + Z + x.behind := IntWalk.i64_in _ (by omega)
            clear c0 c1 c2 c3 c4 c5 q6 c7 c8 hrg4 C5 C7
            (try dsimp only)
            go_wp2_with (fail)
            refine wp_region_quiet_below (by kernel_rfl) (by kernel_rfl) ?_
            repeat (go_big_quiet_step (fail))
            refine wpQuiet_nil ?_
            intro _ hw'
            obtain ⟨⟨dq, osq⟩, hw''⟩ := hw'
            obtain ⟨w6, ew6⟩ : ∃ q, q = «Sort».grow (redrawn w4 dq) osq := ⟨_, rfl⟩
            have b6 : Below w4.heap.size w4 w6 := ew6 ▸ below_regrown w4 dq osq
            rw [← ew6] at hw''
            subst hw''
            have R6 := Lib.hid (R4.out.below b6)
            have B6 := Lib.hid (B4.out.trans (b6.mono B4.out.size))
            have GA6 := Lib.hid (GA4.out.below b6)
            have SA6 := Lib.hid (SA4.out.below b6)
            have GE6 := Lib.hid (Nat.le_trans GE4.out b6.size)
            clear ew6 b6 C6 CZ hw3 hw4 R4 B4 GA4 SA4 GE4
            obtain ⟨c0, c1, c2, c3, c4, c5, c6, c7, C8⟩ := rg_it (rg_below HRG.out B6.out)
            clear c0 c1 c2 c3 c4 c5 c6 c7
            obtain ⟨Q, eQ⟩ : ∃ q, q = P + Z + x.behind := ⟨_, rfl⟩
            rw [← eQ]
            rcases Bool.eq_false_or_eq_true x.ah with hah | hah
            · rw [if_pos hah] at hbh hnx
              exfalso
              have := HGL.out
              omega
            · rw [if_neg (by rw [hah]; decide)] at hbh hnx
              have HQE := Lib.hid (show Q = E1 by omega)
              have HA22 := Lib.hid (show A2 = A1 from hnx)
              have hQ0 : -200000000 ≤ Q ∧ Q ≤ 200000000 := by omega
              have hST1' : k + 1 < xs.length → Q + gap + SP.getD k 0 = ST2 := fun h => by have := hST1 h; omega
              have hST2' : ¬ k + 1 < xs.length → Q = ST2 := fun h => by have := hST2 h; omega
              clear hST1 hST2 hnx hbh eQ hP hNX hbf hnx1 hPb hE1 hSt hB hH hZ hmg hgb1 hgb2
              by_cases hk1 : k + 1 < xs.length
              · obtain ⟨bs, os, esa, hbs, hcs⟩ := SA6.out.look (k := k) (by rw [HSL.out]; exact hlt)
                have hk1i : (k : Int) + 1 < (xs.length : Int) := by omega
                have hsp3 := hsp2 hk1
                have HFIN := Lib.hid (hST1' hk1)
                rw [← hsp3] at hS1
                clear hST1' hST2' hsp2 hsp3
                subst esa
                generalize SP.getD k 0 = S2 at *
                repeat go_step
                go_roundw
                case rel => exact ⟨k + 1, by omega, by go_num, by rw [← EST2.out, ← HFIN.out], by first | (rw [← EA2.out, HA22.out]; done) | (rw [← EA2.out, HA22.out]; go_num), R6.out, OB4.out, B6.out, GA6.out, SA6.out, GE6.out⟩
                case measure => simp [intOf]; omega
              · have hk1i : ¬ (k : Int) + 1 < (xs.length : Int) := by omega
                have HFIN := Lib.hid (hST2' hk1)
                clear hST1' hST2' hsp2 hS1
                repeat go_step
                go_roundw
                case rel => exact ⟨k + 1, by omega, by go_num, by rw [← EST2.out, ← HFIN.out], by first | (rw [← EA2.out, HA22.out]; done) | (rw [← EA2.out, HA22.out]; go_num), R6.out, OB4.out, B6.out, GA6.out, SA6.out, GE6.out⟩
                case measure => simp [intOf]; omega
        · obtain rfl : k = xs.length := by omega
          have HR9 := Lib.hid hro
          have HB9 := Lib.hid hb
          have HE9 := Lib.hid (st_end (n := xs.length) (ys := ys) (zs := zs) (gap := gap) (sp := sp) (k := xs.length) (Nat.lt_irrefl _))
          clear hro hb hob hga hsa hge
          rw [HE9.out]
          go_wp2
          go_ret2
          obtain rfl := ESP.out
          obtain rfl := EYS.out
          exact ⟨_, rfl, HR9.out, HB9.out⟩
theorem splaces_along (a : Option Addr) (cap : Nat) (xs : List It) (b : Option Addr) (len cap2 : Nat) (zs : List Int) (gap inner js : Int) (w : World) (hz : Its w a xs) (hl : xs.length ≤ 1048576) (hs : Ints w b len zs) (hsl : len ≤ 1048576) :
    Calls Try.prog 30 #[.slice a xs.length cap, .slice b len cap2, .int .i64 gap, .int .i64 inner, .int .i64 js] w (OutPost (plV xs zs gap inner js) w) := by
  have KK := Lib.hid (splaces a cap xs b len cap2 zs gap inner js w hz hl hs hsl)
  clear hz hs
  go_enter Try.func30, Try.ntmps30
  go_wp2_with (fail)
  refine KK.out.mono ?_
  rintro e w1 ⟨v, rfl, r1, b1⟩
  have R1 := Lib.hid r1
  have B1 := Lib.hid b1
  clear KK r1 b1
  (try dsimp only)
  go_wp2
  go_ret
  exact ⟨_, rfl, R1.out, B1.out⟩
theorem ed_none {xs : List It} {zs : List Int} {gap inner js : Int} (h : xs.length = 0) : edA xs zs gap inner js = 0 := by
  unfold edA
  split
  · rw [h]; rfl
  · rfl
theorem sends_along (a : Option Addr) (cap : Nat) (xs : List It) (b : Option Addr) (len cap2 : Nat) (zs : List Int) (gap inner js : Int) (w : World) (hz : Its w a xs) (hl : xs.length ≤ 1048576) (hs : Ints w b len zs) (hsl : len ≤ 1048576) :
    Calls Try.prog 31 #[.slice a xs.length cap, .slice b len cap2, .int .i64 gap, .int .i64 inner, .int .i64 js] w fun e w' => e = .returned (.int .i64 (edA xs zs gap inner js)) ∧ Below w.heap.size w w' := by
  have KK := Lib.hid (splaces a cap xs b len cap2 zs gap inner js w hz hl hs hsl)
  clear hz hs
  by_cases h0 : (xs.length : Int) = 0
  · have HE := Lib.hid (ed_none (zs := zs) (gap := gap) (inner := inner) (js := js) (show xs.length = 0 by omega))
    rw [HE.out] at KK ⊢
    go_enter Try.func31, Try.ntmps31
    go_wp2_with (fail)
    refine KK.out.mono ?_
    rintro e w1 ⟨v, rfl, r1, b1⟩
    have B1 := Lib.hid b1
    clear KK r1 b1
    (try dsimp only)
    go_wp2
    go_ret
    exact ⟨rfl, B1.out⟩
  · go_enter Try.func31, Try.ntmps31
    go_wp2_with (fail)
    refine KK.out.mono ?_
    rintro e w1 ⟨v, rfl, r1, b1⟩
    have B1 := Lib.hid b1
    clear KK r1 b1
    (try dsimp only)
    go_wp2
    go_ret
    exact ⟨rfl, B1.out⟩
end Go.Proofs.Ytnncdpkmhpjmbaa
end

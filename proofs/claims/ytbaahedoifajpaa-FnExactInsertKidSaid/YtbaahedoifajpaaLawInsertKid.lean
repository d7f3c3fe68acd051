/-
  For every input, laws.FnExactInsertKid returns true: the program answers as the document's model, writes into no argument, and its answer owns its memory; the arguments read as before. Conditions: none.
-/
import Derived.Test.YtbaahedoifajpaaIkd
import Derived.Test.YtbaahedoifajpaaLwP
namespace Go.Proofs.Ytbaahedoifajpaa.fnExactInsertKid
open Go.ChangeShapes Go.WideShapes Go.ChangeAt Go.RowKit
set_option linter.unusedVariables false
set_option linter.unusedSimpArgs false
set_option maxRecDepth 8000

theorem ikN_sz (ns : List PN) (z y a : Int) (h : szS ns ≤ 1048576) : szS (ikN ns z y a) ≤ 2097152 := by
  unfold ikN
  split
  · split
    · rename_i ht
      have := treeB_sz ht
      omega
    · omega
  · omega
theorem kcap_of {lo c : Nat} {a : Option Addr} {ms : List ND} {R : List PN} {w : World} (h : OwnN lo (.slice a R.length c) ms w) (hm : ms.map ND.n = R) : KCap w a R := by
  have e : ms.length = R.length := by rw [← hm, List.length_map]
  rw [← e] at h
  rw [← hm]
  exact h.kcap

theorem walk_big (a0 : Option Addr) (cap0 : Nat) (n0 : List PN) (a1 : Int) (u1 : -9223372036854775808 ≤ a1) (v1 : a1 ≤ 9223372036854775807) (a2 : Int) (u2 : -9223372036854775808 ≤ a2) (v2 : a2 ≤ 9223372036854775807) (a3 : Int) (u3 : -9223372036854775808 ≤ a3) (v3 : a3 ≤ 9223372036854775807) (w : World) (hz0 : Nds w a0 n0) (hm0 : n0.length ≤ 9223372036854775807) (hf0 : ∀ n ∈ n0, n.fit) (hl0 : 1048576 < szS n0) :
    Calls Try.prog 5 #[.agg #[.slice a0 n0.length cap0], .int .i64 a1, .int .i64 a2, .int .i64 a3] w fun e w' => e = .returned (.bool true) ∧ Below w.heap.size w w' := by
  have H0 := hp_new w (.cells #[.slice a0 n0.length cap0] 64)
  have B : Below w.heap.size w (w.alloc (.cells #[.slice a0 n0.length cap0] 64)) := bel_alloc w _
  obtain ⟨u, eu⟩ : ∃ u, u = w.alloc (.cells #[.slice a0 n0.length cap0] 64) := ⟨_, rfl⟩
  rw [← eu] at B H0
  have EU := Lib.hid eu
  clear eu
  have c0 := c_of H0
  go_enter Try.func5, Try.ntmps5
  (try dsimp only)
  go_wp2_with (rw [← EU.out])
  clear c0
  refine (sztr_any a0 cap0 n0 1048576 _ (hz0.below B) (by omega) (by omega) hm0 hf0).mono ?_
  rintro e w1 ⟨rfl, b1⟩
  replace B := B.trans (b1.mono B.size)
  clear b1 H0
  rw [sz_no (by omega)]
  (try dsimp only)
  go_wp2_with (fail)
  go_ret
  exact ⟨rfl, B⟩
set_option maxHeartbeats 8000000 in
theorem walk_small (a0 : Option Addr) (cap0 : Nat) (n0 : List PN) (a1 : Int) (u1 : -9223372036854775808 ≤ a1) (v1 : a1 ≤ 9223372036854775807) (a2 : Int) (u2 : -9223372036854775808 ≤ a2) (v2 : a2 ≤ 9223372036854775807) (a3 : Int) (u3 : -9223372036854775808 ≤ a3) (v3 : a3 ≤ 9223372036854775807) (w : World) (hz0 : Nds w a0 n0) (hm0 : n0.length ≤ 9223372036854775807) (hf0 : ∀ n ∈ n0, n.fit) (hl0 : szS n0 ≤ 1048576) :
    Calls Try.prog 5 #[.agg #[.slice a0 n0.length cap0], .int .i64 a1, .int .i64 a2, .int .i64 a3] w fun e w' => e = .returned (.bool true) ∧ Below w.heap.size w w' := by
  have hnl : n0.length ≤ 1048576 := by unfold szS at hl0; omega
  have HZ0 := Lib.hid hz0
  have HF0 := Lib.hid hf0
  clear hz0 hf0
  have KS := Lib.hid (fun (a : Option Addr) (cap : Nat) (w' : World) (h : Nds w' a n0) (hcp : KCap w' a n0) => sinsertkid a cap n0 a1 a2 a3 w' h hl0 ⟨u1, v1⟩ ⟨u2, v2⟩ ⟨u3, v3⟩ hcp)
  have KI := Lib.hid (fun (a : Option Addr) (cap : Nat) (w' : World) (h : Nds w' a n0) => iinsertkid a cap n0 a1 a2 a3 w' h hl0 ⟨u1, v1⟩ ⟨u2, v2⟩ ⟨u3, v3⟩)
  have hsR : szS (ikN n0 a1 a2 a3) ≤ 2097152 := ikN_sz n0 a1 a2 a3 hl0
  obtain ⟨R, eR⟩ : ∃ R, R = ikN n0 a1 a2 a3 := ⟨_, rfl⟩
  obtain ⟨C, eC⟩ : ∃ C, C = ikC n0 a1 a2 a3 := ⟨_, rfl⟩
  rw [← eR, ← eC] at KS KI
  rw [← eR] at hsR
  clear eR eC
  have H0 := hp_new w (.cells #[.slice a0 n0.length cap0] 64)
  have B : Below w.heap.size w (w.alloc (.cells #[.slice a0 n0.length cap0] 64)) := bel_alloc w _
  obtain ⟨u, eu⟩ : ∃ u, u = w.alloc (.cells #[.slice a0 n0.length cap0] 64) := ⟨_, rfl⟩
  rw [← eu] at B H0
  have EU := Lib.hid eu
  clear eu
  have c0 := c_of H0
  go_enter Try.func5, Try.ntmps5
  (try dsimp only)
  go_wp2_with (rw [← EU.out])
  refine (sztr_any a0 cap0 n0 1048576 _ (HZ0.out.below B) (by omega) (by omega) hm0 HF0.out).mono ?_
  rintro e w1 ⟨rfl, b1⟩
  replace H0 := hp_below H0 b1
  replace B := B.trans (b1.mono B.size)
  clear b1 c0
  rw [sz_of (by omega)]
  have hleft : (0 : Int) ≤ 1048576 - (szS n0 : Int) := by omega
  generalize (1048576 : Int) - (szS n0 : Int) = lft at *
  have HZ1 := Lib.hid (HZ0.out.below B)
  have c0 := c_of H0
  (try dsimp only)
  go_wp2_with (fail)
  clear c0
  refine (totr_any a0 cap0 n0 _ HZ1.out hl0).mono ?_
  rintro e w2 ⟨gT, msT, hmsT, rfl, rT, b2⟩
  (try dsimp only)
  go_wp2_with (fail)
  refine (KS.out (some ⟨gT, 0, none⟩) n0.length _ (rT.ndsAt hmsT) (kcap_of rT hmsT)).mono ?_
  rintro e w3 ⟨vF, msW, hmsW, rfl, hoW, b3⟩
  obtain ⟨avW, cvW, rfl⟩ := own_form hoW.1
  have hmlW : msW.length = R.length := by rw [← hmsW, List.length_map]
  rw [hmlW] at hoW ⊢
  have bw := bel_alloc w3 (.cells #[.slice avW R.length cvW] 26)
  have HW := hp_new w3 (.cells #[.slice avW R.length cvW] 26)
  have b23 := b2.trans (b3.mono b2.size)
  have bA := b23.trans (bw.mono b23.size)
  have NW0 := hoW.below bw
  obtain ⟨w5, e5⟩ : ∃ q, q = w3.alloc (.cells #[.slice avW R.length cvW] 26) := ⟨_, rfl⟩
  rw [← e5] at HW bA NW0
  have EW5 := Lib.hid e5
  clear e5 bw b2 b3 b23 rT hoW
  replace H0 := hp_below H0 bA
  replace B := B.trans (bA.mono B.size)
  have NW := Lib.hid (NW0.ndsR hmsW)
  have HZ5 := Lib.hid (HZ1.out.below bA)
  clear NW0 bA hmsW HZ1
  have c0 := c_of H0
  (try dsimp only)
  go_wp2_with (rw [← EW5.out])
  clear EW5 c0
  obtain ⟨gW, egW⟩ : ∃ q, q = w3.heap.size := ⟨_, rfl⟩
  rw [← egW] at HW ⊢
  clear egW
  have lW := hp_lt HW
  refine (totr_any a0 cap0 n0 _ HZ5.out hl0).mono ?_
  rintro e w6a ⟨gx, msx, hmsx, rfl, rx, b6a⟩
  have bx := bel_alloc w6a (.cells #[.slice (some ⟨gx, 0, none⟩) n0.length n0.length] 26)
  have HX := hp_new w6a (.cells #[.slice (some ⟨gx, 0, none⟩) n0.length n0.length] 26)
  have hvx := (own_lt rx).1
  have hcx := (own_lt rx).2
  obtain ⟨w6, e6⟩ : ∃ q, q = w6a.alloc (.cells #[.slice (some ⟨gx, 0, none⟩) n0.length n0.length] 26) := ⟨_, rfl⟩
  rw [← e6] at bx HX
  have EW6 := Lib.hid e6
  clear e6
  have cX := c_of HX
  (try dsimp only)
  go_wp2_with (rw [← EW6.out])
  clear EW6 cX
  obtain ⟨gX, egX⟩ : ∃ q, q = w6a.heap.size := ⟨_, rfl⟩
  rw [← egX] at HX hvx hcx ⊢
  have hX5 : w5.heap.size ≤ gX := by rw [egX]; exact b6a.size
  clear egX
  have rx6 := rx.below bx
  have B5 : Below w5.heap.size w5 w6 := b6a.trans (bx.mono b6a.size)
  clear bx b6a rx
  have NX := Lib.hid (rx6.ndsAt hmsx)
  have RX := Lib.hid rx6
  have HVX := Lib.hid hvx
  have HCX := Lib.hid hcx
  have hX6 := hp_lt HX
  clear rx6 hvx hcx
  -- the program
  refine (KI.out (some ⟨gx, 0, none⟩) n0.length _ NX.out).mono ?_
  rintro e w8a ⟨vF, msG, hmsG, rfl, hoG, bG⟩
  obtain ⟨avG, cvG, rfl⟩ := own_form hoG.1
  have hmlG : msG.length = R.length := by rw [← hmsG, List.length_map]
  rw [hmlG] at hoG ⊢
  have bg := bel_alloc w8a (.cells #[.slice avG R.length cvG] 26)
  have HG := hp_new w8a (.cells #[.slice avG R.length cvG] 26)
  have HVG := Lib.hid (own_lt hoG).1
  have HCG := Lib.hid (own_lt hoG).2
  have B8 : Below w6.heap.size w6 (w8a.alloc (.cells #[.slice avG R.length cvG] 26)) := bG.trans (bg.mono bG.size)
  have OG := Lib.hid (hoG.below bg)
  have hgG6 : w6.heap.size ≤ w8a.heap.size := bG.size
  obtain ⟨w8, e8⟩ : ∃ q, q = w8a.alloc (.cells #[.slice avG R.length cvG] 26) := ⟨_, rfl⟩
  rw [← e8] at HG B8 OG
  have EW8 := Lib.hid e8
  clear e8 bG bg hoG
  replace B5 := B5.trans (B8.mono B5.size)
  have cG := c_of HG
  have cW := c_of (hp_below HW B5)
  (try dsimp only)
  go_wp2_with (rw [← EW8.out])
  clear EW8 cG cW
  obtain ⟨gG, egG⟩ : ∃ q, q = w8a.heap.size := ⟨_, rfl⟩
  rw [← egG] at HG HVG HCG hgG6 ⊢
  clear egG
  replace HX := hp_below HX B8
  replace RX := Lib.hid (RX.out.below B8)
  replace NX := Lib.hid (NX.out.below B8)
  clear B8
  have NG := Lib.hid (OG.out.ndsR hmsG)
  refine (eqtr_any avG avW cvG cvW R _ NG.out (NW.out.below B5) (by omega)).mono ?_
  rintro e w9 ⟨rfl, b9⟩
  replace B5 := B5.trans (b9.mono B5.size)
  replace HG := hp_below HG b9
  replace HX := hp_below HX b9
  replace OG := Lib.hid (OG.out.below b9)
  replace RX := Lib.hid (RX.out.below b9)
  replace NX := Lib.hid (NX.out.below b9)
  clear b9 NG
  (try dsimp only)
  go_wp2_with (fail)
  refine wp_region_held_drew (S := fun w' => Below w9.heap.size w9 w') (by kernel_rfl) (Below.refl w9.heap.size w9).drew (fun HS => ?_)
  obtain ⟨d, ed⟩ : ∃ d, d = w9.drew := ⟨_, rfl⟩
  rw [← ed] at HS ⊢
  clear ed
  refine wpAnyH_take (i := 0) (oi := ⟨some 53, Op.load 26 (Operand.tmp 12), _, _, _, _⟩) (v := .agg #[.slice (some ⟨gx, 0, none⟩) n0.length n0.length]) rfl (by kernel_rfl) (by kernel_rfl) (by kernel_rfl) (fun _ _ _ h => h) (yields_row rfl rfl rfl im_tree (im_tree1 _) (fun w' hw' => hp_below HX hw')) HS ?_
  simp only [World.size_alloc, Act.put, List.setIfInBounds_toArray, List.set_cons_succ, List.set_cons_zero]
  have H0' := hp_below H0 B5
  refine wpAnyH_take (i := 1) (oi := ⟨some 54, Op.load 64 (Operand.tmp 4), _, _, _, _⟩) (v := .agg #[.slice a0 n0.length cap0]) rfl (by kernel_rfl) (by kernel_rfl) (by kernel_rfl) (fun _ _ _ h => h) (yields_row rfl rfl rfl lw_tree (lw_tree1 _) (fun w' hw' => hp_below H0' hw')) HS ?_
  simp only [World.size_alloc, Act.put, List.setIfInBounds_toArray, List.set_cons_succ, List.set_cons_zero]
  clear H0'
  refine anyH_1 2 rfl (by kernel_rfl) rfl ?_
  go_wp2_with (fail)
  refine (totr_any a0 cap0 n0 _ (HZ5.out.below (B5.trans (HS.mono B5.size))) hl0).mono ?_
  rintro e wq ⟨gy, msy, hmsy, rfl, ry, bq⟩
  (try dsimp only)
  have HS9 := HS.trans (bq.mono HS.size)
  clear bq HS
  refine ⟨HS9, ?_⟩
  refine anyH_1 3 rfl (by kernel_rfl) rfl ?_
  go_wp2_with (fail)
  refine (eqtr_any (some ⟨gx, 0, none⟩) (some ⟨gy, 0, none⟩) n0.length n0.length n0 _ (NX.out.below HS9) (ry.ndsAt hmsy) (by omega)).mono ?_
  rintro e w10 ⟨rfl, bz⟩
  (try dsimp only)
  have b10 := HS9.trans (bz.mono HS9.size)
  clear bz HS9 ry
  refine ⟨b10, ?_⟩
  refine wpAnyH_take (i := 4) (oi := ⟨some 57, Op.unOp .not _ (Operand.tmp 56), _, _, _, _⟩) (v := .bool false) rfl (by kernel_rfl) (by kernel_rfl) (by kernel_rfl) (fun _ _ _ h => h) (Or.inl ⟨rfl, fun W hW => by rfl⟩) b10 ?_
  simp only [World.size_alloc, Act.put, List.setIfInBounds_toArray, List.set_cons_succ, List.set_cons_zero]
  refine wpAnyH_done (by kernel_rfl) ?_ _
  replace B5 := B5.trans (b10.mono B5.size)
  replace HG := hp_below HG b10
  replace HX := hp_below HX b10
  replace OG := Lib.hid (OG.out.below b10)
  replace RX := Lib.hid (RX.out.below b10)
  clear b10 NX
  have cX := c_of HX
  go_wp2_with (fail)
  clear cX
  have hszx : szS (msx.map ND.n) ≤ 2097152 := by rw [hmsx]; omega
  refine (marktr_any w5.heap.size gX 1 (.slice (some ⟨gx, 0, none⟩) n0.length n0.length) msx _ RX.out HVX.out HCX.out hszx (by decide)).mono ?_
  rintro e w12 ⟨rfl, -, fr⟩
  have hq0 : (0 : Int) ≤ (nxL 1 msx : Int) := Int.natCast_nonneg _
  generalize (nxL 1 msx : Int) = q0 at *
  replace B5 := B5.trans (fr.below (Nat.le_refl _) B5.size)
  replace HG := fr.heap HG (Or.inr (by omega))
  replace OG := Lib.hid (OG.out.kept (fr.from (by omega)))
  clear fr RX HX
  have NG := Lib.hid (OG.out.ndsR hmsG)
  have cG := c_of HG
  have cW := c_of (hp_below HW B5)
  (try dsimp only)
  go_wp2_with (fail)
  clear cG cW
  refine (eqtr_any avG avW cvG cvW R _ NG.out (NW.out.below B5) (by omega)).mono ?_
  rintro e w14 ⟨rfl, b14⟩
  replace B5 := B5.trans (b14.mono B5.size)
  replace HG := hp_below HG b14
  replace OG := Lib.hid (OG.out.below b14)
  clear b14 NG
  have cG := c_of HG
  (try dsimp only)
  go_wp2_with (fail)
  clear cG
  have hszg : szS (msG.map ND.n) ≤ 2097152 := by rw [hmsG]; exact hsR
  refine (marktr_any w6.heap.size gG 1 (.slice avG R.length cvG) msG _ OG.out HVG.out HCG.out hszg (by decide)).mono ?_
  rintro e w15 ⟨rfl, OM, fr⟩
  have hq2 : (0 : Int) ≤ (nxL 1 msG : Int) := Int.natCast_nonneg _
  have HE := Lib.hid (heldtr_any w6.heap.size 1 (.slice avG R.length cvG) msG)
  have HSZ := Lib.hid hszg
  obtain ⟨q2, eq2⟩ : ∃ q : Int, q = (nxL 1 msG : Int) := ⟨_, rfl⟩
  rw [← eq2] at hq2 HE ⊢
  clear eq2 hszg
  replace B5 := B5.trans (fr.below (by omega) B5.size)
  replace HG := fr.heap HG (Or.inr (Nat.le_refl _))
  replace OM := Lib.hid OM
  clear fr OG
  have cG := c_of HG
  (try dsimp only)
  go_wp2_with (fail)
  clear cG
  refine (HE.out _ OM.out HSZ.out (by decide)).mono ?_
  rintro e w16 ⟨rfl, b16⟩
  replace B5 := B5.trans (b16.mono B5.size)
  replace HG := hp_below HG b16
  replace OM := Lib.hid (OM.out.below b16)
  clear b16
  have c0 := c_of (hp_below H0 B5)
  (try dsimp only)
  go_wp2_with (fail)
  clear c0
  refine (totr_any a0 cap0 n0 _ (HZ5.out.below B5) hl0).mono ?_
  rintro e w17 ⟨gU, msU, hmsU, rfl, rU, b17⟩
  replace B5 := B5.trans (b17.mono B5.size)
  replace HG := hp_below HG b17
  replace OM := Lib.hid (OM.out.below b17)
  clear b17
  (try dsimp only)
  go_wp2_with (fail)
  refine (KI.out (some ⟨gU, 0, none⟩) n0.length _ (rU.ndsAt hmsU)).mono ?_
  rintro e w18 ⟨vF, msH, hmsH, rfl, hoH, b18⟩
  obtain ⟨avH, cvH, rfl⟩ := own_form hoH.1
  have hmlH : msH.length = R.length := by rw [← hmsH, List.length_map]
  rw [hmlH] at hoH ⊢
  have bh := bel_alloc w18 (.cells #[.slice avH R.length cvH] 26)
  have HH := hp_new w18 (.cells #[.slice avH R.length cvH] 26)
  have b19 := b18.trans (bh.mono b18.size)
  have NH := Lib.hid ((hoH.below bh).ndsR hmsH)
  obtain ⟨w19, e19⟩ : ∃ q, q = w18.alloc (.cells #[.slice avH R.length cvH] 26) := ⟨_, rfl⟩
  rw [← e19] at HH b19 NH
  have EW := Lib.hid e19
  clear e19 b18 bh hoH rU
  replace B5 := B5.trans (b19.mono B5.size)
  replace HG := hp_below HG b19
  replace OM := Lib.hid (OM.out.below b19)
  clear b19
  have cH := c_of HH
  have cW := c_of (hp_below HW B5)
  (try dsimp only)
  go_wp2_with (rw [← EW.out])
  clear cH cW HH EW
  refine (eqtr_any avH avW cvH cvW R _ NH.out (NW.out.below B5) (by omega)).mono ?_
  rintro e w20 ⟨rfl, b20⟩
  replace B5 := B5.trans (b20.mono B5.size)
  replace HG := hp_below HG b20
  replace OM := Lib.hid (OM.out.below b20)
  clear b20 NH
  have cG := c_of HG
  (try dsimp only)
  go_wp2_with (fail)
  clear cG
  refine (HE.out _ OM.out HSZ.out (by decide)).mono ?_
  rintro e w21 ⟨rfl, b21⟩
  replace B5 := B5.trans (b21.mono B5.size)
  replace B := B.trans (B5.mono B.size)
  clear b21
  (try dsimp only)
  go_wp2_with (fail)
  go_ret
  exact ⟨rfl, B⟩
theorem walk (a0 : Option Addr) (cap0 : Nat) (n0 : List PN) (a1 : Int) (u1 : -9223372036854775808 ≤ a1) (v1 : a1 ≤ 9223372036854775807) (a2 : Int) (u2 : -9223372036854775808 ≤ a2) (v2 : a2 ≤ 9223372036854775807) (a3 : Int) (u3 : -9223372036854775808 ≤ a3) (v3 : a3 ≤ 9223372036854775807) (w : World) (hz0 : Nds w a0 n0) (hm0 : n0.length ≤ 9223372036854775807) (hf0 : ∀ n ∈ n0, n.fit) :
    Calls Try.prog 5 #[.agg #[.slice a0 n0.length cap0], .int .i64 a1, .int .i64 a2, .int .i64 a3] w fun e w' => e = .returned (.bool true) ∧ Below w.heap.size w w' := by
  by_cases h : szS n0 ≤ 1048576
  · exact walk_small a0 cap0 n0 a1 u1 v1 a2 u2 v2 a3 u3 v3 w hz0 hm0 hf0 h
  · exact walk_big a0 cap0 n0 a1 u1 v1 a2 u2 v2 a3 u3 v3 w hz0 hm0 hf0 (by omega)

theorem laidOut : laidOutB Try.prog = true := by kernel_rfl

set_option maxRecDepth 100000 in
theorem lifted (os : Os) (started : os.Started) (H : Type) (enc : TypeId × Value → H) :
    ReturnsInHanded {} Try.checked os 5 .any (Rows.fnExactInsertKidSpec.pre6 enc Try.prog Try.f5 Rows.fnExactInsertKidRow.domain false) (Rows.fnExactInsertKidSpec.post enc Try.prog Try.f5 false true false false) := by
  refine returnsInHanded_of_change (C := Try.checked) own started (by kernel_rfl) Try.func5
    (ChangeSpec.witness6 (enc := enc) (C := Try.checked) false ⟨#[], #[.agg #[.slice none 0 0], .int .i64 0, .int .i64 0, .int .i64 0], []⟩ 8 (by kernel_rfl) (by kernel_rfl) (by kernel_rfl) (by kernel_rfl)) ?_
  intro W base args ds gs before hval0 hW hcnd _
  have hval : ∀ (j : Nat) t v, Try.f5.params[j]? = some t → args[j]? = some v → Value.okWide Try.prog W .any base t v := hval0
  have hW' := hW
  obtain ⟨p, q, hA0, hV, rfl, hfz, hnd⟩ := hW
  have hA : DataW.TrodAll enc Try.prog W 0 (fun _ => true) true Try.f5.params.toList args.toList ds p := hA0
  rw [Try.params5] at hA hval
  obtain ⟨v0, vs0, d0, ds0, p0, q0, hargs, rfl, rfl, h0, r0⟩ := trodAll_cons hA
  obtain ⟨v1, vs1, d1, ds1, p1, q1, rfl, rfl, rfl, h1, r1⟩ := trodAll_cons r0
  obtain ⟨v2, vs2, d2, ds2, p2, q2, rfl, rfl, rfl, h2, r2⟩ := trodAll_cons r1
  obtain ⟨v3, vs3, d3, ds3, p3, q3, rfl, rfl, rfl, h3, r3⟩ := trodAll_cons r2
  obtain ⟨rfl, rfl, rfl⟩ := trodAll_nil r3
  obtain rfl : args = #[v0, v1, v2, v3] := by cases args; simp_all
  obtain ⟨rfl, rfl⟩ := trodVars_none hV
  have k0 := h0
  have lt0 : ∀ x ∈ p0, x.block < W.heap.size := by obtain ⟨m, hm⟩ := k0; exact DataW.trod_lt m _ _ _ hm
  obtain ⟨a0, cap0, n0, rfl, hz0, hm0, hf0⟩ := tree_of (hval 0 64 v0 rfl rfl) h0
  have k1 := h1
  have lt1 : ∀ x ∈ p1, x.block < W.heap.size := by obtain ⟨m, hm⟩ := k1; exact DataW.trod_lt m _ _ _ hm
  obtain ⟨a1, rfl, rfl, rfl, w1⟩ := open_int Try.underlying3 (hval 1 3 v1 rfl rfl) h1
  have b1 := bounds_i64 w1
  have k2 := h2
  have lt2 : ∀ x ∈ p2, x.block < W.heap.size := by obtain ⟨m, hm⟩ := k2; exact DataW.trod_lt m _ _ _ hm
  obtain ⟨a2, rfl, rfl, rfl, w2⟩ := open_int Try.underlying3 (hval 2 3 v2 rfl rfl) h2
  have b2 := bounds_i64 w2
  have k3 := h3
  have lt3 : ∀ x ∈ p3, x.block < W.heap.size := by obtain ⟨m, hm⟩ := k3; exact DataW.trod_lt m _ _ _ hm
  obtain ⟨a3, rfl, rfl, rfl, w3⟩ := open_int Try.underlying3 (hval 3 3 v3 rfl rfl) h3
  have b3 := bounds_i64 w3
  clear hA0 hval0
  refine (walk a0 cap0 n0 a1 b1.1 b1.2 a2 b2.1 b2.2 a3 b3.1 b3.2 W hz0 hm0 hf0).mono fun e W' ⟨he, bel⟩ => ?_
  subst he
  exact ⟨_, rfl, law_post (pa := _) (pv := []) hW' (trodAll_cons_mk (shut_bool Try.underlying4 _) trodAll_mk0) (trodAll_cons_mk (Below.trod laidOut (by kernel_rfl) (of_decide_eq_true (by kernel_rfl)) k0 bel lt0) (trodAll_cons_mk (Below.trod laidOut (by kernel_rfl) (of_decide_eq_true (by kernel_rfl)) k1 bel lt1) (trodAll_cons_mk (Below.trod laidOut (by kernel_rfl) (of_decide_eq_true (by kernel_rfl)) k2 bel lt2) (trodAll_cons_mk (Below.trod laidOut (by kernel_rfl) (of_decide_eq_true (by kernel_rfl)) k3 bel lt3) trodAll_mk0)))) rfl rfl bel⟩

/-- The given statement. -/
theorem proved : Rows.FnExactInsertKidSaid :=
  OpenClaim.holds_of_wide 5 Try.f5 rfl rfl rfl rfl rfl rfl rfl ⟨rfl, rfl, rfl, rfl, rfl⟩ rfl rfl rfl rfl rfl (by kernel_rfl) Try.func5 (by kernel_rfl)
    (of_decide_eq_true (by kernel_rfl)) (by unfold Func.isWrapper; first | (rw [if_pos (by decide +kernel)]; kernel_rfl) | (rw [if_neg (by decide +kernel)]; exact ⟨rfl, rfl⟩))
    (fun os started H enc _ => lifted os started H enc)
#print axioms proved
end Go.Proofs.Ytbaahedoifajpaa.fnExactInsertKid

/-
  For every input, laws.FnExactSetTable returns true: the program answers as the document's model, writes into no argument, and its answer owns its memory; the arguments read as before. Conditions: none.
-/
import Derived.Test.YtbfhipfflomokaaStU
import Derived.Test.YtbfhipfflomokaaLwP
import Derived.Test.YtbfhipfflomokaaToS
namespace Go.Proofs.Ytbfhipfflomokaa.fnExactSetTable
open Go.ChangeShapes Go.WideShapes Go.ChangeAt Go.RowKit
set_option linter.unusedVariables false
set_option linter.unusedSimpArgs false
set_option maxRecDepth 8000

theorem szL_set_le (k : Nat) (m : PN) : ∀ (ns : List PN) (k : Nat), szL (ns.set k m) ≤ szL ns + szK m
  | [], _ => by simp [szL]
  | n :: ns, 0 => by simp [szL]; omega
  | n :: ns, k + 1 => by
    have := szL_set_le k m ns k
    simp [szL] at this ⊢
    omega
theorem szL_get : ∀ (ns : List PN) (k : Nat) (h : k < ns.length), szK ns[k] ≤ szL ns
  | n :: ns, 0, _ => by simp [szL]
  | n :: ns, k + 1, h => by
    have := szL_get ns k (by simpa using h)
    simp [szL] at this ⊢
    omega
theorem stN_sz (ns : List PN) (z : Int) (rl : Nat) (rs : List Int) (h : szS ns + rl ≤ 1048576) : szS (stN ns z rl rs) ≤ 2097152 := by
  unfold stN
  split
  · rename_i h1
    split
    · omega
    · have hz := nIn_iff.1 (Bool.and_eq_true_iff.1 h1).1
      have hk : (z - 1).toNat < ns.length := by omega
      have e : ndAt ns z = ns[(z - 1).toNat] := ndAt_get (by omega) hk
      have h2 := szL_get ns (z - 1).toNat hk
      have h3 := szL_set_le 0 { ndAt ns z with meas := decide (0 < rl), rl := rl, rules := rs } ns (z - 1).toNat
      unfold tabSet szS
      rw [List.length_set]
      rw [← e] at h2
      unfold szK at h2 h3
      dsimp only at h3 ⊢
      unfold szS at h
      omega
  · omega

theorem walk_big (a0 : Option Addr) (cap0 : Nat) (n0 : List PN) (a1 : Int) (u1 : -9223372036854775808 ≤ a1) (v1 : a1 ≤ 9223372036854775807) (a2 : Option Addr) (len2 cap2 : Nat) (z2 : List Int) (w : World) (hz0 : Nds w a0 n0) (hm0 : n0.length ≤ 9223372036854775807) (hf0 : ∀ n ∈ n0, n.fit) (hz2 : Rls w a2 len2 z2) (hm2 : len2 ≤ 9223372036854775807) (hl0 : 1048576 < szS n0) :
    Calls Try.prog 9 #[.agg #[.slice a0 n0.length cap0], .int .i64 a1, .agg #[.slice a2 len2 cap2]] w fun e w' => e = .returned (.bool true) ∧ Below w.heap.size w w' := by
  have H0 := hp_on (hp_new w (.cells #[.slice a0 n0.length cap0] 64)) (.cells #[.slice a2 len2 cap2] 80)
  have H5 := hp_new (w.alloc (.cells #[.slice a0 n0.length cap0] 64)) (.cells #[.slice a2 len2 cap2] 80)
  simp only [World.size_alloc] at H5
  have B : Below w.heap.size w ((w.alloc (.cells #[.slice a0 n0.length cap0] 64)).alloc (.cells #[.slice a2 len2 cap2] 80)) := (bel_alloc w _).trans ((bel_alloc _ _).mono (bel_alloc w _).size)
  obtain ⟨u, eu⟩ : ∃ u, u = (w.alloc (.cells #[.slice a0 n0.length cap0] 64)).alloc (.cells #[.slice a2 len2 cap2] 80) := ⟨_, rfl⟩
  rw [← eu] at B H0 H5
  have EU := Lib.hid eu
  clear eu
  have c0 : u.cell? ⟨w.heap.size, 0, none⟩ = some (.slice a0 n0.length cap0) := (Go.Joins.cell_of_block H0 0).trans rfl
  go_enter Try.func9, Try.ntmps9
  (try dsimp only)
  go_wp2_with (rw [← EU.out])
  clear c0
  refine (sztr_any a0 cap0 n0 1048576 _ (hz0.below B) (by omega) (by omega) hm0 hf0).mono ?_
  rintro e w1 ⟨rfl, b1⟩
  replace B := B.trans (b1.mono B.size)
  clear b1 H0 H5
  rw [sz_no (by omega)]
  (try dsimp only)
  go_wp2_with (fail)
  go_ret
  exact ⟨rfl, B⟩
theorem walk_big2 (a0 : Option Addr) (cap0 : Nat) (n0 : List PN) (a1 : Int) (u1 : -9223372036854775808 ≤ a1) (v1 : a1 ≤ 9223372036854775807) (a2 : Option Addr) (len2 cap2 : Nat) (z2 : List Int) (w : World) (hz0 : Nds w a0 n0) (hm0 : n0.length ≤ 9223372036854775807) (hf0 : ∀ n ∈ n0, n.fit) (hz2 : Rls w a2 len2 z2) (hm2 : len2 ≤ 9223372036854775807) (hl0 : szS n0 ≤ 1048576) (hl2 : 1048576 < szS n0 + len2) :
    Calls Try.prog 9 #[.agg #[.slice a0 n0.length cap0], .int .i64 a1, .agg #[.slice a2 len2 cap2]] w fun e w' => e = .returned (.bool true) ∧ Below w.heap.size w w' := by
  have H0 := hp_on (hp_new w (.cells #[.slice a0 n0.length cap0] 64)) (.cells #[.slice a2 len2 cap2] 80)
  have H5 := hp_new (w.alloc (.cells #[.slice a0 n0.length cap0] 64)) (.cells #[.slice a2 len2 cap2] 80)
  simp only [World.size_alloc] at H5
  have B : Below w.heap.size w ((w.alloc (.cells #[.slice a0 n0.length cap0] 64)).alloc (.cells #[.slice a2 len2 cap2] 80)) := (bel_alloc w _).trans ((bel_alloc _ _).mono (bel_alloc w _).size)
  obtain ⟨u, eu⟩ : ∃ u, u = (w.alloc (.cells #[.slice a0 n0.length cap0] 64)).alloc (.cells #[.slice a2 len2 cap2] 80) := ⟨_, rfl⟩
  rw [← eu] at B H0 H5
  have EU := Lib.hid eu
  clear eu
  have c0 : u.cell? ⟨w.heap.size, 0, none⟩ = some (.slice a0 n0.length cap0) := (Go.Joins.cell_of_block H0 0).trans rfl
  go_enter Try.func9, Try.ntmps9
  (try dsimp only)
  go_wp2_with (rw [← EU.out])
  clear c0
  refine (sztr_any a0 cap0 n0 1048576 _ (hz0.below B) (by omega) (by omega) hm0 hf0).mono ?_
  rintro e w1 ⟨rfl, b1⟩
  replace B := B.trans (b1.mono B.size)
  replace H5 := hp_below H5 b1
  clear b1 H0
  rw [sz_of (by omega)]
  have hleft : (0 : Int) ≤ 1048576 - (szS n0 : Int) := by omega
  have hlt : (1048576 : Int) - (szS n0 : Int) < len2 := by omega
  generalize (1048576 : Int) - (szS n0 : Int) = lft at *
  have c5 := c_of H5
  (try dsimp only)
  go_wp2_with (fail)
  clear c5 H5
  refine (szt_big a2 len2 cap2 lft _ hlt hleft hm2).mono ?_
  rintro e w2 ⟨rfl, b2⟩
  replace B := B.trans (b2.mono B.size)
  clear b2
  (try dsimp only)
  go_wp2_with (fail)
  go_ret
  exact ⟨rfl, B⟩
set_option maxHeartbeats 8000000 in
theorem walk_small (a0 : Option Addr) (cap0 : Nat) (n0 : List PN) (a1 : Int) (u1 : -9223372036854775808 ≤ a1) (v1 : a1 ≤ 9223372036854775807) (a2 : Option Addr) (len2 cap2 : Nat) (z2 : List Int) (w : World) (hz0 : Nds w a0 n0) (hm0 : n0.length ≤ 9223372036854775807) (hf0 : ∀ n ∈ n0, n.fit) (hz2 : Rls w a2 len2 z2) (hm2 : len2 ≤ 9223372036854775807) (hls : szS n0 + len2 ≤ 1048576) :
    Calls Try.prog 9 #[.agg #[.slice a0 n0.length cap0], .int .i64 a1, .agg #[.slice a2 len2 cap2]] w fun e w' => e = .returned (.bool true) ∧ Below w.heap.size w w' := by
  have hl0 : szS n0 ≤ 1048576 := by omega
  have hl2 : len2 ≤ 1048576 := by omega
  have hnl : n0.length ≤ 1048576 := by unfold szS at hl0; omega
  have hr2 : AllI z2 := hz2.2.1
  have HT0 := Lib.hid hz2
  have HZ0 := Lib.hid hz0
  have HF0 := Lib.hid hf0
  clear hz0 hf0 hz2
  have KS := Lib.hid (fun (a b : Option Addr) (cap c : Nat) (w' : World) (h : Nds w' a n0) (h2 : Rls w' b len2 z2) => ssettable a cap n0 a1 b len2 c z2 w' h hl0 h2 hl2 ⟨u1, v1⟩)
  have KI := Lib.hid (fun (a b : Option Addr) (cap c : Nat) (w' : World) (h : Nds w' a n0) (h2 : Rls w' b len2 z2) => isettable a cap n0 a1 b len2 c z2 w' h hl0 h2 hl2 ⟨u1, v1⟩)
  have hsR : szS (stN n0 a1 len2 z2) ≤ 2097152 := stN_sz n0 a1 len2 z2 hls
  obtain ⟨R, eR⟩ : ∃ R, R = stN n0 a1 len2 z2 := ⟨_, rfl⟩
  obtain ⟨C, eC⟩ : ∃ C, C = stC n0 a1 len2 z2 := ⟨_, rfl⟩
  rw [← eR, ← eC] at KS KI
  rw [← eR] at hsR
  clear eR eC
  have H0 := hp_on (hp_new w (.cells #[.slice a0 n0.length cap0] 64)) (.cells #[.slice a2 len2 cap2] 80)
  have H5 := hp_new (w.alloc (.cells #[.slice a0 n0.length cap0] 64)) (.cells #[.slice a2 len2 cap2] 80)
  simp only [World.size_alloc] at H5
  have B : Below w.heap.size w ((w.alloc (.cells #[.slice a0 n0.length cap0] 64)).alloc (.cells #[.slice a2 len2 cap2] 80)) := (bel_alloc w _).trans ((bel_alloc _ _).mono (bel_alloc w _).size)
  obtain ⟨u, eu⟩ : ∃ u, u = (w.alloc (.cells #[.slice a0 n0.length cap0] 64)).alloc (.cells #[.slice a2 len2 cap2] 80) := ⟨_, rfl⟩
  rw [← eu] at B H0 H5
  have EU := Lib.hid eu
  clear eu
  have c0 : u.cell? ⟨w.heap.size, 0, none⟩ = some (.slice a0 n0.length cap0) := (Go.Joins.cell_of_block H0 0).trans rfl
  go_enter Try.func9, Try.ntmps9
  (try dsimp only)
  go_wp2_with (rw [← EU.out])
  refine (sztr_any a0 cap0 n0 1048576 _ (HZ0.out.below B) (by omega) (by omega) hm0 HF0.out).mono ?_
  rintro e w1 ⟨rfl, b1⟩
  replace H0 := hp_below H0 b1
  replace H5 := hp_below H5 b1
  replace B := B.trans (b1.mono B.size)
  clear b1 c0
  rw [sz_of (by omega)]
  have hleft : (0 : Int) ≤ 1048576 - (szS n0 : Int) := by omega
  have hlt : (len2 : Int) ≤ (1048576 : Int) - (szS n0 : Int) := by omega
  have hlu : (1048576 : Int) - (szS n0 : Int) ≤ 1048576 := by omega
  generalize (1048576 : Int) - (szS n0 : Int) = lft at *
  have c5 := c_of H5
  (try dsimp only)
  go_wp2_with (fail)
  clear c5
  refine (szt_fit a2 len2 cap2 lft _ hlt hlu).mono ?_
  rintro e w2 ⟨rfl, b2⟩
  replace H0 := hp_below H0 b2
  replace H5 := hp_below H5 b2
  replace B := B.trans (b2.mono B.size)
  clear b2
  have hlf2 : (0 : Int) ≤ lft - (len2 : Int) := by omega
  generalize lft - (len2 : Int) = lfu at *
  have HZ1 := Lib.hid (HZ0.out.below B)
  have HT1 := Lib.hid (HT0.out.below B)
  have h0l := hp_lt H0
  have h5l := hp_lt H5
  (try dsimp only)
  go_wp2_with (fail)
  refine reg_key5 (fun (gT gP : Nat) (g : Nat) (av : Option Addr) (cv : Nat) w' => GotT w2 R g av cv w') ?_
  apply Exists.intro
  refine ⟨?pA, ?sA⟩
  case pA =>
    refine wp_region_held_drew (S := fun w' => Below w2.heap.size w2 w') (by kernel_rfl) (Below.refl w2.heap.size w2).drew (fun HS => ?_)
    obtain ⟨d, ed⟩ : ∃ d, d = w2.drew := ⟨_, rfl⟩
    rw [← ed] at HS ⊢
    clear ed
    refine wpAnyH_take (i := 0) (oi := ⟨some 30, Op.load 64 (Operand.tmp 3), _, _, _, _⟩) (v := .agg #[.slice a0 n0.length cap0]) rfl (by kernel_rfl) (by kernel_rfl) (by kernel_rfl) (fun _ _ _ h => by cases h.1) (yields_row rfl rfl rfl lw_tree (lw_tree1 _) (fun w' hw' => hp_below H0 hw')) HS ?_
    simp only [World.size_alloc, Act.put, List.setIfInBounds_toArray, List.set_cons_succ, List.set_cons_zero]
    refine wpAnyH_take (i := 2) (oi := ⟨some 32, Op.move (Operand.tmp 1), _, _, _, _⟩) (v := .int .i64 a1) rfl (by kernel_rfl) (by kernel_rfl) (by kernel_rfl) (fun _ _ _ h => by cases h.1) (Or.inl ⟨rfl, fun W hW => by rfl⟩) HS ?_
    simp only [World.size_alloc, Act.put, List.setIfInBounds_toArray, List.set_cons_succ, List.set_cons_zero]
    refine wpAnyH_take (i := 3) (oi := ⟨some 33, Op.load 80 (Operand.tmp 5), _, _, _, _⟩) (v := .agg #[.slice a2 len2 cap2]) rfl (by kernel_rfl) (by kernel_rfl) (by kernel_rfl) (fun _ _ _ h => by cases h.1) (yields_row rfl rfl rfl lw_tab (lw_tab1 _) (fun w' hw' => hp_below H5 hw')) HS ?_
    simp only [World.size_alloc, Act.put, List.setIfInBounds_toArray, List.set_cons_succ, List.set_cons_zero]
    refine anyH_2 1 9 rfl rfl (by kernel_rfl) rfl rfl ?_ ?_
    ·
      go_wp2_with (fail)
      refine (totr_any a0 cap0 n0 _ (HZ1.out.below HS) hl0).mono ?_
      rintro e e1 ⟨gT, msT, hmsT, rfl, rT, bF⟩
      (try dsimp only)
      have HS1 := HS.trans (bF.mono HS.size)
      clear bF
      refine ⟨HS1, ?_⟩
      refine anyH_2 4 9 rfl rfl (by kernel_rfl) rfl rfl ?_ ?_
      ·
        go_wp2_with (fail)
        refine (toT_any a2 len2 cap2 z2 _ (HT1.out.below HS1) hl2).mono ?_
        rintro e e2 ⟨gP, rfl, rP, bF⟩
        replace rT := rT.below bF
        (try dsimp only)
        have HS2 := HS1.trans (bF.mono HS1.size)
        clear bF
        refine ⟨HS2, ?_⟩
        refine anyH_2 5 9 rfl rfl (by kernel_rfl) rfl rfl ?_ ?_
        ·
          go_wp2_with (fail)
          refine (KS.out (some ⟨gT, 0, none⟩) (some ⟨gP, 0, none⟩) n0.length len2 _ (rT.ndsAt hmsT) (rP.rls hr2)).mono ?_
          rintro e e3 ⟨vF, msF, hmsF, rfl, hoF, bF⟩
          obtain ⟨av, cv, rfl⟩ := own_form hoF.1
          have hml : msF.length = R.length := by rw [← hmsF, List.length_map]
          rw [hml] at hoF ⊢
          (try dsimp only)
          have HS3 := HS2.trans (bF.mono HS2.size)
          refine ⟨HS3, ?_⟩
          refine wpAnyH_take (i := 6) (oi := ⟨some 29, Op.move (Operand.tmp 35), _, _, _, _⟩) (v := .tuple #[.agg #[.slice av R.length cv], .int .i64 C]) rfl (by kernel_rfl) (by kernel_rfl) (by kernel_rfl) (fun _ _ _ h => by cases h.1) (Or.inl ⟨rfl, fun W hW => by rfl⟩) HS3 ?_
          simp only [World.size_alloc, Act.put, List.setIfInBounds_toArray, List.set_cons_succ, List.set_cons_zero]
          refine wpAnyH_take (i := 7) (oi := ⟨some 36, Op.extract (Operand.tmp 29) 0, _, _, _, _⟩) (v := .agg #[.slice av R.length cv]) rfl (by kernel_rfl) (by kernel_rfl) (by kernel_rfl) (fun _ _ _ h => by cases h.1) (Or.inl ⟨rfl, fun W hW => by rfl⟩) HS3 ?_
          simp only [World.size_alloc, Act.put, List.setIfInBounds_toArray, List.set_cons_succ, List.set_cons_zero]
          refine wpAnyH_take (i := 8) (oi := ⟨some 37, Op.extract (Operand.tmp 29) 1, _, _, _, _⟩) (v := .int .i64 C) rfl (by kernel_rfl) (by kernel_rfl) (by kernel_rfl) (fun _ _ _ h => by cases h.1) (Or.inl ⟨rfl, fun W hW => by rfl⟩) HS3 ?_
          simp only [World.size_alloc, Act.put, List.setIfInBounds_toArray, List.set_cons_succ, List.set_cons_zero]
          refine anyH_1 9 rfl (by kernel_rfl) rfl ?_
          go_wp2_with (fail)
          (try dsimp only)
          have ba := bel_alloc e3 (.cells #[.slice none 0 0] 26)
          have hb := hp_new e3 (.cells #[.slice none 0 0] 26)
          obtain ⟨e4, ev⟩ : ∃ e4, e4 = e3.alloc (.cells #[.slice none 0 0] 26) := ⟨_, rfl⟩
          rw [← ev] at ba hb ⊢
          obtain ⟨g, eg⟩ : ∃ g, g = e3.heap.size := ⟨_, rfl⟩
          rw [← eg] at hb ⊢
          have HSa := HS3.trans (ba.mono HS3.size)
          refine ⟨HSa, ?_⟩
          have hg : w2.heap.size ≤ g := by rw [eg]; exact HS3.size
          have EG := Lib.hid eg
          have EV := Lib.hid ev
          clear eg ev ba
          refine anyH_1 10 rfl (by kernel_rfl) rfl ?_
          have zg : e4.cell? ⟨g, 0, none⟩ = some (.slice none 0 0) := (Go.Joins.cell_of_block hb 0).trans rfl
          have fg := Go.Joins.unfrozen_of_block hb 0
          go_wp2_with (fail)
          (try dsimp only)
          obtain ⟨e5, ew⟩ : ∃ q, q = e4.setCell ⟨g, 0, none⟩ (.slice av R.length cv) := ⟨_, rfl⟩
          rw [← ew]
          have HSb : Below w2.heap.size w2 e5 := by rw [ew]; exact bl_set HSa 0 hg _
          have EW := Lib.hid ew
          clear ew
          refine ⟨HSb, ?_⟩
          refine anyH_1 11 rfl (by kernel_rfl) rfl ?_
          go_wp2_with (fail)
          (try dsimp only)
          first | (refine ⟨HSb, ?_⟩; refine wpAnyH_done (by kernel_rfl) ?_ _) | refine ⟨by kernel_rfl, ?_⟩
          exact ⟨rfl, gT, gP, g, av, cv, got_b HS2 hoF hmsF bF EG.out EV.out EW.out, rfl⟩
        ·
          go_wp2_with (fail)
          (try dsimp only)
          have ba := bel_alloc e2 (.cells #[.slice none 0 0] 26)
          have hb := hp_new e2 (.cells #[.slice none 0 0] 26)
          have hg : w2.heap.size ≤ e2.heap.size := HS2.size
          obtain ⟨e6, ev⟩ : ∃ e6, e6 = e2.alloc (.cells #[.slice none 0 0] 26) := ⟨_, rfl⟩
          rw [← ev] at ba hb ⊢
          clear ev
          obtain ⟨g, eg⟩ : ∃ g, g = e2.heap.size := ⟨_, rfl⟩
          rw [← eg] at hb hg ⊢
          have HS6 := HS2.trans (ba.mono HS2.size)
          replace rT := rT.below ba
          replace rP := rP.below ba
          clear ba eg
          refine ⟨HS6, ?_⟩
          refine anyH_1 5 rfl (by kernel_rfl) rfl ?_
          have hbu := hb
          go_wp2_with (fail)
          refine (KS.out (some ⟨gT, 0, none⟩) (some ⟨gP, 0, none⟩) n0.length len2 _ (rT.ndsAt hmsT) (rP.rls hr2)).mono ?_
          rintro e e7 ⟨vF, msF, hmsF, rfl, hoF, bF⟩
          obtain ⟨av, cv, rfl⟩ := own_form hoF.1
          have hml : msF.length = R.length := by rw [← hmsF, List.length_map]
          rw [hml] at hoF ⊢
          (try dsimp only)
          have HS7 := HS6.trans (bF.mono HS6.size)
          refine ⟨HS7, ?_⟩
          refine wpAnyH_take (i := 6) (oi := ⟨some 29, Op.move (Operand.tmp 35), _, _, _, _⟩) (v := .tuple #[.agg #[.slice av R.length cv], .int .i64 C]) rfl (by kernel_rfl) (by kernel_rfl) (by kernel_rfl) (fun _ _ _ h => by cases h.1) (Or.inl ⟨rfl, fun W hW => by rfl⟩) HS7 ?_
          simp only [World.size_alloc, Act.put, List.setIfInBounds_toArray, List.set_cons_succ, List.set_cons_zero]
          refine wpAnyH_take (i := 7) (oi := ⟨some 36, Op.extract (Operand.tmp 29) 0, _, _, _, _⟩) (v := .agg #[.slice av R.length cv]) rfl (by kernel_rfl) (by kernel_rfl) (by kernel_rfl) (fun _ _ _ h => by cases h.1) (Or.inl ⟨rfl, fun W hW => by rfl⟩) HS7 ?_
          simp only [World.size_alloc, Act.put, List.setIfInBounds_toArray, List.set_cons_succ, List.set_cons_zero]
          refine wpAnyH_take (i := 8) (oi := ⟨some 37, Op.extract (Operand.tmp 29) 1, _, _, _, _⟩) (v := .int .i64 C) rfl (by kernel_rfl) (by kernel_rfl) (by kernel_rfl) (fun _ _ _ h => by cases h.1) (Or.inl ⟨rfl, fun W hW => by rfl⟩) HS7 ?_
          simp only [World.size_alloc, Act.put, List.setIfInBounds_toArray, List.set_cons_succ, List.set_cons_zero]
          replace hb := hp_below hbu bF
          refine anyH_1 10 rfl (by kernel_rfl) rfl ?_
          have zg : e7.cell? ⟨g, 0, none⟩ = some (.slice none 0 0) := (Go.Joins.cell_of_block hb 0).trans rfl
          have fg := Go.Joins.unfrozen_of_block hb 0
          go_wp2_with (fail)
          (try dsimp only)
          obtain ⟨e8, ew⟩ : ∃ q, q = e7.setCell ⟨g, 0, none⟩ (.slice av R.length cv) := ⟨_, rfl⟩
          rw [← ew]
          have HSb : Below w2.heap.size w2 e8 := by rw [ew]; exact bl_set HS7 0 hg _
          have EW := Lib.hid ew
          clear ew
          refine ⟨HSb, ?_⟩
          refine anyH_1 11 rfl (by kernel_rfl) rfl ?_
          go_wp2_with (fail)
          (try dsimp only)
          first | (refine ⟨HSb, ?_⟩; refine wpAnyH_done (by kernel_rfl) ?_ _) | refine ⟨by kernel_rfl, ?_⟩
          exact ⟨rfl, gT, gP, g, av, cv, got_a HS6 hbu hg hoF hmsF bF EW.out, rfl⟩
      ·
        go_wp2_with (fail)
        (try dsimp only)
        have ba := bel_alloc e1 (.cells #[.slice none 0 0] 26)
        have hb := hp_new e1 (.cells #[.slice none 0 0] 26)
        have hg : w2.heap.size ≤ e1.heap.size := HS1.size
        obtain ⟨e9, ev⟩ : ∃ e9, e9 = e1.alloc (.cells #[.slice none 0 0] 26) := ⟨_, rfl⟩
        rw [← ev] at ba hb ⊢
        clear ev
        obtain ⟨g, eg⟩ : ∃ g, g = e1.heap.size := ⟨_, rfl⟩
        rw [← eg] at hb hg ⊢
        have HS9 := HS1.trans (ba.mono HS1.size)
        replace rT := rT.below ba
        clear ba eg
        refine ⟨HS9, ?_⟩
        refine anyH_1 4 rfl (by kernel_rfl) rfl ?_
        go_wp2_with (fail)
        refine (toT_any a2 len2 cap2 z2 _ (HT1.out.below HS9) hl2).mono ?_
        rintro e e10 ⟨gP, rfl, rP, bF⟩
        replace hb := hp_below hb bF
        replace rT := rT.below bF
        (try dsimp only)
        have HS10 := HS9.trans (bF.mono HS9.size)
        clear bF
        refine ⟨HS10, ?_⟩
        refine anyH_1 5 rfl (by kernel_rfl) rfl ?_
        have hbu := hb
        go_wp2_with (fail)
        refine (KS.out (some ⟨gT, 0, none⟩) (some ⟨gP, 0, none⟩) n0.length len2 _ (rT.ndsAt hmsT) (rP.rls hr2)).mono ?_
        rintro e e11 ⟨vF, msF, hmsF, rfl, hoF, bF⟩
        obtain ⟨av, cv, rfl⟩ := own_form hoF.1
        have hml : msF.length = R.length := by rw [← hmsF, List.length_map]
        rw [hml] at hoF ⊢
        (try dsimp only)
        have HS11 := HS10.trans (bF.mono HS10.size)
        refine ⟨HS11, ?_⟩
        refine wpAnyH_take (i := 6) (oi := ⟨some 29, Op.move (Operand.tmp 35), _, _, _, _⟩) (v := .tuple #[.agg #[.slice av R.length cv], .int .i64 C]) rfl (by kernel_rfl) (by kernel_rfl) (by kernel_rfl) (fun _ _ _ h => by cases h.1) (Or.inl ⟨rfl, fun W hW => by rfl⟩) HS11 ?_
        simp only [World.size_alloc, Act.put, List.setIfInBounds_toArray, List.set_cons_succ, List.set_cons_zero]
        refine wpAnyH_take (i := 7) (oi := ⟨some 36, Op.extract (Operand.tmp 29) 0, _, _, _, _⟩) (v := .agg #[.slice av R.length cv]) rfl (by kernel_rfl) (by kernel_rfl) (by kernel_rfl) (fun _ _ _ h => by cases h.1) (Or.inl ⟨rfl, fun W hW => by rfl⟩) HS11 ?_
        simp only [World.size_alloc, Act.put, List.setIfInBounds_toArray, List.set_cons_succ, List.set_cons_zero]
        refine wpAnyH_take (i := 8) (oi := ⟨some 37, Op.extract (Operand.tmp 29) 1, _, _, _, _⟩) (v := .int .i64 C) rfl (by kernel_rfl) (by kernel_rfl) (by kernel_rfl) (fun _ _ _ h => by cases h.1) (Or.inl ⟨rfl, fun W hW => by rfl⟩) HS11 ?_
        simp only [World.size_alloc, Act.put, List.setIfInBounds_toArray, List.set_cons_succ, List.set_cons_zero]
        replace hb := hp_below hbu bF
        refine anyH_1 10 rfl (by kernel_rfl) rfl ?_
        have zg : e11.cell? ⟨g, 0, none⟩ = some (.slice none 0 0) := (Go.Joins.cell_of_block hb 0).trans rfl
        have fg := Go.Joins.unfrozen_of_block hb 0
        go_wp2_with (fail)
        (try dsimp only)
        obtain ⟨e12, ew⟩ : ∃ q, q = e11.setCell ⟨g, 0, none⟩ (.slice av R.length cv) := ⟨_, rfl⟩
        rw [← ew]
        have HSb : Below w2.heap.size w2 e12 := by rw [ew]; exact bl_set HS11 0 hg _
        have EW := Lib.hid ew
        clear ew
        refine ⟨HSb, ?_⟩
        refine anyH_1 11 rfl (by kernel_rfl) rfl ?_
        go_wp2_with (fail)
        (try dsimp only)
        first | (refine ⟨HSb, ?_⟩; refine wpAnyH_done (by kernel_rfl) ?_ _) | refine ⟨by kernel_rfl, ?_⟩
        exact ⟨rfl, gT, gP, g, av, cv, got_a HS10 hbu hg hoF hmsF bF EW.out, rfl⟩
    ·
      go_wp2_with (fail)
      (try dsimp only)
      have ba := bel_alloc d (.cells #[.slice none 0 0] 26)
      have hb := hp_new d (.cells #[.slice none 0 0] 26)
      have hg : w2.heap.size ≤ d.heap.size := HS.size
      obtain ⟨e13, ev⟩ : ∃ e13, e13 = d.alloc (.cells #[.slice none 0 0] 26) := ⟨_, rfl⟩
      rw [← ev] at ba hb ⊢
      clear ev
      obtain ⟨g, eg⟩ : ∃ g, g = d.heap.size := ⟨_, rfl⟩
      rw [← eg] at hb hg ⊢
      have HS13 := HS.trans (ba.mono HS.size)
      clear ba eg
      refine ⟨HS13, ?_⟩
      refine anyH_1 1 rfl (by kernel_rfl) rfl ?_
      go_wp2_with (fail)
      refine (totr_any a0 cap0 n0 _ (HZ1.out.below HS13) hl0).mono ?_
      rintro e e14 ⟨gT, msT, hmsT, rfl, rT, bF⟩
      replace hb := hp_below hb bF
      (try dsimp only)
      have HS14 := HS13.trans (bF.mono HS13.size)
      clear bF
      refine ⟨HS14, ?_⟩
      refine anyH_1 4 rfl (by kernel_rfl) rfl ?_
      go_wp2_with (fail)
      refine (toT_any a2 len2 cap2 z2 _ (HT1.out.below HS14) hl2).mono ?_
      rintro e e15 ⟨gP, rfl, rP, bF⟩
      replace hb := hp_below hb bF
      replace rT := rT.below bF
      (try dsimp only)
      have HS15 := HS14.trans (bF.mono HS14.size)
      clear bF
      refine ⟨HS15, ?_⟩
      refine anyH_1 5 rfl (by kernel_rfl) rfl ?_
      have hbu := hb
      go_wp2_with (fail)
      refine (KS.out (some ⟨gT, 0, none⟩) (some ⟨gP, 0, none⟩) n0.length len2 _ (rT.ndsAt hmsT) (rP.rls hr2)).mono ?_
      rintro e e16 ⟨vF, msF, hmsF, rfl, hoF, bF⟩
      obtain ⟨av, cv, rfl⟩ := own_form hoF.1
      have hml : msF.length = R.length := by rw [← hmsF, List.length_map]
      rw [hml] at hoF ⊢
      (try dsimp only)
      have HS16 := HS15.trans (bF.mono HS15.size)
      refine ⟨HS16, ?_⟩
      refine wpAnyH_take (i := 6) (oi := ⟨some 29, Op.move (Operand.tmp 35), _, _, _, _⟩) (v := .tuple #[.agg #[.slice av R.length cv], .int .i64 C]) rfl (by kernel_rfl) (by kernel_rfl) (by kernel_rfl) (fun _ _ _ h => by cases h.1) (Or.inl ⟨rfl, fun W hW => by rfl⟩) HS16 ?_
      simp only [World.size_alloc, Act.put, List.setIfInBounds_toArray, List.set_cons_succ, List.set_cons_zero]
      refine wpAnyH_take (i := 7) (oi := ⟨some 36, Op.extract (Operand.tmp 29) 0, _, _, _, _⟩) (v := .agg #[.slice av R.length cv]) rfl (by kernel_rfl) (by kernel_rfl) (by kernel_rfl) (fun _ _ _ h => by cases h.1) (Or.inl ⟨rfl, fun W hW => by rfl⟩) HS16 ?_
      simp only [World.size_alloc, Act.put, List.setIfInBounds_toArray, List.set_cons_succ, List.set_cons_zero]
      refine wpAnyH_take (i := 8) (oi := ⟨some 37, Op.extract (Operand.tmp 29) 1, _, _, _, _⟩) (v := .int .i64 C) rfl (by kernel_rfl) (by kernel_rfl) (by kernel_rfl) (fun _ _ _ h => by cases h.1) (Or.inl ⟨rfl, fun W hW => by rfl⟩) HS16 ?_
      simp only [World.size_alloc, Act.put, List.setIfInBounds_toArray, List.set_cons_succ, List.set_cons_zero]
      replace hb := hp_below hbu bF
      refine anyH_1 10 rfl (by kernel_rfl) rfl ?_
      have zg : e16.cell? ⟨g, 0, none⟩ = some (.slice none 0 0) := (Go.Joins.cell_of_block hb 0).trans rfl
      have fg := Go.Joins.unfrozen_of_block hb 0
      go_wp2_with (fail)
      (try dsimp only)
      obtain ⟨e17, ew⟩ : ∃ q, q = e16.setCell ⟨g, 0, none⟩ (.slice av R.length cv) := ⟨_, rfl⟩
      rw [← ew]
      have HSb : Below w2.heap.size w2 e17 := by rw [ew]; exact bl_set HS16 0 hg _
      have EW := Lib.hid ew
      clear ew
      refine ⟨HSb, ?_⟩
      refine anyH_1 11 rfl (by kernel_rfl) rfl ?_
      go_wp2_with (fail)
      (try dsimp only)
      first | (refine ⟨HSb, ?_⟩; refine wpAnyH_done (by kernel_rfl) ?_ _) | refine ⟨by kernel_rfl, ?_⟩
      exact ⟨rfl, gT, gP, g, av, cv, got_a HS15 hbu hg hoF hmsF bF EW.out, rfl⟩
  case sA =>
    intro gT gP0 gW avW cvW w5 hG
    obtain ⟨bA, HW, hgW, msW, loW, hiW, hmsW, hoW, -, -, -, -⟩ := hG
    replace H0 := hp_below H0 bA
    replace H5 := hp_below H5 bA
    replace B := B.trans (bA.mono B.size)
    have NW := Lib.hid (hoW.ndsR hmsW)
    have HZ5 := Lib.hid (HZ1.out.below bA)
    have HT5 := Lib.hid (HT1.out.below bA)
    clear bA hoW hmsW HZ1 HT1 h0l h5l
    have l0 := hp_lt H0
    have l5 := hp_lt H5
    have lW := hp_lt HW
    have c0 := c_of H0
    go_wp2_with (fail)
    clear c0
    refine (totr_any a0 cap0 n0 _ HZ5.out hl0).mono ?_
    rintro e w6a ⟨gx, msx, hmsx, rfl, rx, b6a⟩
    have c5 := c_of (hp_below (hp_below H5 b6a) (bel_alloc w6a (.cells #[.slice (some ⟨gx, 0, none⟩) n0.length n0.length] 26)))
    have bx := bel_alloc w6a (.cells #[.slice (some ⟨gx, 0, none⟩) n0.length n0.length] 26)
    have HX := hp_new w6a (.cells #[.slice (some ⟨gx, 0, none⟩) n0.length n0.length] 26)
    have hvx := (own_lt rx).1
    have hcx := (own_lt rx).2
    obtain ⟨w6, e6⟩ : ∃ q, q = w6a.alloc (.cells #[.slice (some ⟨gx, 0, none⟩) n0.length n0.length] 26) := ⟨_, rfl⟩
    rw [← e6] at bx HX c5
    have EW6 := Lib.hid e6
    clear e6
    (try dsimp only)
    go_wp2_with (rw [← EW6.out])
    clear EW6 c5
    obtain ⟨gX, egX⟩ : ∃ q, q = w6a.heap.size := ⟨_, rfl⟩
    rw [← egX] at HX hvx hcx ⊢
    have hX5 : w5.heap.size ≤ gX := by rw [egX]; exact b6a.size
    clear egX
    replace rx := rx.below bx
    have B5 : Below w5.heap.size w5 w6 := b6a.trans (bx.mono b6a.size)
    clear bx b6a
    -- the table
    refine (toT_any a2 len2 cap2 z2 _ (HT5.out.below B5) hl2).mono ?_
    rintro e w7a ⟨gp, rfl, rp, b7a⟩
    have hgp := World.ownsRow.lt rp gp rfl
    have hX6 := hp_lt HX
    have bp := bel_alloc w7a (.cells #[.slice (some ⟨gp, 0, none⟩) len2 len2] 51)
    have HP := hp_new w7a (.cells #[.slice (some ⟨gp, 0, none⟩) len2 len2] 51)
    have HX7 := hp_below (hp_below HX b7a) bp
    have RX7 := Lib.hid ((rx.below b7a).below bp)
    have rp7 := rp.below bp
    have B57 : Below w5.heap.size w5 w7a := B5.trans (b7a.mono B5.size)
    replace B5 := B57.trans (bp.mono B57.size)
    have EW7 := Lib.hid (rfl : w7a.alloc (.cells #[.slice (some ⟨gp, 0, none⟩) len2 len2] 51) = w7a.alloc (.cells #[.slice (some ⟨gp, 0, none⟩) len2 len2] 51))
    obtain ⟨w7, e7⟩ : ∃ q, q = w7a.alloc (.cells #[.slice (some ⟨gp, 0, none⟩) len2 len2] 51) := ⟨_, rfl⟩
    rw [← e7] at bp HP HX7 RX7 rp7 B5
    clear EW7
    have EW7 := Lib.hid e7
    have hw7 : w7.heap.size = w7a.heap.size + 1 := by rw [e7]; simp
    clear e7 b7a B57 rx rp HX bp
    obtain ⟨gXt, egp⟩ : ∃ q, q = w7a.heap.size := ⟨_, rfl⟩
    have HP' := HP
    rw [← egp] at HP'
    have cX := c_of HX7
    have cP := c_of HP
    (try dsimp only)
    go_wp2_with (rw [← EW7.out])
    rw [← egp] at hgp hw7 ⊢
    clear cX cP EW7 HP egp
    have HP := HP'
    clear HP'
    have NX7 := Lib.hid (RX7.out.ndsAt hmsx)
    have HVX := Lib.hid hvx
    have HCX := Lib.hid hcx
    clear hvx hcx
    have RP7 := Lib.hid rp7
    clear rp7
    -- the program
    refine (KI.out (some ⟨gx, 0, none⟩) (some ⟨gp, 0, none⟩) n0.length len2 _ NX7.out (RP7.out.rls hr2)).mono ?_
    rintro e w8a ⟨vF, msG, hmsG, rfl, hoG, bG⟩
    obtain ⟨avG, cvG, rfl⟩ := own_form hoG.1
    have hmlG : msG.length = R.length := by rw [← hmsG, List.length_map]
    rw [hmlG] at hoG ⊢
    have bg := bel_alloc w8a (.cells #[.slice avG R.length cvG] 26)
    have HG := hp_new w8a (.cells #[.slice avG R.length cvG] 26)
    have HVG := Lib.hid (own_lt hoG).1
    have HCG := Lib.hid (own_lt hoG).2
    have B8 : Below w7.heap.size w7 (w8a.alloc (.cells #[.slice avG R.length cvG] 26)) := bG.trans (bg.mono bG.size)
    have OG := Lib.hid (hoG.below bg)
    have hgG7 : w7.heap.size ≤ w8a.heap.size := bG.size
    obtain ⟨w8, e8⟩ : ∃ q, q = w8a.alloc (.cells #[.slice avG R.length cvG] 26) := ⟨_, rfl⟩
    rw [← e8] at HG B8 OG
    have EW8 := Lib.hid e8
    clear e8 bG bg hoG
    replace B5 := B5.trans (B8.mono B5.size)
    have cG := c_of HG
    have cW := c_of (hp_below HW B5)
    (try dsimp only)
    go_wp2_with (rw [← EW8.out])
    clear EW8 cG cW
    obtain ⟨gG, egG⟩ : ∃ q, q = w8a.heap.size := ⟨_, rfl⟩
    rw [← egG] at HG HVG HCG hgG7 ⊢
    clear egG
    replace HX7 := hp_below HX7 B8
    replace HP := hp_below HP B8
    replace RX7 := Lib.hid (RX7.out.below B8)
    replace RP7 := Lib.hid (RP7.out.below B8)
    replace NX7 := Lib.hid (NX7.out.below B8)
    clear B8
    have NG := Lib.hid (OG.out.ndsR hmsG)
    refine (eqtr_any avG avW cvG cvW R _ NG.out (NW.out.below B5) (by omega)).mono ?_
    rintro e w9 ⟨rfl, b9⟩
    replace B5 := B5.trans (b9.mono B5.size)
    replace HG := hp_below HG b9
    replace HX7 := hp_below HX7 b9
    replace HP := hp_below HP b9
    replace OG := Lib.hid (OG.out.below b9)
    replace RX7 := Lib.hid (RX7.out.below b9)
    replace RP7 := Lib.hid (RP7.out.below b9)
    replace NX7 := Lib.hid (NX7.out.below b9)
    clear b9 NG
    (try dsimp only)
    go_wp2_with (fail)
    refine wp_region_held_drew (S := fun w' => Below w9.heap.size w9 w') (by kernel_rfl) (Below.refl w9.heap.size w9).drew (fun HS => ?_)
    obtain ⟨d, ed⟩ : ∃ d, d = w9.drew := ⟨_, rfl⟩
    rw [← ed] at HS ⊢
    clear ed
    refine wpAnyH_take (i := 0) (oi := ⟨some 58, Op.load 26 (Operand.tmp 10), _, _, _, _⟩) (v := .agg #[.slice (some ⟨gx, 0, none⟩) n0.length n0.length]) rfl (by kernel_rfl) (by kernel_rfl) (by kernel_rfl) (fun _ _ _ h => h) (yields_row rfl rfl rfl im_tree (im_tree1 _) (fun w' hw' => hp_below HX7 hw')) HS ?_
    simp only [World.size_alloc, Act.put, List.setIfInBounds_toArray, List.set_cons_succ, List.set_cons_zero]
    have H0' := hp_below H0 B5
    refine wpAnyH_take (i := 1) (oi := ⟨some 59, Op.load 64 (Operand.tmp 3), _, _, _, _⟩) (v := .agg #[.slice a0 n0.length cap0]) rfl (by kernel_rfl) (by kernel_rfl) (by kernel_rfl) (fun _ _ _ h => h) (yields_row rfl rfl rfl lw_tree (lw_tree1 _) (fun w' hw' => hp_below H0' hw')) HS ?_
    simp only [World.size_alloc, Act.put, List.setIfInBounds_toArray, List.set_cons_succ, List.set_cons_zero]
    clear H0'
    refine anyH_1 2 rfl (by kernel_rfl) rfl ?_
    go_wp2_with (fail)
    refine (totr_any a0 cap0 n0 _ (HZ5.out.below (B5.trans (HS.mono B5.size))) hl0).mono ?_
    rintro e wq ⟨gy, msy, hmsy, rfl, ry, bq⟩
    (try dsimp only)
    have HS9 := HS.trans (bq.mono HS.size)
    clear bq HS
    refine ⟨HS9, ?_⟩
    refine anyH_1 3 rfl (by kernel_rfl) rfl ?_
    go_wp2_with (fail)
    refine (eqtr_any (some ⟨gx, 0, none⟩) (some ⟨gy, 0, none⟩) n0.length n0.length n0 _ (NX7.out.below HS9) (ry.ndsAt hmsy) (by omega)).mono ?_
    rintro e w10 ⟨rfl, bz⟩
    (try dsimp only)
    have HS10 := HS9.trans (bz.mono HS9.size)
    clear bz HS9 ry
    refine ⟨HS10, ?_⟩
    refine wpAnyH_take (i := 4) (oi := ⟨some 62, Op.unOp .not _ (Operand.tmp 61), _, _, _, _⟩) (v := .bool false) rfl (by kernel_rfl) (by kernel_rfl) (by kernel_rfl) (fun _ _ _ h => h) (Or.inl ⟨rfl, fun W hW => by rfl⟩) HS10 ?_
    simp only [World.size_alloc, Act.put, List.setIfInBounds_toArray, List.set_cons_succ, List.set_cons_zero]
    refine wpAnyH_done (by kernel_rfl) ?_ _
    have b10 := HS10
    clear HS10
    replace B5 := B5.trans (b10.mono B5.size)
    replace HG := hp_below HG b10
    replace HX7 := hp_below HX7 b10
    replace HP := hp_below HP b10
    replace OG := Lib.hid (OG.out.below b10)
    replace RX7 := Lib.hid (RX7.out.below b10)
    replace RP7 := Lib.hid (RP7.out.below b10)
    clear b10 NX7
    go_wp2_with (fail)
    
    refine wp_region_held_drew (S := fun w' => Below w10.heap.size w10 w') (by kernel_rfl) (Below.refl w10.heap.size w10).drew (fun HS => ?_)
    obtain ⟨d, ed⟩ : ∃ d, d = w10.drew := ⟨_, rfl⟩
    rw [← ed] at HS ⊢
    clear ed
    refine wpAnyH_take (i := 0) (oi := ⟨some 63, Op.load 51 (Operand.tmp 11), _, _, _, _⟩) (v := .agg #[.slice (some ⟨gp, 0, none⟩) len2 len2]) rfl (by kernel_rfl) (by kernel_rfl) (by kernel_rfl) (fun _ _ _ h => h) (yields_row rfl rfl rfl im_tab (im_tab1 _) (fun w' hw' => hp_below HP hw')) HS ?_
    simp only [World.size_alloc, Act.put, List.setIfInBounds_toArray, List.set_cons_succ, List.set_cons_zero]
    have H0' := hp_below H5 B5
    refine wpAnyH_take (i := 1) (oi := ⟨some 64, Op.load 80 (Operand.tmp 5), _, _, _, _⟩) (v := .agg #[.slice a2 len2 cap2]) rfl (by kernel_rfl) (by kernel_rfl) (by kernel_rfl) (fun _ _ _ h => h) (yields_row rfl rfl rfl lw_tab (lw_tab1 _) (fun w' hw' => hp_below H0' hw')) HS ?_
    simp only [World.size_alloc, Act.put, List.setIfInBounds_toArray, List.set_cons_succ, List.set_cons_zero]
    clear H0'
    refine anyH_1 2 rfl (by kernel_rfl) rfl ?_
    go_wp2_with (fail)
    refine (toT_any a2 len2 cap2 z2 _ (HT5.out.below (B5.trans (HS.mono B5.size))) hl2).mono ?_
    rintro e wq ⟨gy, rfl, ry, bq⟩
    (try dsimp only)
    have HS9 := HS.trans (bq.mono HS.size)
    clear bq HS
    refine ⟨HS9, ?_⟩
    refine anyH_1 3 rfl (by kernel_rfl) rfl ?_
    go_wp2_with (fail)
    refine (eqT_any (some ⟨gp, 0, none⟩) (some ⟨gy, 0, none⟩) len2 len2 len2 z2 _ ((RP7.out.rls hr2).below HS9) (ry.rls hr2) (by omega)).mono ?_
    rintro e w11 ⟨rfl, bz⟩
    (try dsimp only)
    have HS10 := HS9.trans (bz.mono HS9.size)
    clear bz HS9 ry
    refine ⟨HS10, ?_⟩
    refine wpAnyH_take (i := 4) (oi := ⟨some 67, Op.unOp .not _ (Operand.tmp 66), _, _, _, _⟩) (v := .bool false) rfl (by kernel_rfl) (by kernel_rfl) (by kernel_rfl) (fun _ _ _ h => h) (Or.inl ⟨rfl, fun W hW => by rfl⟩) HS10 ?_
    simp only [World.size_alloc, Act.put, List.setIfInBounds_toArray, List.set_cons_succ, List.set_cons_zero]
    refine wpAnyH_done (by kernel_rfl) ?_ _
    have b11 := HS10
    clear HS10
    replace B5 := B5.trans (b11.mono B5.size)
    replace HG := hp_below HG b11
    replace HX7 := hp_below HX7 b11
    replace HP := hp_below HP b11
    replace OG := Lib.hid (OG.out.below b11)
    replace RX7 := Lib.hid (RX7.out.below b11)
    replace RP7 := Lib.hid (RP7.out.below b11)
    clear b11
    have cX := c_of HX7
    go_wp2_with (fail)
    clear cX
    have hszx : szS (msx.map ND.n) ≤ 2097152 := by rw [hmsx]; omega
    refine (marktr_any w5.heap.size gX 1 (.slice (some ⟨gx, 0, none⟩) n0.length n0.length) msx _ RX7.out HVX.out HCX.out hszx (by decide)).mono ?_
    rintro e w12 ⟨rfl, -, fr⟩
    have hq0 : nxL 1 msx ≤ 4294967296 := Nat.le_trans (nxL_le 1 msx) (by omega)
    obtain ⟨q0, eq0⟩ : ∃ q, q = nxL 1 msx := ⟨_, rfl⟩
    rw [← eq0] at hq0 ⊢
    clear eq0
    replace B5 := B5.trans (fr.below (Nat.le_refl _) B5.size)
    replace HG := fr.heap HG (Or.inr (by omega))
    replace HP := fr.heap HP (Or.inr (by omega))
    replace OG := Lib.hid (OG.out.kept (fr.from (by omega)))
    have rp12 : RowR w6.heap.size (.slice (some ⟨gp, 0, none⟩) len2 len2) len2 z2 w12 := ownsRow_from RP7.out (fr.from (by omega))
    clear fr RX7 HX7 RP7
    have RP12 := Lib.hid rp12
    clear rp12
    have cP := c_of HP
    (try dsimp only)
    go_wp2_with (fail)
    clear cP
    refine (markT_any gp len2 len2 w6.heap.size q0 _ z2 _ (by omega) hq0 rfl RP12.out).mono ?_
    rintro e w13 ⟨rfl, gr13⟩
    have hq1 : (0 : Int) ≤ (q0 : Int) + (len2 : Int) * 3 := by omega
    generalize (q0 : Int) + (len2 : Int) * 3 = q1 at *
    replace B5 := B5.grown gr13 B5.size (fun k hk => by simp at hk; omega)
    replace HG := cp_grown HG gr13 (fun e => by simp at e; omega)
    replace OG := Lib.hid (OG.out.kept ⟨gr13.size, fun k h1 h2 => gr13.block k h2 (fun e => by simp at e; omega)⟩)
    clear gr13 RP12 HP
    have NG := Lib.hid (OG.out.ndsR hmsG)
    have cG := c_of HG
    have cW := c_of (hp_below HW B5)
    (try dsimp only)
    go_wp2_with (fail)
    clear cG cW
    refine (eqtr_any avG avW cvG cvW R _ NG.out (NW.out.below B5) (by omega)).mono ?_
    rintro e w14 ⟨rfl, b14⟩
    replace B5 := B5.trans (b14.mono B5.size)
    replace HG := hp_below HG b14
    replace OG := Lib.hid (OG.out.below b14)
    clear b14 NG
    have cG := c_of HG
    (try dsimp only)
    go_wp2_with (fail)
    clear cG
    have hszg : szS (msG.map ND.n) ≤ 2097152 := by rw [hmsG]; exact hsR
    refine (marktr_any w7.heap.size gG 1 (.slice avG R.length cvG) msG _ OG.out HVG.out HCG.out hszg (by decide)).mono ?_
    rintro e w15 ⟨rfl, OM, fr⟩
    have hq2 : (0 : Int) ≤ (nxL 1 msG : Int) := Int.natCast_nonneg _
    have HE := Lib.hid (heldtr_any w7.heap.size 1 (.slice avG R.length cvG) msG)
    have HSZ := Lib.hid hszg
    obtain ⟨q2, eq2⟩ : ∃ q : Int, q = (nxL 1 msG : Int) := ⟨_, rfl⟩
    rw [← eq2] at hq2 HE ⊢
    clear eq2 hszg
    replace B5 := B5.trans (fr.below (by omega) B5.size)
    replace HG := fr.heap HG (Or.inr (Nat.le_refl _))
    replace OM := Lib.hid OM
    clear fr OG
    have cG := c_of HG
    (try dsimp only)
    go_wp2_with (fail)
    clear cG
    refine (HE.out _ OM.out HSZ.out (by decide)).mono ?_
    rintro e w16 ⟨rfl, b16⟩
    replace B5 := B5.trans (b16.mono B5.size)
    replace HG := hp_below HG b16
    replace OM := Lib.hid (OM.out.below b16)
    clear b16
    (try dsimp only)
    go_wp2_with (fail)
    have HZ16 := Lib.hid (HZ5.out.below B5)
    have HT16 := Lib.hid (HT5.out.below B5)
    have H0' := hp_below H0 B5
    have H5' := hp_below H5 B5
    refine reg_key5 (fun (gT gP : Nat) (g : Nat) (av : Option Addr) (cv : Nat) w' => GotT w16 R g av cv w') ?_
    apply Exists.intro
    refine ⟨?pC, ?sC⟩
    case pC =>
      refine wp_region_held_drew (S := fun w' => Below w16.heap.size w16 w') (by kernel_rfl) (Below.refl w16.heap.size w16).drew (fun HS => ?_)
      obtain ⟨d, ed⟩ : ∃ d, d = w16.drew := ⟨_, rfl⟩
      rw [← ed] at HS ⊢
      clear ed
      refine wpAnyH_take (i := 0) (oi := ⟨some 99, Op.load 64 (Operand.tmp 3), _, _, _, _⟩) (v := .agg #[.slice a0 n0.length cap0]) rfl (by kernel_rfl) (by kernel_rfl) (by kernel_rfl) (fun _ _ _ h => by cases h.1) (yields_row rfl rfl rfl lw_tree (lw_tree1 _) (fun w' hw' => hp_below H0' hw')) HS ?_
      simp only [World.size_alloc, Act.put, List.setIfInBounds_toArray, List.set_cons_succ, List.set_cons_zero]
      refine wpAnyH_take (i := 2) (oi := ⟨some 101, Op.move (Operand.tmp 1), _, _, _, _⟩) (v := .int .i64 a1) rfl (by kernel_rfl) (by kernel_rfl) (by kernel_rfl) (fun _ _ _ h => by cases h.1) (Or.inl ⟨rfl, fun W hW => by rfl⟩) HS ?_
      simp only [World.size_alloc, Act.put, List.setIfInBounds_toArray, List.set_cons_succ, List.set_cons_zero]
      refine wpAnyH_take (i := 3) (oi := ⟨some 102, Op.load 80 (Operand.tmp 5), _, _, _, _⟩) (v := .agg #[.slice a2 len2 cap2]) rfl (by kernel_rfl) (by kernel_rfl) (by kernel_rfl) (fun _ _ _ h => by cases h.1) (yields_row rfl rfl rfl lw_tab (lw_tab1 _) (fun w' hw' => hp_below H5' hw')) HS ?_
      simp only [World.size_alloc, Act.put, List.setIfInBounds_toArray, List.set_cons_succ, List.set_cons_zero]
      refine anyH_2 1 9 rfl rfl (by kernel_rfl) rfl rfl ?_ ?_
      ·
        go_wp2_with (fail)
        refine (totr_any a0 cap0 n0 _ (HZ16.out.below HS) hl0).mono ?_
        rintro e e1 ⟨gT, msT, hmsT, rfl, rT, bF⟩
        (try dsimp only)
        have HS1 := HS.trans (bF.mono HS.size)
        clear bF
        refine ⟨HS1, ?_⟩
        refine anyH_2 4 9 rfl rfl (by kernel_rfl) rfl rfl ?_ ?_
        ·
          go_wp2_with (fail)
          refine (toT_any a2 len2 cap2 z2 _ (HT16.out.below HS1) hl2).mono ?_
          rintro e e2 ⟨gP, rfl, rP, bF⟩
          replace rT := rT.below bF
          (try dsimp only)
          have HS2 := HS1.trans (bF.mono HS1.size)
          clear bF
          refine ⟨HS2, ?_⟩
          refine anyH_2 5 9 rfl rfl (by kernel_rfl) rfl rfl ?_ ?_
          ·
            go_wp2_with (fail)
            refine (KI.out (some ⟨gT, 0, none⟩) (some ⟨gP, 0, none⟩) n0.length len2 _ (rT.ndsAt hmsT) (rP.rls hr2)).mono ?_
            rintro e e3 ⟨vF, msF, hmsF, rfl, hoF, bF⟩
            obtain ⟨av, cv, rfl⟩ := own_form hoF.1
            have hml : msF.length = R.length := by rw [← hmsF, List.length_map]
            rw [hml] at hoF ⊢
            (try dsimp only)
            have HS3 := HS2.trans (bF.mono HS2.size)
            refine ⟨HS3, ?_⟩
            refine wpAnyH_take (i := 6) (oi := ⟨some 98, Op.move (Operand.tmp 104), _, _, _, _⟩) (v := .tuple #[.agg #[.slice av R.length cv], .int .i64 C]) rfl (by kernel_rfl) (by kernel_rfl) (by kernel_rfl) (fun _ _ _ h => by cases h.1) (Or.inl ⟨rfl, fun W hW => by rfl⟩) HS3 ?_
            simp only [World.size_alloc, Act.put, List.setIfInBounds_toArray, List.set_cons_succ, List.set_cons_zero]
            refine wpAnyH_take (i := 7) (oi := ⟨some 105, Op.extract (Operand.tmp 98) 0, _, _, _, _⟩) (v := .agg #[.slice av R.length cv]) rfl (by kernel_rfl) (by kernel_rfl) (by kernel_rfl) (fun _ _ _ h => by cases h.1) (Or.inl ⟨rfl, fun W hW => by rfl⟩) HS3 ?_
            simp only [World.size_alloc, Act.put, List.setIfInBounds_toArray, List.set_cons_succ, List.set_cons_zero]
            refine wpAnyH_take (i := 8) (oi := ⟨some 106, Op.extract (Operand.tmp 98) 1, _, _, _, _⟩) (v := .int .i64 C) rfl (by kernel_rfl) (by kernel_rfl) (by kernel_rfl) (fun _ _ _ h => by cases h.1) (Or.inl ⟨rfl, fun W hW => by rfl⟩) HS3 ?_
            simp only [World.size_alloc, Act.put, List.setIfInBounds_toArray, List.set_cons_succ, List.set_cons_zero]
            refine anyH_1 9 rfl (by kernel_rfl) rfl ?_
            go_wp2_with (fail)
            (try dsimp only)
            have ba := bel_alloc e3 (.cells #[.slice none 0 0] 26)
            have hb := hp_new e3 (.cells #[.slice none 0 0] 26)
            obtain ⟨e4, ev⟩ : ∃ e4, e4 = e3.alloc (.cells #[.slice none 0 0] 26) := ⟨_, rfl⟩
            rw [← ev] at ba hb ⊢
            obtain ⟨g, eg⟩ : ∃ g, g = e3.heap.size := ⟨_, rfl⟩
            rw [← eg] at hb ⊢
            have HSa := HS3.trans (ba.mono HS3.size)
            refine ⟨HSa, ?_⟩
            have hg : w16.heap.size ≤ g := by rw [eg]; exact HS3.size
            have EG := Lib.hid eg
            have EV := Lib.hid ev
            clear eg ev ba
            refine anyH_1 10 rfl (by kernel_rfl) rfl ?_
            have zg : e4.cell? ⟨g, 0, none⟩ = some (.slice none 0 0) := (Go.Joins.cell_of_block hb 0).trans rfl
            have fg := Go.Joins.unfrozen_of_block hb 0
            go_wp2_with (fail)
            (try dsimp only)
            obtain ⟨e5, ew⟩ : ∃ q, q = e4.setCell ⟨g, 0, none⟩ (.slice av R.length cv) := ⟨_, rfl⟩
            rw [← ew]
            have HSb : Below w16.heap.size w16 e5 := by rw [ew]; exact bl_set HSa 0 hg _
            have EW := Lib.hid ew
            clear ew
            refine ⟨HSb, ?_⟩
            refine anyH_1 11 rfl (by kernel_rfl) rfl ?_
            go_wp2_with (fail)
            (try dsimp only)
            first | (refine ⟨HSb, ?_⟩; refine wpAnyH_done (by kernel_rfl) ?_ _) | refine ⟨by kernel_rfl, ?_⟩
            exact ⟨rfl, gT, gP, g, av, cv, got_b HS2 hoF hmsF bF EG.out EV.out EW.out, rfl⟩
          ·
            go_wp2_with (fail)
            (try dsimp only)
            have ba := bel_alloc e2 (.cells #[.slice none 0 0] 26)
            have hb := hp_new e2 (.cells #[.slice none 0 0] 26)
            have hg : w16.heap.size ≤ e2.heap.size := HS2.size
            obtain ⟨e6, ev⟩ : ∃ e6, e6 = e2.alloc (.cells #[.slice none 0 0] 26) := ⟨_, rfl⟩
            rw [← ev] at ba hb ⊢
            clear ev
            obtain ⟨g, eg⟩ : ∃ g, g = e2.heap.size := ⟨_, rfl⟩
            rw [← eg] at hb hg ⊢
            have HS6 := HS2.trans (ba.mono HS2.size)
            replace rT := rT.below ba
            replace rP := rP.below ba
            clear ba eg
            refine ⟨HS6, ?_⟩
            refine anyH_1 5 rfl (by kernel_rfl) rfl ?_
            have hbu := hb
            go_wp2_with (fail)
            refine (KI.out (some ⟨gT, 0, none⟩) (some ⟨gP, 0, none⟩) n0.length len2 _ (rT.ndsAt hmsT) (rP.rls hr2)).mono ?_
            rintro e e7 ⟨vF, msF, hmsF, rfl, hoF, bF⟩
            obtain ⟨av, cv, rfl⟩ := own_form hoF.1
            have hml : msF.length = R.length := by rw [← hmsF, List.length_map]
            rw [hml] at hoF ⊢
            (try dsimp only)
            have HS7 := HS6.trans (bF.mono HS6.size)
            refine ⟨HS7, ?_⟩
            refine wpAnyH_take (i := 6) (oi := ⟨some 98, Op.move (Operand.tmp 104), _, _, _, _⟩) (v := .tuple #[.agg #[.slice av R.length cv], .int .i64 C]) rfl (by kernel_rfl) (by kernel_rfl) (by kernel_rfl) (fun _ _ _ h => by cases h.1) (Or.inl ⟨rfl, fun W hW => by rfl⟩) HS7 ?_
            simp only [World.size_alloc, Act.put, List.setIfInBounds_toArray, List.set_cons_succ, List.set_cons_zero]
            refine wpAnyH_take (i := 7) (oi := ⟨some 105, Op.extract (Operand.tmp 98) 0, _, _, _, _⟩) (v := .agg #[.slice av R.length cv]) rfl (by kernel_rfl) (by kernel_rfl) (by kernel_rfl) (fun _ _ _ h => by cases h.1) (Or.inl ⟨rfl, fun W hW => by rfl⟩) HS7 ?_
            simp only [World.size_alloc, Act.put, List.setIfInBounds_toArray, List.set_cons_succ, List.set_cons_zero]
            refine wpAnyH_take (i := 8) (oi := ⟨some 106, Op.extract (Operand.tmp 98) 1, _, _, _, _⟩) (v := .int .i64 C) rfl (by kernel_rfl) (by kernel_rfl) (by kernel_rfl) (fun _ _ _ h => by cases h.1) (Or.inl ⟨rfl, fun W hW => by rfl⟩) HS7 ?_
            simp only [World.size_alloc, Act.put, List.setIfInBounds_toArray, List.set_cons_succ, List.set_cons_zero]
            replace hb := hp_below hbu bF
            refine anyH_1 10 rfl (by kernel_rfl) rfl ?_
            have zg : e7.cell? ⟨g, 0, none⟩ = some (.slice none 0 0) := (Go.Joins.cell_of_block hb 0).trans rfl
            have fg := Go.Joins.unfrozen_of_block hb 0
            go_wp2_with (fail)
            (try dsimp only)
            obtain ⟨e8, ew⟩ : ∃ q, q = e7.setCell ⟨g, 0, none⟩ (.slice av R.length cv) := ⟨_, rfl⟩
            rw [← ew]
            have HSb : Below w16.heap.size w16 e8 := by rw [ew]; exact bl_set HS7 0 hg _
            have EW := Lib.hid ew
            clear ew
            refine ⟨HSb, ?_⟩
            refine anyH_1 11 rfl (by kernel_rfl) rfl ?_
            go_wp2_with (fail)
            (try dsimp only)
            first | (refine ⟨HSb, ?_⟩; refine wpAnyH_done (by kernel_rfl) ?_ _) | refine ⟨by kernel_rfl, ?_⟩
            exact ⟨rfl, gT, gP, g, av, cv, got_a HS6 hbu hg hoF hmsF bF EW.out, rfl⟩
        ·
          go_wp2_with (fail)
          (try dsimp only)
          have ba := bel_alloc e1 (.cells #[.slice none 0 0] 26)
          have hb := hp_new e1 (.cells #[.slice none 0 0] 26)
          have hg : w16.heap.size ≤ e1.heap.size := HS1.size
          obtain ⟨e9, ev⟩ : ∃ e9, e9 = e1.alloc (.cells #[.slice none 0 0] 26) := ⟨_, rfl⟩
          rw [← ev] at ba hb ⊢
          clear ev
          obtain ⟨g, eg⟩ : ∃ g, g = e1.heap.size := ⟨_, rfl⟩
          rw [← eg] at hb hg ⊢
          have HS9 := HS1.trans (ba.mono HS1.size)
          replace rT := rT.below ba
          clear ba eg
          refine ⟨HS9, ?_⟩
          refine anyH_1 4 rfl (by kernel_rfl) rfl ?_
          go_wp2_with (fail)
          refine (toT_any a2 len2 cap2 z2 _ (HT16.out.below HS9) hl2).mono ?_
          rintro e e10 ⟨gP, rfl, rP, bF⟩
          replace hb := hp_below hb bF
          replace rT := rT.below bF
          (try dsimp only)
          have HS10 := HS9.trans (bF.mono HS9.size)
          clear bF
          refine ⟨HS10, ?_⟩
          refine anyH_1 5 rfl (by kernel_rfl) rfl ?_
          have hbu := hb
          go_wp2_with (fail)
          refine (KI.out (some ⟨gT, 0, none⟩) (some ⟨gP, 0, none⟩) n0.length len2 _ (rT.ndsAt hmsT) (rP.rls hr2)).mono ?_
          rintro e e11 ⟨vF, msF, hmsF, rfl, hoF, bF⟩
          obtain ⟨av, cv, rfl⟩ := own_form hoF.1
          have hml : msF.length = R.length := by rw [← hmsF, List.length_map]
          rw [hml] at hoF ⊢
          (try dsimp only)
          have HS11 := HS10.trans (bF.mono HS10.size)
          refine ⟨HS11, ?_⟩
          refine wpAnyH_take (i := 6) (oi := ⟨some 98, Op.move (Operand.tmp 104), _, _, _, _⟩) (v := .tuple #[.agg #[.slice av R.length cv], .int .i64 C]) rfl (by kernel_rfl) (by kernel_rfl) (by kernel_rfl) (fun _ _ _ h => by cases h.1) (Or.inl ⟨rfl, fun W hW => by rfl⟩) HS11 ?_
          simp only [World.size_alloc, Act.put, List.setIfInBounds_toArray, List.set_cons_succ, List.set_cons_zero]
          refine wpAnyH_take (i := 7) (oi := ⟨some 105, Op.extract (Operand.tmp 98) 0, _, _, _, _⟩) (v := .agg #[.slice av R.length cv]) rfl (by kernel_rfl) (by kernel_rfl) (by kernel_rfl) (fun _ _ _ h => by cases h.1) (Or.inl ⟨rfl, fun W hW => by rfl⟩) HS11 ?_
          simp only [World.size_alloc, Act.put, List.setIfInBounds_toArray, List.set_cons_succ, List.set_cons_zero]
          refine wpAnyH_take (i := 8) (oi := ⟨some 106, Op.extract (Operand.tmp 98) 1, _, _, _, _⟩) (v := .int .i64 C) rfl (by kernel_rfl) (by kernel_rfl) (by kernel_rfl) (fun _ _ _ h => by cases h.1) (Or.inl ⟨rfl, fun W hW => by rfl⟩) HS11 ?_
          simp only [World.size_alloc, Act.put, List.setIfInBounds_toArray, List.set_cons_succ, List.set_cons_zero]
          replace hb := hp_below hbu bF
          refine anyH_1 10 rfl (by kernel_rfl) rfl ?_
          have zg : e11.cell? ⟨g, 0, none⟩ = some (.slice none 0 0) := (Go.Joins.cell_of_block hb 0).trans rfl
          have fg := Go.Joins.unfrozen_of_block hb 0
          go_wp2_with (fail)
          (try dsimp only)
          obtain ⟨e12, ew⟩ : ∃ q, q = e11.setCell ⟨g, 0, none⟩ (.slice av R.length cv) := ⟨_, rfl⟩
          rw [← ew]
          have HSb : Below w16.heap.size w16 e12 := by rw [ew]; exact bl_set HS11 0 hg _
          have EW := Lib.hid ew
          clear ew
          refine ⟨HSb, ?_⟩
          refine anyH_1 11 rfl (by kernel_rfl) rfl ?_
          go_wp2_with (fail)
          (try dsimp only)
          first | (refine ⟨HSb, ?_⟩; refine wpAnyH_done (by kernel_rfl) ?_ _) | refine ⟨by kernel_rfl, ?_⟩
          exact ⟨rfl, gT, gP, g, av, cv, got_a HS10 hbu hg hoF hmsF bF EW.out, rfl⟩
      ·
        go_wp2_with (fail)
        (try dsimp only)
        have ba := bel_alloc d (.cells #[.slice none 0 0] 26)
        have hb := hp_new d (.cells #[.slice none 0 0] 26)
        have hg : w16.heap.size ≤ d.heap.size := HS.size
        obtain ⟨e13, ev⟩ : ∃ e13, e13 = d.alloc (.cells #[.slice none 0 0] 26) := ⟨_, rfl⟩
        rw [← ev] at ba hb ⊢
        clear ev
        obtain ⟨g, eg⟩ : ∃ g, g = d.heap.size := ⟨_, rfl⟩
        rw [← eg] at hb hg ⊢
        have HS13 := HS.trans (ba.mono HS.size)
        clear ba eg
        refine ⟨HS13, ?_⟩
        refine anyH_1 1 rfl (by kernel_rfl) rfl ?_
        go_wp2_with (fail)
        refine (totr_any a0 cap0 n0 _ (HZ16.out.below HS13) hl0).mono ?_
        rintro e e14 ⟨gT, msT, hmsT, rfl, rT, bF⟩
        replace hb := hp_below hb bF
        (try dsimp only)
        have HS14 := HS13.trans (bF.mono HS13.size)
        clear bF
        refine ⟨HS14, ?_⟩
        refine anyH_1 4 rfl (by kernel_rfl) rfl ?_
        go_wp2_with (fail)
        refine (toT_any a2 len2 cap2 z2 _ (HT16.out.below HS14) hl2).mono ?_
        rintro e e15 ⟨gP, rfl, rP, bF⟩
        replace hb := hp_below hb bF
        replace rT := rT.below bF
        (try dsimp only)
        have HS15 := HS14.trans (bF.mono HS14.size)
        clear bF
        refine ⟨HS15, ?_⟩
        refine anyH_1 5 rfl (by kernel_rfl) rfl ?_
        have hbu := hb
        go_wp2_with (fail)
        refine (KI.out (some ⟨gT, 0, none⟩) (some ⟨gP, 0, none⟩) n0.length len2 _ (rT.ndsAt hmsT) (rP.rls hr2)).mono ?_
        rintro e e16 ⟨vF, msF, hmsF, rfl, hoF, bF⟩
        obtain ⟨av, cv, rfl⟩ := own_form hoF.1
        have hml : msF.length = R.length := by rw [← hmsF, List.length_map]
        rw [hml] at hoF ⊢
        (try dsimp only)
        have HS16 := HS15.trans (bF.mono HS15.size)
        refine ⟨HS16, ?_⟩
        refine wpAnyH_take (i := 6) (oi := ⟨some 98, Op.move (Operand.tmp 104), _, _, _, _⟩) (v := .tuple #[.agg #[.slice av R.length cv], .int .i64 C]) rfl (by kernel_rfl) (by kernel_rfl) (by kernel_rfl) (fun _ _ _ h => by cases h.1) (Or.inl ⟨rfl, fun W hW => by rfl⟩) HS16 ?_
        simp only [World.size_alloc, Act.put, List.setIfInBounds_toArray, List.set_cons_succ, List.set_cons_zero]
        refine wpAnyH_take (i := 7) (oi := ⟨some 105, Op.extract (Operand.tmp 98) 0, _, _, _, _⟩) (v := .agg #[.slice av R.length cv]) rfl (by kernel_rfl) (by kernel_rfl) (by kernel_rfl) (fun _ _ _ h => by cases h.1) (Or.inl ⟨rfl, fun W hW => by rfl⟩) HS16 ?_
        simp only [World.size_alloc, Act.put, List.setIfInBounds_toArray, List.set_cons_succ, List.set_cons_zero]
        refine wpAnyH_take (i := 8) (oi := ⟨some 106, Op.extract (Operand.tmp 98) 1, _, _, _, _⟩) (v := .int .i64 C) rfl (by kernel_rfl) (by kernel_rfl) (by kernel_rfl) (fun _ _ _ h => by cases h.1) (Or.inl ⟨rfl, fun W hW => by rfl⟩) HS16 ?_
        simp only [World.size_alloc, Act.put, List.setIfInBounds_toArray, List.set_cons_succ, List.set_cons_zero]
        replace hb := hp_below hbu bF
        refine anyH_1 10 rfl (by kernel_rfl) rfl ?_
        have zg : e16.cell? ⟨g, 0, none⟩ = some (.slice none 0 0) := (Go.Joins.cell_of_block hb 0).trans rfl
        have fg := Go.Joins.unfrozen_of_block hb 0
        go_wp2_with (fail)
        (try dsimp only)
        obtain ⟨e17, ew⟩ : ∃ q, q = e16.setCell ⟨g, 0, none⟩ (.slice av R.length cv) := ⟨_, rfl⟩
        rw [← ew]
        have HSb : Below w16.heap.size w16 e17 := by rw [ew]; exact bl_set HS16 0 hg _
        have EW := Lib.hid ew
        clear ew
        refine ⟨HSb, ?_⟩
        refine anyH_1 11 rfl (by kernel_rfl) rfl ?_
        go_wp2_with (fail)
        (try dsimp only)
        first | (refine ⟨HSb, ?_⟩; refine wpAnyH_done (by kernel_rfl) ?_ _) | refine ⟨by kernel_rfl, ?_⟩
        exact ⟨rfl, gT, gP, g, av, cv, got_a HS15 hbu hg hoF hmsF bF EW.out, rfl⟩
    case sC =>
      intro _ _ gH avH cvH w17 hG
      obtain ⟨b17, HH, -, msH, loH, hiH, hmsH, hoH, -, -, -, -⟩ := hG
      replace B5 := B5.trans (b17.mono B5.size)
      replace HG := hp_below HG b17
      replace OM := Lib.hid (OM.out.below b17)
      have NH := Lib.hid (hoH.ndsR hmsH)
      clear b17 hoH hmsH
      have cH := c_of HH
      have cW := c_of (hp_below HW B5)
      go_wp2_with (fail)
      clear cH cW HH
      refine (eqtr_any avH avW cvH cvW R _ NH.out (NW.out.below B5) (by omega)).mono ?_
      rintro e w18 ⟨rfl, b18⟩
      replace B5 := B5.trans (b18.mono B5.size)
      replace HG := hp_below HG b18
      replace OM := Lib.hid (OM.out.below b18)
      clear b18 NH
      have cG := c_of HG
      (try dsimp only)
      go_wp2_with (fail)
      clear cG
      refine (HE.out _ OM.out HSZ.out (by decide)).mono ?_
      rintro e w19 ⟨rfl, b19⟩
      replace B5 := B5.trans (b19.mono B5.size)
      replace B := B.trans (B5.mono B.size)
      clear b19
      (try dsimp only)
      go_wp2_with (fail)
      go_ret
      exact ⟨rfl, B⟩
theorem walk (a0 : Option Addr) (cap0 : Nat) (n0 : List PN) (a1 : Int) (u1 : -9223372036854775808 ≤ a1) (v1 : a1 ≤ 9223372036854775807) (a2 : Option Addr) (len2 cap2 : Nat) (z2 : List Int) (w : World) (hz0 : Nds w a0 n0) (hm0 : n0.length ≤ 9223372036854775807) (hf0 : ∀ n ∈ n0, n.fit) (hz2 : Rls w a2 len2 z2) (hm2 : len2 ≤ 9223372036854775807) :
    Calls Try.prog 9 #[.agg #[.slice a0 n0.length cap0], .int .i64 a1, .agg #[.slice a2 len2 cap2]] w fun e w' => e = .returned (.bool true) ∧ Below w.heap.size w w' := by
  by_cases h : szS n0 + len2 ≤ 1048576
  · exact walk_small a0 cap0 n0 a1 u1 v1 a2 len2 cap2 z2 w hz0 hm0 hf0 hz2 hm2 h
  · by_cases h2 : szS n0 ≤ 1048576
    · exact walk_big2 a0 cap0 n0 a1 u1 v1 a2 len2 cap2 z2 w hz0 hm0 hf0 hz2 hm2 h2 (by omega)
    · exact walk_big a0 cap0 n0 a1 u1 v1 a2 len2 cap2 z2 w hz0 hm0 hf0 hz2 hm2 (by omega)

theorem laidOut : laidOutB Try.prog = true := by kernel_rfl

set_option maxRecDepth 100000 in
theorem lifted (os : Os) (started : os.Started) (H : Type) (enc : TypeId × Value → H) :
    ReturnsInHanded {} Try.checked os 9 .any (Rows.fnExactSetTableSpec.pre6 enc Try.prog Try.f9 Rows.fnExactSetTableRow.domain false) (Rows.fnExactSetTableSpec.post enc Try.prog Try.f9 false true false false) := by
  refine returnsInHanded_of_change (C := Try.checked) own started (by kernel_rfl) Try.func9
    (ChangeSpec.witness6 (enc := enc) (C := Try.checked) false ⟨#[], #[.agg #[.slice none 0 0], .int .i64 0, .agg #[.slice none 0 0]], []⟩ 8 (by kernel_rfl) (by kernel_rfl) (by kernel_rfl) (by kernel_rfl)) ?_
  intro W base args ds gs before hval0 hW hcnd _
  have hval : ∀ (j : Nat) t v, Try.f9.params[j]? = some t → args[j]? = some v → Value.okWide Try.prog W .any base t v := hval0
  have hW' := hW
  obtain ⟨p, q, hA0, hV, rfl, hfz, hnd⟩ := hW
  have hA : DataW.TrodAll enc Try.prog W 0 (fun _ => true) true Try.f9.params.toList args.toList ds p := hA0
  rw [Try.params9] at hA hval
  obtain ⟨v0, vs0, d0, ds0, p0, q0, hargs, rfl, rfl, h0, r0⟩ := trodAll_cons hA
  obtain ⟨v1, vs1, d1, ds1, p1, q1, rfl, rfl, rfl, h1, r1⟩ := trodAll_cons r0
  obtain ⟨v2, vs2, d2, ds2, p2, q2, rfl, rfl, rfl, h2, r2⟩ := trodAll_cons r1
  obtain ⟨rfl, rfl, rfl⟩ := trodAll_nil r2
  obtain rfl : args = #[v0, v1, v2] := by cases args; simp_all
  obtain ⟨rfl, rfl⟩ := trodVars_none hV
  have k0 := h0
  have lt0 : ∀ x ∈ p0, x.block < W.heap.size := by obtain ⟨m, hm⟩ := k0; exact DataW.trod_lt m _ _ _ hm
  obtain ⟨a0, cap0, n0, rfl, hz0, hm0, hf0⟩ := tree_of (hval 0 64 v0 rfl rfl) h0
  have k1 := h1
  have lt1 : ∀ x ∈ p1, x.block < W.heap.size := by obtain ⟨m, hm⟩ := k1; exact DataW.trod_lt m _ _ _ hm
  obtain ⟨a1, rfl, rfl, rfl, w1⟩ := open_int Try.underlying3 (hval 1 3 v1 rfl rfl) h1
  have b1 := bounds_i64 w1
  have k2 := h2
  have lt2 : ∀ x ∈ p2, x.block < W.heap.size := by obtain ⟨m, hm⟩ := k2; exact DataW.trod_lt m _ _ _ hm
  obtain ⟨a2, len2, cap2, z2, rfl, hz2, hm2⟩ := tab_of (hval 2 80 v2 rfl rfl) h2
  clear hA0 hval0
  refine (walk a0 cap0 n0 a1 b1.1 b1.2 a2 len2 cap2 z2 W hz0 hm0 hf0 hz2 hm2).mono fun e W' ⟨he, bel⟩ => ?_
  subst he
  exact ⟨_, rfl, law_post (pa := _) (pv := []) hW' (trodAll_cons_mk (shut_bool Try.underlying4 _) trodAll_mk0) (trodAll_cons_mk (Below.trod laidOut (by kernel_rfl) (of_decide_eq_true (by kernel_rfl)) k0 bel lt0) (trodAll_cons_mk (Below.trod laidOut (by kernel_rfl) (of_decide_eq_true (by kernel_rfl)) k1 bel lt1) (trodAll_cons_mk (Below.trod laidOut (by kernel_rfl) (of_decide_eq_true (by kernel_rfl)) k2 bel lt2) trodAll_mk0))) rfl rfl bel⟩

/-- The given statement. -/
theorem proved : Rows.FnExactSetTableSaid :=
  OpenClaim.holds_of_wide 9 Try.f9 rfl rfl rfl rfl rfl rfl rfl ⟨rfl, rfl, rfl, rfl, rfl⟩ rfl rfl rfl rfl rfl (by kernel_rfl) Try.func9 (by kernel_rfl)
    (of_decide_eq_true (by kernel_rfl)) (by unfold Func.isWrapper; first | (rw [if_pos (by decide +kernel)]; kernel_rfl) | (rw [if_neg (by decide +kernel)]; exact ⟨rfl, rfl⟩))
    (fun os started H enc _ => lifted os started H enc)
#print axioms proved
end Go.Proofs.Ytbfhipfflomokaa.fnExactSetTable

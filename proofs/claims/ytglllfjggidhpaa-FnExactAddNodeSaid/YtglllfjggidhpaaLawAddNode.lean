/-
  For every input, laws.FnExactAddNode returns true: the program answers as the document's model, writes into no argument, and its answer owns its memory; the arguments read as before. Conditions: none.
-/
import Derived.Test.YtglllfjggidhpaaAdN
import Derived.Test.YtglllfjggidhpaaLwP
import Derived.Test.YtglllfjggidhpaaToS
namespace Go.Proofs.Ytglllfjggidhpaa.fnExactAddNode
open Go.ChangeShapes Go.WideShapes Go.ChangeAt Go.RowKit
set_option linter.unusedVariables false
set_option linter.unusedSimpArgs false
set_option maxRecDepth 8000

theorem adN_sz (ns : List PN) (f : Nat → Int) (h : szS ns ≤ 1048576) : szS (adN ns f) ≤ 2097152 := by
  unfold adN
  split
  · unfold szS szL at *
    rw [List.length_append, List.map_append, List.sum_append]
    simp [newN, szK]
    omega
  · omega

theorem walk_big (a0 : Option Addr) (cap0 : Nat) (n0 : List PN)  (ra : Nat → Int) (rra : InR ra) (bra : ∀ i, i = 6 ∨ i = 7 → ra i = 0 ∨ ra i = 1) (w : World) (hz0 : Nds w a0 n0) (hm0 : n0.length ≤ 9223372036854775807) (hf0 : ∀ n ∈ n0, n.fit) (hl0 : 1048576 < szS n0) :
    Calls Try.prog 3 #[.agg #[.slice a0 n0.length cap0], .agg (sCells ra)] w fun e w' => e = .returned (.bool true) ∧ Below w.heap.size w w' := by
  have H0 := hp_on (hp_new w (.cells #[.slice a0 n0.length cap0] 24)) (.cells (sCells ra) 32)
  have H5 := hp_new (w.alloc (.cells #[.slice a0 n0.length cap0] 24)) (.cells (sCells ra) 32)
  simp only [World.size_alloc] at H5
  have B : Below w.heap.size w ((w.alloc (.cells #[.slice a0 n0.length cap0] 24)).alloc (.cells (sCells ra) 32)) := (bel_alloc w _).trans ((bel_alloc _ _).mono (bel_alloc w _).size)
  obtain ⟨u, eu⟩ : ∃ u, u = (w.alloc (.cells #[.slice a0 n0.length cap0] 24)).alloc (.cells (sCells ra) 32) := ⟨_, rfl⟩
  rw [← eu] at B H0 H5
  have EU := Lib.hid eu
  clear eu
  have c0 : u.cell? ⟨w.heap.size, 0, none⟩ = some (.slice a0 n0.length cap0) := (Go.Joins.cell_of_block H0 0).trans rfl
  go_enter Try.func3, Try.ntmps3
  (try dsimp only)
  go_wp2_with (rw [← EU.out])
  clear c0
  refine (sztr_any a0 cap0 n0 1048576 _ (hz0.below B) (by omega) (by omega) hm0 hf0).mono ?_
  rintro e w1 ⟨rfl, b1⟩
  replace B := B.trans (b1.mono B.size)
  clear b1 H0 H5
  rw [sz_no (by omega)]
  (try dsimp only)
  go_wp2_with (fail)
  go_ret
  exact ⟨rfl, B⟩
set_option maxHeartbeats 8000000 in
theorem walk_small (a0 : Option Addr) (cap0 : Nat) (n0 : List PN)  (ra : Nat → Int) (rra : InR ra) (bra : ∀ i, i = 6 ∨ i = 7 → ra i = 0 ∨ ra i = 1) (w : World) (hz0 : Nds w a0 n0) (hm0 : n0.length ≤ 9223372036854775807) (hf0 : ∀ n ∈ n0, n.fit) (hl0 : szS n0 ≤ 1048576) :
    Calls Try.prog 3 #[.agg #[.slice a0 n0.length cap0], .agg (sCells ra)] w fun e w' => e = .returned (.bool true) ∧ Below w.heap.size w w' := by
  have hnl : n0.length ≤ 1048576 := by unfold szS at hl0; omega
  have HZ0 := Lib.hid hz0
  have HF0 := Lib.hid hf0
  clear hz0 hf0
  have KS := Lib.hid (fun (a : Option Addr) (cap : Nat) (w' : World) (h : Nds w' a n0) => saddnode a cap n0  ra w' h hl0 rra )
  have KI := Lib.hid (fun (a : Option Addr) (cap : Nat) (w' : World) (h : Nds w' a n0) => iaddnode a cap n0  ra w' h hl0 rra )
  have hsR : szS (adN n0 ra) ≤ 2097152 := adN_sz n0 ra hl0
  obtain ⟨R, eR⟩ : ∃ R, R = adN n0 ra := ⟨_, rfl⟩
  obtain ⟨C, eC⟩ : ∃ C, C = adC n0 ra := ⟨_, rfl⟩
  rw [← eR, ← eC] at KS KI
  rw [← eR] at hsR
  clear eR eC
  have H0 := hp_on (hp_new w (.cells #[.slice a0 n0.length cap0] 24)) (.cells (sCells ra) 32)
  have H5 := hp_new (w.alloc (.cells #[.slice a0 n0.length cap0] 24)) (.cells (sCells ra) 32)
  simp only [World.size_alloc] at H5
  have B : Below w.heap.size w ((w.alloc (.cells #[.slice a0 n0.length cap0] 24)).alloc (.cells (sCells ra) 32)) := (bel_alloc w _).trans ((bel_alloc _ _).mono (bel_alloc w _).size)
  obtain ⟨u, eu⟩ : ∃ u, u = (w.alloc (.cells #[.slice a0 n0.length cap0] 24)).alloc (.cells (sCells ra) 32) := ⟨_, rfl⟩
  rw [← eu] at B H0 H5
  have EU := Lib.hid eu
  clear eu
  have c0 : u.cell? ⟨w.heap.size, 0, none⟩ = some (.slice a0 n0.length cap0) := (Go.Joins.cell_of_block H0 0).trans rfl
  go_enter Try.func3, Try.ntmps3
  (try dsimp only)
  go_wp2_with (rw [← EU.out])
  refine (sztr_any a0 cap0 n0 1048576 _ (HZ0.out.below B) (by omega) (by omega) hm0 HF0.out).mono ?_
  rintro e w1 ⟨rfl, b1⟩
  replace H0 := hp_below H0 b1
  replace H5 := hp_below H5 b1
  replace B := B.trans (b1.mono B.size)
  clear b1 c0
  rw [sz_of (by omega)]
  have hleft : (0 : Int) ≤ 1048576 - (szS n0 : Int) := by omega
  generalize (1048576 : Int) - (szS n0 : Int) = lft at *
  have HZ1 := Lib.hid (HZ0.out.below B)
  have h0l := hp_lt H0
  have h5l := hp_lt H5
  (try dsimp only)
  go_wp2_with (fail)
  refine reg_key (fun (gT : Nat) (g : Nat) (av : Option Addr) (cv : Nat) w' => GotT w1 R g av cv w') ?_
  apply Exists.intro
  refine ⟨?pA, ?sA⟩
  case pA =>
    refine wp_region_held_drew (S := fun w' => Below w1.heap.size w1 w') (by kernel_rfl) (Below.refl w1.heap.size w1).drew (fun HS => ?_)
    obtain ⟨d, ed⟩ : ∃ d, d = w1.drew := ⟨_, rfl⟩
    rw [← ed] at HS ⊢
    clear ed
    refine wpAnyH_take (i := 0) (oi := ⟨some 22, Op.load 24 (Operand.tmp 2), _, _, _, _⟩) (v := .agg #[.slice a0 n0.length cap0]) rfl (by kernel_rfl) (by kernel_rfl) (by kernel_rfl) (fun _ _ _ h => by cases h.1) (yields_row rfl rfl rfl lw_tree (lw_tree1 _) (fun w' hw' => hp_below H0 hw')) HS ?_
    simp only [World.size_alloc, Act.put, List.setIfInBounds_toArray, List.set_cons_succ, List.set_cons_zero]
    refine wpAnyH_take (i := 2) (oi := ⟨some 24, Op.load 32 (Operand.tmp 3), _, _, _, _⟩) (v := .agg (sCells ra)) rfl (by kernel_rfl) (by kernel_rfl) (by kernel_rfl) (fun _ _ _ h => by cases h.1) (yields_row rfl rfl rfl lsty_under (lsty_size ra) (fun w' hw' => hp_below H5 hw')) HS ?_
    simp only [World.size_alloc, Act.put, List.setIfInBounds_toArray, List.set_cons_succ, List.set_cons_zero]
    refine anyH_2 1 8 rfl rfl (by kernel_rfl) rfl rfl ?_ ?_
    ·
      go_wp2_with (fail)
      refine (totr_any a0 cap0 n0 _ (HZ1.out.below HS) hl0).mono ?_
      rintro e e1 ⟨gT, msT, hmsT, rfl, rT, bF⟩
      (try dsimp only)
      have HS1 := HS.trans (bF.mono HS.size)
      clear bF
      refine ⟨HS1, ?_⟩
      refine anyH_2 3 8 rfl rfl (by kernel_rfl) rfl rfl ?_ ?_
      ·
        go_wp2_with (fail)
        refine (toSty ra _).mono ?_
        rintro e e2 ⟨rfl, bF⟩
        replace rT := rT.below bF
        (try dsimp only)
        have HS2 := HS1.trans (bF.mono HS1.size)
        clear bF
        refine ⟨HS2, ?_⟩
        refine anyH_2 4 8 rfl rfl (by kernel_rfl) rfl rfl ?_ ?_
        ·
          go_wp2_with (fail)
          refine (KS.out (some ⟨gT, 0, none⟩) n0.length _ (rT.ndsAt hmsT)).mono ?_
          rintro e e3 ⟨vF, msF, hmsF, rfl, hoF, bF⟩
          obtain ⟨av, cv, rfl⟩ := own_form hoF.1
          have hml : msF.length = R.length := by rw [← hmsF, List.length_map]
          rw [hml] at hoF ⊢
          (try dsimp only)
          have HS3 := HS2.trans (bF.mono HS2.size)
          refine ⟨HS3, ?_⟩
          refine wpAnyH_take (i := 5) (oi := ⟨some 21, Op.move (Operand.tmp 26), _, _, _, _⟩) (v := .tuple #[.agg #[.slice av R.length cv], .int .i64 C]) rfl (by kernel_rfl) (by kernel_rfl) (by kernel_rfl) (fun _ _ _ h => by cases h.1) (Or.inl ⟨rfl, fun W hW => by rfl⟩) HS3 ?_
          simp only [World.size_alloc, Act.put, List.setIfInBounds_toArray, List.set_cons_succ, List.set_cons_zero]
          refine wpAnyH_take (i := 6) (oi := ⟨some 27, Op.extract (Operand.tmp 21) 0, _, _, _, _⟩) (v := .agg #[.slice av R.length cv]) rfl (by kernel_rfl) (by kernel_rfl) (by kernel_rfl) (fun _ _ _ h => by cases h.1) (Or.inl ⟨rfl, fun W hW => by rfl⟩) HS3 ?_
          simp only [World.size_alloc, Act.put, List.setIfInBounds_toArray, List.set_cons_succ, List.set_cons_zero]
          refine wpAnyH_take (i := 7) (oi := ⟨some 28, Op.extract (Operand.tmp 21) 1, _, _, _, _⟩) (v := .int .i64 C) rfl (by kernel_rfl) (by kernel_rfl) (by kernel_rfl) (fun _ _ _ h => by cases h.1) (Or.inl ⟨rfl, fun W hW => by rfl⟩) HS3 ?_
          simp only [World.size_alloc, Act.put, List.setIfInBounds_toArray, List.set_cons_succ, List.set_cons_zero]
          refine anyH_1 8 rfl (by kernel_rfl) rfl ?_
          go_wp2_with (fail)
          (try dsimp only)
          have ba := bel_alloc e3 (.cells #[.slice none 0 0] 36)
          have hb := hp_new e3 (.cells #[.slice none 0 0] 36)
          obtain ⟨e4, ev⟩ : ∃ e4, e4 = e3.alloc (.cells #[.slice none 0 0] 36) := ⟨_, rfl⟩
          rw [← ev] at ba hb ⊢
          obtain ⟨g, eg⟩ : ∃ g, g = e3.heap.size := ⟨_, rfl⟩
          rw [← eg] at hb ⊢
          have HSa := HS3.trans (ba.mono HS3.size)
          refine ⟨HSa, ?_⟩
          have hg : w1.heap.size ≤ g := by rw [eg]; exact HS3.size
          have EG := Lib.hid eg
          have EV := Lib.hid ev
          clear eg ev ba
          refine anyH_1 9 rfl (by kernel_rfl) rfl ?_
          have zg : e4.cell? ⟨g, 0, none⟩ = some (.slice none 0 0) := (Go.Joins.cell_of_block hb 0).trans rfl
          have fg := Go.Joins.unfrozen_of_block hb 0
          go_wp2_with (fail)
          (try dsimp only)
          obtain ⟨e5, ew⟩ : ∃ q, q = e4.setCell ⟨g, 0, none⟩ (.slice av R.length cv) := ⟨_, rfl⟩
          rw [← ew]
          have HSb : Below w1.heap.size w1 e5 := by rw [ew]; exact bl_set HSa 0 hg _
          have EW := Lib.hid ew
          clear ew
          refine ⟨HSb, ?_⟩
          refine anyH_1 10 rfl (by kernel_rfl) rfl ?_
          go_wp2_with (fail)
          (try dsimp only)
          first | (refine ⟨HSb, ?_⟩; refine wpAnyH_done (by kernel_rfl) ?_ _) | refine ⟨by kernel_rfl, ?_⟩
          exact ⟨rfl, gT, g, av, cv, got_b HS2 hoF hmsF bF EG.out EV.out EW.out, rfl⟩
        ·
          go_wp2_with (fail)
          (try dsimp only)
          have ba := bel_alloc e2 (.cells #[.slice none 0 0] 36)
          have hb := hp_new e2 (.cells #[.slice none 0 0] 36)
          have hg : w1.heap.size ≤ e2.heap.size := HS2.size
          obtain ⟨e6, ev⟩ : ∃ e6, e6 = e2.alloc (.cells #[.slice none 0 0] 36) := ⟨_, rfl⟩
          rw [← ev] at ba hb ⊢
          clear ev
          obtain ⟨g, eg⟩ : ∃ g, g = e2.heap.size := ⟨_, rfl⟩
          rw [← eg] at hb hg ⊢
          have HS6 := HS2.trans (ba.mono HS2.size)
          replace rT := rT.below ba
          clear ba eg
          refine ⟨HS6, ?_⟩
          refine anyH_1 4 rfl (by kernel_rfl) rfl ?_
          have hbu := hb
          go_wp2_with (fail)
          refine (KS.out (some ⟨gT, 0, none⟩) n0.length _ (rT.ndsAt hmsT)).mono ?_
          rintro e e7 ⟨vF, msF, hmsF, rfl, hoF, bF⟩
          obtain ⟨av, cv, rfl⟩ := own_form hoF.1
          have hml : msF.length = R.length := by rw [← hmsF, List.length_map]
          rw [hml] at hoF ⊢
          (try dsimp only)
          have HS7 := HS6.trans (bF.mono HS6.size)
          refine ⟨HS7, ?_⟩
          refine wpAnyH_take (i := 5) (oi := ⟨some 21, Op.move (Operand.tmp 26), _, _, _, _⟩) (v := .tuple #[.agg #[.slice av R.length cv], .int .i64 C]) rfl (by kernel_rfl) (by kernel_rfl) (by kernel_rfl) (fun _ _ _ h => by cases h.1) (Or.inl ⟨rfl, fun W hW => by rfl⟩) HS7 ?_
          simp only [World.size_alloc, Act.put, List.setIfInBounds_toArray, List.set_cons_succ, List.set_cons_zero]
          refine wpAnyH_take (i := 6) (oi := ⟨some 27, Op.extract (Operand.tmp 21) 0, _, _, _, _⟩) (v := .agg #[.slice av R.length cv]) rfl (by kernel_rfl) (by kernel_rfl) (by kernel_rfl) (fun _ _ _ h => by cases h.1) (Or.inl ⟨rfl, fun W hW => by rfl⟩) HS7 ?_
          simp only [World.size_alloc, Act.put, List.setIfInBounds_toArray, List.set_cons_succ, List.set_cons_zero]
          refine wpAnyH_take (i := 7) (oi := ⟨some 28, Op.extract (Operand.tmp 21) 1, _, _, _, _⟩) (v := .int .i64 C) rfl (by kernel_rfl) (by kernel_rfl) (by kernel_rfl) (fun _ _ _ h => by cases h.1) (Or.inl ⟨rfl, fun W hW => by rfl⟩) HS7 ?_
          simp only [World.size_alloc, Act.put, List.setIfInBounds_toArray, List.set_cons_succ, List.set_cons_zero]
          replace hb := hp_below hbu bF
          refine anyH_1 9 rfl (by kernel_rfl) rfl ?_
          have zg : e7.cell? ⟨g, 0, none⟩ = some (.slice none 0 0) := (Go.Joins.cell_of_block hb 0).trans rfl
          have fg := Go.Joins.unfrozen_of_block hb 0
          go_wp2_with (fail)
          (try dsimp only)
          obtain ⟨e8, ew⟩ : ∃ q, q = e7.setCell ⟨g, 0, none⟩ (.slice av R.length cv) := ⟨_, rfl⟩
          rw [← ew]
          have HSb : Below w1.heap.size w1 e8 := by rw [ew]; exact bl_set HS7 0 hg _
          have EW := Lib.hid ew
          clear ew
          refine ⟨HSb, ?_⟩
          refine anyH_1 10 rfl (by kernel_rfl) rfl ?_
          go_wp2_with (fail)
          (try dsimp only)
          first | (refine ⟨HSb, ?_⟩; refine wpAnyH_done (by kernel_rfl) ?_ _) | refine ⟨by kernel_rfl, ?_⟩
          exact ⟨rfl, gT, g, av, cv, got_a HS6 hbu hg hoF hmsF bF EW.out, rfl⟩
      ·
        go_wp2_with (fail)
        (try dsimp only)
        have ba := bel_alloc e1 (.cells #[.slice none 0 0] 36)
        have hb := hp_new e1 (.cells #[.slice none 0 0] 36)
        have hg : w1.heap.size ≤ e1.heap.size := HS1.size
        obtain ⟨e9, ev⟩ : ∃ e9, e9 = e1.alloc (.cells #[.slice none 0 0] 36) := ⟨_, rfl⟩
        rw [← ev] at ba hb ⊢
        clear ev
        obtain ⟨g, eg⟩ : ∃ g, g = e1.heap.size := ⟨_, rfl⟩
        rw [← eg] at hb hg ⊢
        have HS9 := HS1.trans (ba.mono HS1.size)
        replace rT := rT.below ba
        clear ba eg
        refine ⟨HS9, ?_⟩
        refine anyH_1 3 rfl (by kernel_rfl) rfl ?_
        go_wp2_with (fail)
        refine (toSty ra _).mono ?_
        rintro e e10 ⟨rfl, bF⟩
        replace hb := hp_below hb bF
        replace rT := rT.below bF
        (try dsimp only)
        have HS10 := HS9.trans (bF.mono HS9.size)
        clear bF
        refine ⟨HS10, ?_⟩
        refine anyH_1 4 rfl (by kernel_rfl) rfl ?_
        have hbu := hb
        go_wp2_with (fail)
        refine (KS.out (some ⟨gT, 0, none⟩) n0.length _ (rT.ndsAt hmsT)).mono ?_
        rintro e e11 ⟨vF, msF, hmsF, rfl, hoF, bF⟩
        obtain ⟨av, cv, rfl⟩ := own_form hoF.1
        have hml : msF.length = R.length := by rw [← hmsF, List.length_map]
        rw [hml] at hoF ⊢
        (try dsimp only)
        have HS11 := HS10.trans (bF.mono HS10.size)
        refine ⟨HS11, ?_⟩
        refine wpAnyH_take (i := 5) (oi := ⟨some 21, Op.move (Operand.tmp 26), _, _, _, _⟩) (v := .tuple #[.agg #[.slice av R.length cv], .int .i64 C]) rfl (by kernel_rfl) (by kernel_rfl) (by kernel_rfl) (fun _ _ _ h => by cases h.1) (Or.inl ⟨rfl, fun W hW => by rfl⟩) HS11 ?_
        simp only [World.size_alloc, Act.put, List.setIfInBounds_toArray, List.set_cons_succ, List.set_cons_zero]
        refine wpAnyH_take (i := 6) (oi := ⟨some 27, Op.extract (Operand.tmp 21) 0, _, _, _, _⟩) (v := .agg #[.slice av R.length cv]) rfl (by kernel_rfl) (by kernel_rfl) (by kernel_rfl) (fun _ _ _ h => by cases h.1) (Or.inl ⟨rfl, fun W hW => by rfl⟩) HS11 ?_
        simp only [World.size_alloc, Act.put, List.setIfInBounds_toArray, List.set_cons_succ, List.set_cons_zero]
        refine wpAnyH_take (i := 7) (oi := ⟨some 28, Op.extract (Operand.tmp 21) 1, _, _, _, _⟩) (v := .int .i64 C) rfl (by kernel_rfl) (by kernel_rfl) (by kernel_rfl) (fun _ _ _ h => by cases h.1) (Or.inl ⟨rfl, fun W hW => by rfl⟩) HS11 ?_
        simp only [World.size_alloc, Act.put, List.setIfInBounds_toArray, List.set_cons_succ, List.set_cons_zero]
        replace hb := hp_below hbu bF
        refine anyH_1 9 rfl (by kernel_rfl) rfl ?_
        have zg : e11.cell? ⟨g, 0, none⟩ = some (.slice none 0 0) := (Go.Joins.cell_of_block hb 0).trans rfl
        have fg := Go.Joins.unfrozen_of_block hb 0
        go_wp2_with (fail)
        (try dsimp only)
        obtain ⟨e12, ew⟩ : ∃ q, q = e11.setCell ⟨g, 0, none⟩ (.slice av R.length cv) := ⟨_, rfl⟩
        rw [← ew]
        have HSb : Below w1.heap.size w1 e12 := by rw [ew]; exact bl_set HS11 0 hg _
        have EW := Lib.hid ew
        clear ew
        refine ⟨HSb, ?_⟩
        refine anyH_1 10 rfl (by kernel_rfl) rfl ?_
        go_wp2_with (fail)
        (try dsimp only)
        first | (refine ⟨HSb, ?_⟩; refine wpAnyH_done (by kernel_rfl) ?_ _) | refine ⟨by kernel_rfl, ?_⟩
        exact ⟨rfl, gT, g, av, cv, got_a HS10 hbu hg hoF hmsF bF EW.out, rfl⟩
    ·
      go_wp2_with (fail)
      (try dsimp only)
      have ba := bel_alloc d (.cells #[.slice none 0 0] 36)
      have hb := hp_new d (.cells #[.slice none 0 0] 36)
      have hg : w1.heap.size ≤ d.heap.size := HS.size
      obtain ⟨e13, ev⟩ : ∃ e13, e13 = d.alloc (.cells #[.slice none 0 0] 36) := ⟨_, rfl⟩
      rw [← ev] at ba hb ⊢
      clear ev
      obtain ⟨g, eg⟩ : ∃ g, g = d.heap.size := ⟨_, rfl⟩
      rw [← eg] at hb hg ⊢
      have HS13 := HS.trans (ba.mono HS.size)
      clear ba eg
      refine ⟨HS13, ?_⟩
      refine anyH_1 1 rfl (by kernel_rfl) rfl ?_
      go_wp2_with (fail)
      refine (totr_any a0 cap0 n0 _ (HZ1.out.below HS13) hl0).mono ?_
      rintro e e14 ⟨gT, msT, hmsT, rfl, rT, bF⟩
      replace hb := hp_below hb bF
      (try dsimp only)
      have HS14 := HS13.trans (bF.mono HS13.size)
      clear bF
      refine ⟨HS14, ?_⟩
      refine anyH_1 3 rfl (by kernel_rfl) rfl ?_
      go_wp2_with (fail)
      refine (toSty ra _).mono ?_
      rintro e e15 ⟨rfl, bF⟩
      replace hb := hp_below hb bF
      replace rT := rT.below bF
      (try dsimp only)
      have HS15 := HS14.trans (bF.mono HS14.size)
      clear bF
      refine ⟨HS15, ?_⟩
      refine anyH_1 4 rfl (by kernel_rfl) rfl ?_
      have hbu := hb
      go_wp2_with (fail)
      refine (KS.out (some ⟨gT, 0, none⟩) n0.length _ (rT.ndsAt hmsT)).mono ?_
      rintro e e16 ⟨vF, msF, hmsF, rfl, hoF, bF⟩
      obtain ⟨av, cv, rfl⟩ := own_form hoF.1
      have hml : msF.length = R.length := by rw [← hmsF, List.length_map]
      rw [hml] at hoF ⊢
      (try dsimp only)
      have HS16 := HS15.trans (bF.mono HS15.size)
      refine ⟨HS16, ?_⟩
      refine wpAnyH_take (i := 5) (oi := ⟨some 21, Op.move (Operand.tmp 26), _, _, _, _⟩) (v := .tuple #[.agg #[.slice av R.length cv], .int .i64 C]) rfl (by kernel_rfl) (by kernel_rfl) (by kernel_rfl) (fun _ _ _ h => by cases h.1) (Or.inl ⟨rfl, fun W hW => by rfl⟩) HS16 ?_
      simp only [World.size_alloc, Act.put, List.setIfInBounds_toArray, List.set_cons_succ, List.set_cons_zero]
      refine wpAnyH_take (i := 6) (oi := ⟨some 27, Op.extract (Operand.tmp 21) 0, _, _, _, _⟩) (v := .agg #[.slice av R.length cv]) rfl (by kernel_rfl) (by kernel_rfl) (by kernel_rfl) (fun _ _ _ h => by cases h.1) (Or.inl ⟨rfl, fun W hW => by rfl⟩) HS16 ?_
      simp only [World.size_alloc, Act.put, List.setIfInBounds_toArray, List.set_cons_succ, List.set_cons_zero]
      refine wpAnyH_take (i := 7) (oi := ⟨some 28, Op.extract (Operand.tmp 21) 1, _, _, _, _⟩) (v := .int .i64 C) rfl (by kernel_rfl) (by kernel_rfl) (by kernel_rfl) (fun _ _ _ h => by cases h.1) (Or.inl ⟨rfl, fun W hW => by rfl⟩) HS16 ?_
      simp only [World.size_alloc, Act.put, List.setIfInBounds_toArray, List.set_cons_succ, List.set_cons_zero]
      replace hb := hp_below hbu bF
      refine anyH_1 9 rfl (by kernel_rfl) rfl ?_
      have zg : e16.cell? ⟨g, 0, none⟩ = some (.slice none 0 0) := (Go.Joins.cell_of_block hb 0).trans rfl
      have fg := Go.Joins.unfrozen_of_block hb 0
      go_wp2_with (fail)
      (try dsimp only)
      obtain ⟨e17, ew⟩ : ∃ q, q = e16.setCell ⟨g, 0, none⟩ (.slice av R.length cv) := ⟨_, rfl⟩
      rw [← ew]
      have HSb : Below w1.heap.size w1 e17 := by rw [ew]; exact bl_set HS16 0 hg _
      have EW := Lib.hid ew
      clear ew
      refine ⟨HSb, ?_⟩
      refine anyH_1 10 rfl (by kernel_rfl) rfl ?_
      go_wp2_with (fail)
      (try dsimp only)
      first | (refine ⟨HSb, ?_⟩; refine wpAnyH_done (by kernel_rfl) ?_ _) | refine ⟨by kernel_rfl, ?_⟩
      exact ⟨rfl, gT, g, av, cv, got_a HS15 hbu hg hoF hmsF bF EW.out, rfl⟩
  case sA =>
    intro gT gW avW cvW w5 hG
    obtain ⟨bA, HW, hgW, msW, loW, hiW, hmsW, hoW, -, -, -, -⟩ := hG
    replace H0 := hp_below H0 bA
    replace H5 := hp_below H5 bA
    replace B := B.trans (bA.mono B.size)
    have NW := Lib.hid (hoW.ndsR hmsW)
    have HZ5 := Lib.hid (HZ1.out.below bA)
    clear bA hoW hmsW HZ1 h0l h5l
    have l0 := hp_lt H0
    have l5 := hp_lt H5
    have lW := hp_lt HW
    have c0 := c_of H0
    go_wp2_with (fail)
    clear c0
    refine (totr_any a0 cap0 n0 _ HZ5.out hl0).mono ?_
    rintro e w6a ⟨gx, msx, hmsx, rfl, rx, b6a⟩
    (try dsimp only)
    go_wp2_with (fail)
    have bx := bel_alloc w6a (.cells #[.slice (some ⟨gx, 0, none⟩) n0.length n0.length] 36)
    have HX := hp_new w6a (.cells #[.slice (some ⟨gx, 0, none⟩) n0.length n0.length] 36)
    have hvx := (own_lt rx).1
    have hcx := (own_lt rx).2
    obtain ⟨w6, e6⟩ : ∃ q, q = w6a.alloc (.cells #[.slice (some ⟨gx, 0, none⟩) n0.length n0.length] 36) := ⟨_, rfl⟩
    rw [← e6] at bx HX ⊢
    clear e6
    obtain ⟨gX, egX⟩ : ∃ q, q = w6a.heap.size := ⟨_, rfl⟩
    rw [← egX] at HX hvx hcx ⊢
    have hX5 : w5.heap.size ≤ gX := by rw [egX]; exact b6a.size
    clear egX
    replace rx := rx.below bx
    have B5 : Below w5.heap.size w5 w6 := b6a.trans (bx.mono b6a.size)
    clear bx b6a
    have HNX := Lib.hid (rx.ndsAt hmsx)
    have RX := Lib.hid rx
    have HVX := Lib.hid hvx
    have HCX := Lib.hid hcx
    clear rx hvx hcx
    have H5' := hp_below H5 B5
    refine reg_key (fun (gT : Nat) (g : Nat) (av : Option Addr) (cv : Nat) w' => GotT w6 R g av cv w') ?_
    apply Exists.intro
    refine ⟨?pB, ?sB⟩
    case pB =>
      obtain ⟨z0, -⟩ : ∃ z : Nat, True := ⟨0, trivial⟩
      refine wp_region_held_drew (S := fun w' => Below w6.heap.size w6 w') (by kernel_rfl) (Below.refl w6.heap.size w6).drew (fun HS => ?_)
      obtain ⟨d, ed⟩ : ∃ d, d = w6.drew := ⟨_, rfl⟩
      rw [← ed] at HS ⊢
      clear ed
      refine wpAnyH_take (i := 0) (oi := ⟨some 32, Op.load 36 (Operand.tmp 8), _, _, _, _⟩) (v := .agg #[.slice (some ⟨gx, 0, none⟩) n0.length n0.length]) rfl (by kernel_rfl) (by kernel_rfl) (by kernel_rfl) (fun _ _ _ h => by cases h.1) (yields_row rfl rfl rfl im_tree (im_tree1 _) (fun w' hw' => hp_below HX hw')) HS ?_
      simp only [World.size_alloc, Act.put, List.setIfInBounds_toArray, List.set_cons_succ, List.set_cons_zero]
      refine wpAnyH_take (i := 1) (oi := ⟨some 33, Op.load 32 (Operand.tmp 3), _, _, _, _⟩) (v := .agg (sCells ra)) rfl (by kernel_rfl) (by kernel_rfl) (by kernel_rfl) (fun _ _ _ h => by cases h.1) (yields_row rfl rfl rfl lsty_under (lsty_size ra) (fun w' hw' => hp_below H5' hw')) HS ?_
      simp only [World.size_alloc, Act.put, List.setIfInBounds_toArray, List.set_cons_succ, List.set_cons_zero]
      refine anyH_2 2 7 rfl rfl (by kernel_rfl) rfl rfl ?_ ?_
      ·
        go_wp2_with (fail)
        refine (toSty ra _).mono ?_
        rintro e e1 ⟨rfl, bF⟩
        (try dsimp only)
        have HS1 := HS.trans (bF.mono HS.size)
        clear bF
        refine ⟨HS1, ?_⟩
        refine anyH_2 3 7 rfl rfl (by kernel_rfl) rfl rfl ?_ ?_
        ·
          go_wp2_with (fail)
          refine (KI.out (some ⟨gx, 0, none⟩) n0.length _ (HNX.out.below HS1)).mono ?_
          rintro e e2 ⟨vF, msF, hmsF, rfl, hoF, bF⟩
          obtain ⟨av, cv, rfl⟩ := own_form hoF.1
          have hml : msF.length = R.length := by rw [← hmsF, List.length_map]
          rw [hml] at hoF ⊢
          (try dsimp only)
          have HS2 := HS1.trans (bF.mono HS1.size)
          refine ⟨HS2, ?_⟩
          refine wpAnyH_take (i := 4) (oi := ⟨some 31, Op.move (Operand.tmp 35), _, _, _, _⟩) (v := .tuple #[.agg #[.slice av R.length cv], .int .i64 C]) rfl (by kernel_rfl) (by kernel_rfl) (by kernel_rfl) (fun _ _ _ h => by cases h.1) (Or.inl ⟨rfl, fun W hW => by rfl⟩) HS2 ?_
          simp only [World.size_alloc, Act.put, List.setIfInBounds_toArray, List.set_cons_succ, List.set_cons_zero]
          refine wpAnyH_take (i := 5) (oi := ⟨some 36, Op.extract (Operand.tmp 31) 0, _, _, _, _⟩) (v := .agg #[.slice av R.length cv]) rfl (by kernel_rfl) (by kernel_rfl) (by kernel_rfl) (fun _ _ _ h => by cases h.1) (Or.inl ⟨rfl, fun W hW => by rfl⟩) HS2 ?_
          simp only [World.size_alloc, Act.put, List.setIfInBounds_toArray, List.set_cons_succ, List.set_cons_zero]
          refine wpAnyH_take (i := 6) (oi := ⟨some 37, Op.extract (Operand.tmp 31) 1, _, _, _, _⟩) (v := .int .i64 C) rfl (by kernel_rfl) (by kernel_rfl) (by kernel_rfl) (fun _ _ _ h => by cases h.1) (Or.inl ⟨rfl, fun W hW => by rfl⟩) HS2 ?_
          simp only [World.size_alloc, Act.put, List.setIfInBounds_toArray, List.set_cons_succ, List.set_cons_zero]
          refine anyH_1 7 rfl (by kernel_rfl) rfl ?_
          go_wp2_with (fail)
          (try dsimp only)
          have ba := bel_alloc e2 (.cells #[.slice none 0 0] 36)
          have hb := hp_new e2 (.cells #[.slice none 0 0] 36)
          obtain ⟨e3, ev⟩ : ∃ e3, e3 = e2.alloc (.cells #[.slice none 0 0] 36) := ⟨_, rfl⟩
          rw [← ev] at ba hb ⊢
          obtain ⟨g, eg⟩ : ∃ g, g = e2.heap.size := ⟨_, rfl⟩
          rw [← eg] at hb ⊢
          have HSa := HS2.trans (ba.mono HS2.size)
          refine ⟨HSa, ?_⟩
          have hg : w6.heap.size ≤ g := by rw [eg]; exact HS2.size
          have EG := Lib.hid eg
          have EV := Lib.hid ev
          clear eg ev ba
          refine anyH_1 8 rfl (by kernel_rfl) rfl ?_
          have zg : e3.cell? ⟨g, 0, none⟩ = some (.slice none 0 0) := (Go.Joins.cell_of_block hb 0).trans rfl
          have fg := Go.Joins.unfrozen_of_block hb 0
          go_wp2_with (fail)
          (try dsimp only)
          obtain ⟨e4, ew⟩ : ∃ q, q = e3.setCell ⟨g, 0, none⟩ (.slice av R.length cv) := ⟨_, rfl⟩
          rw [← ew]
          have HSb : Below w6.heap.size w6 e4 := by rw [ew]; exact bl_set HSa 0 hg _
          have EW := Lib.hid ew
          clear ew
          refine ⟨HSb, ?_⟩
          refine anyH_1 9 rfl (by kernel_rfl) rfl ?_
          go_wp2_with (fail)
          (try dsimp only)
          first | (refine ⟨HSb, ?_⟩; refine wpAnyH_done (by kernel_rfl) ?_ _) | refine ⟨by kernel_rfl, ?_⟩
          first | exact ⟨rfl, z0, g, av, cv, got_b HS1 hoF hmsF bF EG.out EV.out EW.out, rfl⟩ | exact ⟨rfl, g, av, cv, got_b HS1 hoF hmsF bF EG.out EV.out EW.out, rfl⟩
        ·
          go_wp2_with (fail)
          (try dsimp only)
          have ba := bel_alloc e1 (.cells #[.slice none 0 0] 36)
          have hb := hp_new e1 (.cells #[.slice none 0 0] 36)
          have hg : w6.heap.size ≤ e1.heap.size := HS1.size
          obtain ⟨e5, ev⟩ : ∃ e5, e5 = e1.alloc (.cells #[.slice none 0 0] 36) := ⟨_, rfl⟩
          rw [← ev] at ba hb ⊢
          clear ev
          obtain ⟨g, eg⟩ : ∃ g, g = e1.heap.size := ⟨_, rfl⟩
          rw [← eg] at hb hg ⊢
          have HS5 := HS1.trans (ba.mono HS1.size)
          clear ba eg
          refine ⟨HS5, ?_⟩
          refine anyH_1 3 rfl (by kernel_rfl) rfl ?_
          have hbu := hb
          go_wp2_with (fail)
          refine (KI.out (some ⟨gx, 0, none⟩) n0.length _ (HNX.out.below HS5)).mono ?_
          rintro e e6 ⟨vF, msF, hmsF, rfl, hoF, bF⟩
          obtain ⟨av, cv, rfl⟩ := own_form hoF.1
          have hml : msF.length = R.length := by rw [← hmsF, List.length_map]
          rw [hml] at hoF ⊢
          (try dsimp only)
          have HS6 := HS5.trans (bF.mono HS5.size)
          refine ⟨HS6, ?_⟩
          refine wpAnyH_take (i := 4) (oi := ⟨some 31, Op.move (Operand.tmp 35), _, _, _, _⟩) (v := .tuple #[.agg #[.slice av R.length cv], .int .i64 C]) rfl (by kernel_rfl) (by kernel_rfl) (by kernel_rfl) (fun _ _ _ h => by cases h.1) (Or.inl ⟨rfl, fun W hW => by rfl⟩) HS6 ?_
          simp only [World.size_alloc, Act.put, List.setIfInBounds_toArray, List.set_cons_succ, List.set_cons_zero]
          refine wpAnyH_take (i := 5) (oi := ⟨some 36, Op.extract (Operand.tmp 31) 0, _, _, _, _⟩) (v := .agg #[.slice av R.length cv]) rfl (by kernel_rfl) (by kernel_rfl) (by kernel_rfl) (fun _ _ _ h => by cases h.1) (Or.inl ⟨rfl, fun W hW => by rfl⟩) HS6 ?_
          simp only [World.size_alloc, Act.put, List.setIfInBounds_toArray, List.set_cons_succ, List.set_cons_zero]
          refine wpAnyH_take (i := 6) (oi := ⟨some 37, Op.extract (Operand.tmp 31) 1, _, _, _, _⟩) (v := .int .i64 C) rfl (by kernel_rfl) (by kernel_rfl) (by kernel_rfl) (fun _ _ _ h => by cases h.1) (Or.inl ⟨rfl, fun W hW => by rfl⟩) HS6 ?_
          simp only [World.size_alloc, Act.put, List.setIfInBounds_toArray, List.set_cons_succ, List.set_cons_zero]
          replace hb := hp_below hbu bF
          refine anyH_1 8 rfl (by kernel_rfl) rfl ?_
          have zg : e6.cell? ⟨g, 0, none⟩ = some (.slice none 0 0) := (Go.Joins.cell_of_block hb 0).trans rfl
          have fg := Go.Joins.unfrozen_of_block hb 0
          go_wp2_with (fail)
          (try dsimp only)
          obtain ⟨e7, ew⟩ : ∃ q, q = e6.setCell ⟨g, 0, none⟩ (.slice av R.length cv) := ⟨_, rfl⟩
          rw [← ew]
          have HSb : Below w6.heap.size w6 e7 := by rw [ew]; exact bl_set HS6 0 hg _
          have EW := Lib.hid ew
          clear ew
          refine ⟨HSb, ?_⟩
          refine anyH_1 9 rfl (by kernel_rfl) rfl ?_
          go_wp2_with (fail)
          (try dsimp only)
          first | (refine ⟨HSb, ?_⟩; refine wpAnyH_done (by kernel_rfl) ?_ _) | refine ⟨by kernel_rfl, ?_⟩
          first | exact ⟨rfl, z0, g, av, cv, got_a HS5 hbu hg hoF hmsF bF EW.out, rfl⟩ | exact ⟨rfl, g, av, cv, got_a HS5 hbu hg hoF hmsF bF EW.out, rfl⟩
      ·
        go_wp2_with (fail)
        (try dsimp only)
        have ba := bel_alloc d (.cells #[.slice none 0 0] 36)
        have hb := hp_new d (.cells #[.slice none 0 0] 36)
        have hg : w6.heap.size ≤ d.heap.size := HS.size
        obtain ⟨e8, ev⟩ : ∃ e8, e8 = d.alloc (.cells #[.slice none 0 0] 36) := ⟨_, rfl⟩
        rw [← ev] at ba hb ⊢
        clear ev
        obtain ⟨g, eg⟩ : ∃ g, g = d.heap.size := ⟨_, rfl⟩
        rw [← eg] at hb hg ⊢
        have HS8 := HS.trans (ba.mono HS.size)
        clear ba eg
        refine ⟨HS8, ?_⟩
        refine anyH_1 2 rfl (by kernel_rfl) rfl ?_
        go_wp2_with (fail)
        refine (toSty ra _).mono ?_
        rintro e e9 ⟨rfl, bF⟩
        replace hb := hp_below hb bF
        (try dsimp only)
        have HS9 := HS8.trans (bF.mono HS8.size)
        clear bF
        refine ⟨HS9, ?_⟩
        refine anyH_1 3 rfl (by kernel_rfl) rfl ?_
        have hbu := hb
        go_wp2_with (fail)
        refine (KI.out (some ⟨gx, 0, none⟩) n0.length _ (HNX.out.below HS9)).mono ?_
        rintro e e10 ⟨vF, msF, hmsF, rfl, hoF, bF⟩
        obtain ⟨av, cv, rfl⟩ := own_form hoF.1
        have hml : msF.length = R.length := by rw [← hmsF, List.length_map]
        rw [hml] at hoF ⊢
        (try dsimp only)
        have HS10 := HS9.trans (bF.mono HS9.size)
        refine ⟨HS10, ?_⟩
        refine wpAnyH_take (i := 4) (oi := ⟨some 31, Op.move (Operand.tmp 35), _, _, _, _⟩) (v := .tuple #[.agg #[.slice av R.length cv], .int .i64 C]) rfl (by kernel_rfl) (by kernel_rfl) (by kernel_rfl) (fun _ _ _ h => by cases h.1) (Or.inl ⟨rfl, fun W hW => by rfl⟩) HS10 ?_
        simp only [World.size_alloc, Act.put, List.setIfInBounds_toArray, List.set_cons_succ, List.set_cons_zero]
        refine wpAnyH_take (i := 5) (oi := ⟨some 36, Op.extract (Operand.tmp 31) 0, _, _, _, _⟩) (v := .agg #[.slice av R.length cv]) rfl (by kernel_rfl) (by kernel_rfl) (by kernel_rfl) (fun _ _ _ h => by cases h.1) (Or.inl ⟨rfl, fun W hW => by rfl⟩) HS10 ?_
        simp only [World.size_alloc, Act.put, List.setIfInBounds_toArray, List.set_cons_succ, List.set_cons_zero]
        refine wpAnyH_take (i := 6) (oi := ⟨some 37, Op.extract (Operand.tmp 31) 1, _, _, _, _⟩) (v := .int .i64 C) rfl (by kernel_rfl) (by kernel_rfl) (by kernel_rfl) (fun _ _ _ h => by cases h.1) (Or.inl ⟨rfl, fun W hW => by rfl⟩) HS10 ?_
        simp only [World.size_alloc, Act.put, List.setIfInBounds_toArray, List.set_cons_succ, List.set_cons_zero]
        replace hb := hp_below hbu bF
        refine anyH_1 8 rfl (by kernel_rfl) rfl ?_
        have zg : e10.cell? ⟨g, 0, none⟩ = some (.slice none 0 0) := (Go.Joins.cell_of_block hb 0).trans rfl
        have fg := Go.Joins.unfrozen_of_block hb 0
        go_wp2_with (fail)
        (try dsimp only)
        obtain ⟨e11, ew⟩ : ∃ q, q = e10.setCell ⟨g, 0, none⟩ (.slice av R.length cv) := ⟨_, rfl⟩
        rw [← ew]
        have HSb : Below w6.heap.size w6 e11 := by rw [ew]; exact bl_set HS10 0 hg _
        have EW := Lib.hid ew
        clear ew
        refine ⟨HSb, ?_⟩
        refine anyH_1 9 rfl (by kernel_rfl) rfl ?_
        go_wp2_with (fail)
        (try dsimp only)
        first | (refine ⟨HSb, ?_⟩; refine wpAnyH_done (by kernel_rfl) ?_ _) | refine ⟨by kernel_rfl, ?_⟩
        first | exact ⟨rfl, z0, g, av, cv, got_a HS9 hbu hg hoF hmsF bF EW.out, rfl⟩ | exact ⟨rfl, g, av, cv, got_a HS9 hbu hg hoF hmsF bF EW.out, rfl⟩
    case sB =>
      intro _ gG avG cvG w7 hG
      obtain ⟨b7, HG, hgG, msG, loG, hiG, hmsG, hoG, hvG, hcG, hgd, hloG⟩ := hG
      replace B5 := B5.trans (b7.mono B5.size)
      have hX6 := hp_lt HX
      have HX7 := hp_below HX b7
      have RX7 := Lib.hid (RX.out.below b7)
      have NX7 := Lib.hid (HNX.out.below b7)
      have hG6 : w6.heap.size ≤ loG := hloG
      clear b7
      have HVG := Lib.hid hvG
      have HCG := Lib.hid hcG
      clear hvG hcG hloG RX HNX HX
      have NG := Lib.hid (hoG.ndsR hmsG)
      have OG := Lib.hid hoG
      clear hoG
      have cG := c_of HG
      have cW := c_of (hp_below HW B5)
      go_wp2_with (fail)
      clear cG cW
      refine (eqtr_any avG avW cvG cvW R _ NG.out (NW.out.below B5) (by omega)).mono ?_
      rintro e w8 ⟨rfl, b8⟩
      replace B5 := B5.trans (b8.mono B5.size)
      replace HG := hp_below HG b8
      replace HX7 := hp_below HX7 b8
      replace OG := Lib.hid (OG.out.below b8)
      replace RX7 := Lib.hid (RX7.out.below b8)
      replace NX7 := Lib.hid (NX7.out.below b8)
      clear b8 NG
      (try dsimp only)
      go_wp2_with (fail)
      -- the argument that was handed over reads as before
      refine wp_region_held_drew (S := fun w' => Below w8.heap.size w8 w') (by kernel_rfl) (Below.refl w8.heap.size w8).drew (fun HS => ?_)
      obtain ⟨d, ed⟩ : ∃ d, d = w8.drew := ⟨_, rfl⟩
      rw [← ed] at HS ⊢
      clear ed
      refine wpAnyH_take (i := 0) (oi := ⟨some 47, Op.load 36 (Operand.tmp 8), _, _, _, _⟩) (v := .agg #[.slice (some ⟨gx, 0, none⟩) n0.length n0.length]) rfl (by kernel_rfl) (by kernel_rfl) (by kernel_rfl) (fun _ _ _ h => h) (yields_row rfl rfl rfl im_tree (im_tree1 _) (fun w' hw' => hp_below HX7 hw')) HS ?_
      simp only [World.size_alloc, Act.put, List.setIfInBounds_toArray, List.set_cons_succ, List.set_cons_zero]
      have H0' := hp_below H0 B5
      refine wpAnyH_take (i := 1) (oi := ⟨some 48, Op.load 24 (Operand.tmp 2), _, _, _, _⟩) (v := .agg #[.slice a0 n0.length cap0]) rfl (by kernel_rfl) (by kernel_rfl) (by kernel_rfl) (fun _ _ _ h => h) (yields_row rfl rfl rfl lw_tree (lw_tree1 _) (fun w' hw' => hp_below H0' hw')) HS ?_
      simp only [World.size_alloc, Act.put, List.setIfInBounds_toArray, List.set_cons_succ, List.set_cons_zero]
      clear H0'
      refine anyH_1 2 rfl (by kernel_rfl) rfl ?_
      go_wp2_with (fail)
      refine (totr_any a0 cap0 n0 _ (HZ5.out.below (B5.trans (HS.mono B5.size))) hl0).mono ?_
      rintro e w9 ⟨gy, msy, hmsy, rfl, ry, b9⟩
      (try dsimp only)
      have HS9 := HS.trans (b9.mono HS.size)
      clear b9 HS
      refine ⟨HS9, ?_⟩
      refine anyH_1 3 rfl (by kernel_rfl) rfl ?_
      go_wp2_with (fail)
      refine (eqtr_any (some ⟨gx, 0, none⟩) (some ⟨gy, 0, none⟩) n0.length n0.length n0 _ (NX7.out.below HS9) (ry.ndsAt hmsy) (by omega)).mono ?_
      rintro e w10 ⟨rfl, b10⟩
      (try dsimp only)
      have HS10 := HS9.trans (b10.mono HS9.size)
      clear b10 HS9 ry hmsy NX7
      refine ⟨HS10, ?_⟩
      refine wpAnyH_take (i := 4) (oi := ⟨some 51, Op.unOp .not _ (Operand.tmp 50), _, _, _, _⟩) (v := .bool false) rfl (by kernel_rfl) (by kernel_rfl) (by kernel_rfl) (fun _ _ _ h => h) (Or.inl ⟨rfl, fun W hW => by rfl⟩) HS10 ?_
      simp only [World.size_alloc, Act.put, List.setIfInBounds_toArray, List.set_cons_succ, List.set_cons_zero]
      refine wpAnyH_done (by kernel_rfl) ?_ _
      replace B5 := B5.trans (HS10.mono B5.size)
      replace HG := hp_below HG HS10
      have HX10 := hp_below HX7 HS10
      replace OG := Lib.hid (OG.out.below HS10)
      have RX10 := Lib.hid (RX7.out.below HS10)
      clear HX7 RX7 HS10
      have cX := c_of HX10
      go_wp2_with (fail)
      clear cX
      have hszx : szS (msx.map ND.n) ≤ 2097152 := by rw [hmsx]; omega
      refine (marktr_any w5.heap.size gX 1 (.slice (some ⟨gx, 0, none⟩) n0.length n0.length) msx _ RX10.out HVX.out HCX.out hszx (by decide)).mono ?_
      rintro e w11 ⟨rfl, -, fr⟩
      have hq0 : (0 : Int) ≤ (nxL 1 msx : Int) := Int.natCast_nonneg _
      generalize (nxL 1 msx : Int) = q0 at *
      replace B5 := B5.trans (fr.below (Nat.le_refl _) B5.size)
      replace HG := fr.heap HG (Or.inr (by omega))
      replace OG := Lib.hid (OG.out.kept (fr.from (by omega)))
      clear fr RX10 HX10
      have NG := Lib.hid (OG.out.ndsR hmsG)
      have cG := c_of HG
      have cW := c_of (hp_below HW B5)
      (try dsimp only)
      go_wp2_with (fail)
      clear cG cW
      refine (eqtr_any avG avW cvG cvW R _ NG.out (NW.out.below B5) (by omega)).mono ?_
      rintro e w12 ⟨rfl, b12⟩
      replace B5 := B5.trans (b12.mono B5.size)
      replace HG := hp_below HG b12
      replace OG := Lib.hid (OG.out.below b12)
      clear b12 NG
      have cG := c_of HG
      (try dsimp only)
      go_wp2_with (fail)
      clear cG
      have hszg : szS (msG.map ND.n) ≤ 2097152 := by rw [hmsG]; exact hsR
      refine (marktr_any loG hiG 1 (.slice avG R.length cvG) msG _ OG.out HVG.out HCG.out hszg (by decide)).mono ?_
      rintro e w13 ⟨rfl, OM, fr⟩
      have hq1 : (0 : Int) ≤ (nxL 1 msG : Int) := Int.natCast_nonneg _
      have HE := Lib.hid (heldtr_any loG 1 (.slice avG R.length cvG) msG)
      have HSZ := Lib.hid hszg
      obtain ⟨q1, eq1⟩ : ∃ q : Int, q = (nxL 1 msG : Int) := ⟨_, rfl⟩
      rw [← eq1] at hq1 HE ⊢
      clear eq1 hszg
      have hl5 : w5.heap.size ≤ loG := by have := hp_lt HG; omega
      replace B5 := B5.trans (fr.below hl5 B5.size)
      replace HG := fr.heap HG hgd
      replace OM := Lib.hid OM
      clear fr OG
      have cG := c_of HG
      (try dsimp only)
      go_wp2_with (fail)
      clear cG
      refine (HE.out _ OM.out HSZ.out (by decide)).mono ?_
      rintro e w14 ⟨rfl, b14⟩
      replace B5 := B5.trans (b14.mono B5.size)
      replace HG := hp_below HG b14
      replace OM := Lib.hid (OM.out.below b14)
      clear b14
      (try dsimp only)
      go_wp2_with (fail)
      have HZ14 := Lib.hid (HZ5.out.below B5)
      have H0' := hp_below H0 B5
      have H5' := hp_below H5 B5
      refine reg_key (fun (gT : Nat) (g : Nat) (av : Option Addr) (cv : Nat) w' => GotT w14 R g av cv w') ?_
      apply Exists.intro
      refine ⟨?pC, ?sC⟩
      case pC =>
        refine wp_region_held_drew (S := fun w' => Below w14.heap.size w14 w') (by kernel_rfl) (Below.refl w14.heap.size w14).drew (fun HS => ?_)
        obtain ⟨d, ed⟩ : ∃ d, d = w14.drew := ⟨_, rfl⟩
        rw [← ed] at HS ⊢
        clear ed
        refine wpAnyH_take (i := 0) (oi := ⟨some 80, Op.load 24 (Operand.tmp 2), _, _, _, _⟩) (v := .agg #[.slice a0 n0.length cap0]) rfl (by kernel_rfl) (by kernel_rfl) (by kernel_rfl) (fun _ _ _ h => by cases h.1) (yields_row rfl rfl rfl lw_tree (lw_tree1 _) (fun w' hw' => hp_below H0' hw')) HS ?_
        simp only [World.size_alloc, Act.put, List.setIfInBounds_toArray, List.set_cons_succ, List.set_cons_zero]
        refine wpAnyH_take (i := 2) (oi := ⟨some 82, Op.load 32 (Operand.tmp 3), _, _, _, _⟩) (v := .agg (sCells ra)) rfl (by kernel_rfl) (by kernel_rfl) (by kernel_rfl) (fun _ _ _ h => by cases h.1) (yields_row rfl rfl rfl lsty_under (lsty_size ra) (fun w' hw' => hp_below H5' hw')) HS ?_
        simp only [World.size_alloc, Act.put, List.setIfInBounds_toArray, List.set_cons_succ, List.set_cons_zero]
        refine anyH_2 1 8 rfl rfl (by kernel_rfl) rfl rfl ?_ ?_
        ·
          go_wp2_with (fail)
          refine (totr_any a0 cap0 n0 _ (HZ14.out.below HS) hl0).mono ?_
          rintro e e1 ⟨gT, msT, hmsT, rfl, rT, bF⟩
          (try dsimp only)
          have HS1 := HS.trans (bF.mono HS.size)
          clear bF
          refine ⟨HS1, ?_⟩
          refine anyH_2 3 8 rfl rfl (by kernel_rfl) rfl rfl ?_ ?_
          ·
            go_wp2_with (fail)
            refine (toSty ra _).mono ?_
            rintro e e2 ⟨rfl, bF⟩
            replace rT := rT.below bF
            (try dsimp only)
            have HS2 := HS1.trans (bF.mono HS1.size)
            clear bF
            refine ⟨HS2, ?_⟩
            refine anyH_2 4 8 rfl rfl (by kernel_rfl) rfl rfl ?_ ?_
            ·
              go_wp2_with (fail)
              refine (KI.out (some ⟨gT, 0, none⟩) n0.length _ (rT.ndsAt hmsT)).mono ?_
              rintro e e3 ⟨vF, msF, hmsF, rfl, hoF, bF⟩
              obtain ⟨av, cv, rfl⟩ := own_form hoF.1
              have hml : msF.length = R.length := by rw [← hmsF, List.length_map]
              rw [hml] at hoF ⊢
              (try dsimp only)
              have HS3 := HS2.trans (bF.mono HS2.size)
              refine ⟨HS3, ?_⟩
              refine wpAnyH_take (i := 5) (oi := ⟨some 79, Op.move (Operand.tmp 84), _, _, _, _⟩) (v := .tuple #[.agg #[.slice av R.length cv], .int .i64 C]) rfl (by kernel_rfl) (by kernel_rfl) (by kernel_rfl) (fun _ _ _ h => by cases h.1) (Or.inl ⟨rfl, fun W hW => by rfl⟩) HS3 ?_
              simp only [World.size_alloc, Act.put, List.setIfInBounds_toArray, List.set_cons_succ, List.set_cons_zero]
              refine wpAnyH_take (i := 6) (oi := ⟨some 85, Op.extract (Operand.tmp 79) 0, _, _, _, _⟩) (v := .agg #[.slice av R.length cv]) rfl (by kernel_rfl) (by kernel_rfl) (by kernel_rfl) (fun _ _ _ h => by cases h.1) (Or.inl ⟨rfl, fun W hW => by rfl⟩) HS3 ?_
              simp only [World.size_alloc, Act.put, List.setIfInBounds_toArray, List.set_cons_succ, List.set_cons_zero]
              refine wpAnyH_take (i := 7) (oi := ⟨some 86, Op.extract (Operand.tmp 79) 1, _, _, _, _⟩) (v := .int .i64 C) rfl (by kernel_rfl) (by kernel_rfl) (by kernel_rfl) (fun _ _ _ h => by cases h.1) (Or.inl ⟨rfl, fun W hW => by rfl⟩) HS3 ?_
              simp only [World.size_alloc, Act.put, List.setIfInBounds_toArray, List.set_cons_succ, List.set_cons_zero]
              refine anyH_1 8 rfl (by kernel_rfl) rfl ?_
              go_wp2_with (fail)
              (try dsimp only)
              have ba := bel_alloc e3 (.cells #[.slice none 0 0] 36)
              have hb := hp_new e3 (.cells #[.slice none 0 0] 36)
              obtain ⟨e4, ev⟩ : ∃ e4, e4 = e3.alloc (.cells #[.slice none 0 0] 36) := ⟨_, rfl⟩
              rw [← ev] at ba hb ⊢
              obtain ⟨g, eg⟩ : ∃ g, g = e3.heap.size := ⟨_, rfl⟩
              rw [← eg] at hb ⊢
              have HSa := HS3.trans (ba.mono HS3.size)
              refine ⟨HSa, ?_⟩
              have hg : w14.heap.size ≤ g := by rw [eg]; exact HS3.size
              have EG := Lib.hid eg
              have EV := Lib.hid ev
              clear eg ev ba
              refine anyH_1 9 rfl (by kernel_rfl) rfl ?_
              have zg : e4.cell? ⟨g, 0, none⟩ = some (.slice none 0 0) := (Go.Joins.cell_of_block hb 0).trans rfl
              have fg := Go.Joins.unfrozen_of_block hb 0
              go_wp2_with (fail)
              (try dsimp only)
              obtain ⟨e5, ew⟩ : ∃ q, q = e4.setCell ⟨g, 0, none⟩ (.slice av R.length cv) := ⟨_, rfl⟩
              rw [← ew]
              have HSb : Below w14.heap.size w14 e5 := by rw [ew]; exact bl_set HSa 0 hg _
              have EW := Lib.hid ew
              clear ew
              refine ⟨HSb, ?_⟩
              refine anyH_1 10 rfl (by kernel_rfl) rfl ?_
              go_wp2_with (fail)
              (try dsimp only)
              first | (refine ⟨HSb, ?_⟩; refine wpAnyH_done (by kernel_rfl) ?_ _) | refine ⟨by kernel_rfl, ?_⟩
              exact ⟨rfl, gT, g, av, cv, got_b HS2 hoF hmsF bF EG.out EV.out EW.out, rfl⟩
            ·
              go_wp2_with (fail)
              (try dsimp only)
              have ba := bel_alloc e2 (.cells #[.slice none 0 0] 36)
              have hb := hp_new e2 (.cells #[.slice none 0 0] 36)
              have hg : w14.heap.size ≤ e2.heap.size := HS2.size
              obtain ⟨e6, ev⟩ : ∃ e6, e6 = e2.alloc (.cells #[.slice none 0 0] 36) := ⟨_, rfl⟩
              rw [← ev] at ba hb ⊢
              clear ev
              obtain ⟨g, eg⟩ : ∃ g, g = e2.heap.size := ⟨_, rfl⟩
              rw [← eg] at hb hg ⊢
              have HS6 := HS2.trans (ba.mono HS2.size)
              replace rT := rT.below ba
              clear ba eg
              refine ⟨HS6, ?_⟩
              refine anyH_1 4 rfl (by kernel_rfl) rfl ?_
              have hbu := hb
              go_wp2_with (fail)
              refine (KI.out (some ⟨gT, 0, none⟩) n0.length _ (rT.ndsAt hmsT)).mono ?_
              rintro e e7 ⟨vF, msF, hmsF, rfl, hoF, bF⟩
              obtain ⟨av, cv, rfl⟩ := own_form hoF.1
              have hml : msF.length = R.length := by rw [← hmsF, List.length_map]
              rw [hml] at hoF ⊢
              (try dsimp only)
              have HS7 := HS6.trans (bF.mono HS6.size)
              refine ⟨HS7, ?_⟩
              refine wpAnyH_take (i := 5) (oi := ⟨some 79, Op.move (Operand.tmp 84), _, _, _, _⟩) (v := .tuple #[.agg #[.slice av R.length cv], .int .i64 C]) rfl (by kernel_rfl) (by kernel_rfl) (by kernel_rfl) (fun _ _ _ h => by cases h.1) (Or.inl ⟨rfl, fun W hW => by rfl⟩) HS7 ?_
              simp only [World.size_alloc, Act.put, List.setIfInBounds_toArray, List.set_cons_succ, List.set_cons_zero]
              refine wpAnyH_take (i := 6) (oi := ⟨some 85, Op.extract (Operand.tmp 79) 0, _, _, _, _⟩) (v := .agg #[.slice av R.length cv]) rfl (by kernel_rfl) (by kernel_rfl) (by kernel_rfl) (fun _ _ _ h => by cases h.1) (Or.inl ⟨rfl, fun W hW => by rfl⟩) HS7 ?_
              simp only [World.size_alloc, Act.put, List.setIfInBounds_toArray, List.set_cons_succ, List.set_cons_zero]
              refine wpAnyH_take (i := 7) (oi := ⟨some 86, Op.extract (Operand.tmp 79) 1, _, _, _, _⟩) (v := .int .i64 C) rfl (by kernel_rfl) (by kernel_rfl) (by kernel_rfl) (fun _ _ _ h => by cases h.1) (Or.inl ⟨rfl, fun W hW => by rfl⟩) HS7 ?_
              simp only [World.size_alloc, Act.put, List.setIfInBounds_toArray, List.set_cons_succ, List.set_cons_zero]
              replace hb := hp_below hbu bF
              refine anyH_1 9 rfl (by kernel_rfl) rfl ?_
              have zg : e7.cell? ⟨g, 0, none⟩ = some (.slice none 0 0) := (Go.Joins.cell_of_block hb 0).trans rfl
              have fg := Go.Joins.unfrozen_of_block hb 0
              go_wp2_with (fail)
              (try dsimp only)
              obtain ⟨e8, ew⟩ : ∃ q, q = e7.setCell ⟨g, 0, none⟩ (.slice av R.length cv) := ⟨_, rfl⟩
              rw [← ew]
              have HSb : Below w14.heap.size w14 e8 := by rw [ew]; exact bl_set HS7 0 hg _
              have EW := Lib.hid ew
              clear ew
              refine ⟨HSb, ?_⟩
              refine anyH_1 10 rfl (by kernel_rfl) rfl ?_
              go_wp2_with (fail)
              (try dsimp only)
              first | (refine ⟨HSb, ?_⟩; refine wpAnyH_done (by kernel_rfl) ?_ _) | refine ⟨by kernel_rfl, ?_⟩
              exact ⟨rfl, gT, g, av, cv, got_a HS6 hbu hg hoF hmsF bF EW.out, rfl⟩
          ·
            go_wp2_with (fail)
            (try dsimp only)
            have ba := bel_alloc e1 (.cells #[.slice none 0 0] 36)
            have hb := hp_new e1 (.cells #[.slice none 0 0] 36)
            have hg : w14.heap.size ≤ e1.heap.size := HS1.size
            obtain ⟨e9, ev⟩ : ∃ e9, e9 = e1.alloc (.cells #[.slice none 0 0] 36) := ⟨_, rfl⟩
            rw [← ev] at ba hb ⊢
            clear ev
            obtain ⟨g, eg⟩ : ∃ g, g = e1.heap.size := ⟨_, rfl⟩
            rw [← eg] at hb hg ⊢
            have HS9 := HS1.trans (ba.mono HS1.size)
            replace rT := rT.below ba
            clear ba eg
            refine ⟨HS9, ?_⟩
            refine anyH_1 3 rfl (by kernel_rfl) rfl ?_
            go_wp2_with (fail)
            refine (toSty ra _).mono ?_
            rintro e e10 ⟨rfl, bF⟩
            replace hb := hp_below hb bF
            replace rT := rT.below bF
            (try dsimp only)
            have HS10 := HS9.trans (bF.mono HS9.size)
            clear bF
            refine ⟨HS10, ?_⟩
            refine anyH_1 4 rfl (by kernel_rfl) rfl ?_
            have hbu := hb
            go_wp2_with (fail)
            refine (KI.out (some ⟨gT, 0, none⟩) n0.length _ (rT.ndsAt hmsT)).mono ?_
            rintro e e11 ⟨vF, msF, hmsF, rfl, hoF, bF⟩
            obtain ⟨av, cv, rfl⟩ := own_form hoF.1
            have hml : msF.length = R.length := by rw [← hmsF, List.length_map]
            rw [hml] at hoF ⊢
            (try dsimp only)
            have HS11 := HS10.trans (bF.mono HS10.size)
            refine ⟨HS11, ?_⟩
            refine wpAnyH_take (i := 5) (oi := ⟨some 79, Op.move (Operand.tmp 84), _, _, _, _⟩) (v := .tuple #[.agg #[.slice av R.length cv], .int .i64 C]) rfl (by kernel_rfl) (by kernel_rfl) (by kernel_rfl) (fun _ _ _ h => by cases h.1) (Or.inl ⟨rfl, fun W hW => by rfl⟩) HS11 ?_
            simp only [World.size_alloc, Act.put, List.setIfInBounds_toArray, List.set_cons_succ, List.set_cons_zero]
            refine wpAnyH_take (i := 6) (oi := ⟨some 85, Op.extract (Operand.tmp 79) 0, _, _, _, _⟩) (v := .agg #[.slice av R.length cv]) rfl (by kernel_rfl) (by kernel_rfl) (by kernel_rfl) (fun _ _ _ h => by cases h.1) (Or.inl ⟨rfl, fun W hW => by rfl⟩) HS11 ?_
            simp only [World.size_alloc, Act.put, List.setIfInBounds_toArray, List.set_cons_succ, List.set_cons_zero]
            refine wpAnyH_take (i := 7) (oi := ⟨some 86, Op.extract (Operand.tmp 79) 1, _, _, _, _⟩) (v := .int .i64 C) rfl (by kernel_rfl) (by kernel_rfl) (by kernel_rfl) (fun _ _ _ h => by cases h.1) (Or.inl ⟨rfl, fun W hW => by rfl⟩) HS11 ?_
            simp only [World.size_alloc, Act.put, List.setIfInBounds_toArray, List.set_cons_succ, List.set_cons_zero]
            replace hb := hp_below hbu bF
            refine anyH_1 9 rfl (by kernel_rfl) rfl ?_
            have zg : e11.cell? ⟨g, 0, none⟩ = some (.slice none 0 0) := (Go.Joins.cell_of_block hb 0).trans rfl
            have fg := Go.Joins.unfrozen_of_block hb 0
            go_wp2_with (fail)
            (try dsimp only)
            obtain ⟨e12, ew⟩ : ∃ q, q = e11.setCell ⟨g, 0, none⟩ (.slice av R.length cv) := ⟨_, rfl⟩
            rw [← ew]
            have HSb : Below w14.heap.size w14 e12 := by rw [ew]; exact bl_set HS11 0 hg _
            have EW := Lib.hid ew
            clear ew
            refine ⟨HSb, ?_⟩
            refine anyH_1 10 rfl (by kernel_rfl) rfl ?_
            go_wp2_with (fail)
            (try dsimp only)
            first | (refine ⟨HSb, ?_⟩; refine wpAnyH_done (by kernel_rfl) ?_ _) | refine ⟨by kernel_rfl, ?_⟩
            exact ⟨rfl, gT, g, av, cv, got_a HS10 hbu hg hoF hmsF bF EW.out, rfl⟩
        ·
          go_wp2_with (fail)
          (try dsimp only)
          have ba := bel_alloc d (.cells #[.slice none 0 0] 36)
          have hb := hp_new d (.cells #[.slice none 0 0] 36)
          have hg : w14.heap.size ≤ d.heap.size := HS.size
          obtain ⟨e13, ev⟩ : ∃ e13, e13 = d.alloc (.cells #[.slice none 0 0] 36) := ⟨_, rfl⟩
          rw [← ev] at ba hb ⊢
          clear ev
          obtain ⟨g, eg⟩ : ∃ g, g = d.heap.size := ⟨_, rfl⟩
          rw [← eg] at hb hg ⊢
          have HS13 := HS.trans (ba.mono HS.size)
          clear ba eg
          refine ⟨HS13, ?_⟩
          refine anyH_1 1 rfl (by kernel_rfl) rfl ?_
          go_wp2_with (fail)
          refine (totr_any a0 cap0 n0 _ (HZ14.out.below HS13) hl0).mono ?_
          rintro e e14 ⟨gT, msT, hmsT, rfl, rT, bF⟩
          replace hb := hp_below hb bF
          (try dsimp only)
          have HS14 := HS13.trans (bF.mono HS13.size)
          clear bF
          refine ⟨HS14, ?_⟩
          refine anyH_1 3 rfl (by kernel_rfl) rfl ?_
          go_wp2_with (fail)
          refine (toSty ra _).mono ?_
          rintro e e15 ⟨rfl, bF⟩
          replace hb := hp_below hb bF
          replace rT := rT.below bF
          (try dsimp only)
          have HS15 := HS14.trans (bF.mono HS14.size)
          clear bF
          refine ⟨HS15, ?_⟩
          refine anyH_1 4 rfl (by kernel_rfl) rfl ?_
          have hbu := hb
          go_wp2_with (fail)
          refine (KI.out (some ⟨gT, 0, none⟩) n0.length _ (rT.ndsAt hmsT)).mono ?_
          rintro e e16 ⟨vF, msF, hmsF, rfl, hoF, bF⟩
          obtain ⟨av, cv, rfl⟩ := own_form hoF.1
          have hml : msF.length = R.length := by rw [← hmsF, List.length_map]
          rw [hml] at hoF ⊢
          (try dsimp only)
          have HS16 := HS15.trans (bF.mono HS15.size)
          refine ⟨HS16, ?_⟩
          refine wpAnyH_take (i := 5) (oi := ⟨some 79, Op.move (Operand.tmp 84), _, _, _, _⟩) (v := .tuple #[.agg #[.slice av R.length cv], .int .i64 C]) rfl (by kernel_rfl) (by kernel_rfl) (by kernel_rfl) (fun _ _ _ h => by cases h.1) (Or.inl ⟨rfl, fun W hW => by rfl⟩) HS16 ?_
          simp only [World.size_alloc, Act.put, List.setIfInBounds_toArray, List.set_cons_succ, List.set_cons_zero]
          refine wpAnyH_take (i := 6) (oi := ⟨some 85, Op.extract (Operand.tmp 79) 0, _, _, _, _⟩) (v := .agg #[.slice av R.length cv]) rfl (by kernel_rfl) (by kernel_rfl) (by kernel_rfl) (fun _ _ _ h => by cases h.1) (Or.inl ⟨rfl, fun W hW => by rfl⟩) HS16 ?_
          simp only [World.size_alloc, Act.put, List.setIfInBounds_toArray, List.set_cons_succ, List.set_cons_zero]
          refine wpAnyH_take (i := 7) (oi := ⟨some 86, Op.extract (Operand.tmp 79) 1, _, _, _, _⟩) (v := .int .i64 C) rfl (by kernel_rfl) (by kernel_rfl) (by kernel_rfl) (fun _ _ _ h => by cases h.1) (Or.inl ⟨rfl, fun W hW => by rfl⟩) HS16 ?_
          simp only [World.size_alloc, Act.put, List.setIfInBounds_toArray, List.set_cons_succ, List.set_cons_zero]
          replace hb := hp_below hbu bF
          refine anyH_1 9 rfl (by kernel_rfl) rfl ?_
          have zg : e16.cell? ⟨g, 0, none⟩ = some (.slice none 0 0) := (Go.Joins.cell_of_block hb 0).trans rfl
          have fg := Go.Joins.unfrozen_of_block hb 0
          go_wp2_with (fail)
          (try dsimp only)
          obtain ⟨e17, ew⟩ : ∃ q, q = e16.setCell ⟨g, 0, none⟩ (.slice av R.length cv) := ⟨_, rfl⟩
          rw [← ew]
          have HSb : Below w14.heap.size w14 e17 := by rw [ew]; exact bl_set HS16 0 hg _
          have EW := Lib.hid ew
          clear ew
          refine ⟨HSb, ?_⟩
          refine anyH_1 10 rfl (by kernel_rfl) rfl ?_
          go_wp2_with (fail)
          (try dsimp only)
          first | (refine ⟨HSb, ?_⟩; refine wpAnyH_done (by kernel_rfl) ?_ _) | refine ⟨by kernel_rfl, ?_⟩
          exact ⟨rfl, gT, g, av, cv, got_a HS15 hbu hg hoF hmsF bF EW.out, rfl⟩
      case sC =>
        intro _ gH avH cvH w15 hG
        obtain ⟨b15, HH, -, msH, loH, hiH, hmsH, hoH, -, -, -, -⟩ := hG
        replace B5 := B5.trans (b15.mono B5.size)
        replace HG := hp_below HG b15
        replace OM := Lib.hid (OM.out.below b15)
        have NH := Lib.hid (hoH.ndsR hmsH)
        clear b15 hoH hmsH
        have cH := c_of HH
        have cW := c_of (hp_below HW B5)
        go_wp2_with (fail)
        clear cH cW HH
        refine (eqtr_any avH avW cvH cvW R _ NH.out (NW.out.below B5) (by omega)).mono ?_
        rintro e w16 ⟨rfl, b16⟩
        replace B5 := B5.trans (b16.mono B5.size)
        replace HG := hp_below HG b16
        replace OM := Lib.hid (OM.out.below b16)
        clear b16 NH
        have cG := c_of HG
        (try dsimp only)
        go_wp2_with (fail)
        clear cG
        refine (HE.out _ OM.out HSZ.out (by decide)).mono ?_
        rintro e w17 ⟨rfl, b17⟩
        replace B5 := B5.trans (b17.mono B5.size)
        replace B := B.trans (B5.mono B.size)
        clear b17
        (try dsimp only)
        go_wp2_with (fail)
        go_ret
        exact ⟨rfl, B⟩
theorem walk (a0 : Option Addr) (cap0 : Nat) (n0 : List PN)  (ra : Nat → Int) (rra : InR ra) (bra : ∀ i, i = 6 ∨ i = 7 → ra i = 0 ∨ ra i = 1) (w : World) (hz0 : Nds w a0 n0) (hm0 : n0.length ≤ 9223372036854775807) (hf0 : ∀ n ∈ n0, n.fit) :
    Calls Try.prog 3 #[.agg #[.slice a0 n0.length cap0], .agg (sCells ra)] w fun e w' => e = .returned (.bool true) ∧ Below w.heap.size w w' := by
  by_cases h : szS n0 ≤ 1048576
  · exact walk_small a0 cap0 n0 ra rra bra w hz0 hm0 hf0 h
  · exact walk_big a0 cap0 n0 ra rra bra w hz0 hm0 hf0 (by omega)

theorem laidOut : laidOutB Try.prog = true := by kernel_rfl

set_option maxRecDepth 100000 in
theorem lifted (os : Os) (started : os.Started) (H : Type) (enc : TypeId × Value → H) :
    ReturnsInHanded {} Try.checked os 3 .any (Rows.fnExactAddNodeSpec.pre6 enc Try.prog Try.f3 Rows.fnExactAddNodeRow.domain false) (Rows.fnExactAddNodeSpec.post enc Try.prog Try.f3 false true false false) := by
  refine returnsInHanded_of_change (C := Try.checked) own started (by kernel_rfl) Try.func3
    (ChangeSpec.witness6 (enc := enc) (C := Try.checked) false ⟨#[], #[.agg #[.slice none 0 0], .agg (.int .i64 0 :: .int .i64 0 :: .int .i64 0 :: .int .i64 0 :: .int .i64 0 :: .int .i64 0 :: .bool false :: .bool false :: .int .i64 0 :: .int .i64 0 :: .int .i64 0 :: .int .i64 0 :: .int .i64 0 :: .int .i64 0 :: .int .i64 0 :: .int .i64 0 :: .int .i64 0 :: .int .i64 0 :: .int .i64 0 :: .int .i64 0 :: .int .i64 0 :: .int .i64 0 :: .int .i64 0 :: .int .i64 0 :: .int .i64 0 :: .int .i64 0 :: .int .i64 0 :: .int .i64 0 :: .int .i64 0 :: .int .i64 0 :: .int .i64 0 :: .int .i64 0 :: .int .i64 0 :: .int .i64 0 :: .int .i64 0 :: .int .i64 0 :: .int .i64 0 :: .int .i64 0 :: .int .i64 0 :: .int .i64 0 :: .int .i64 0 :: .int .i64 0 :: .int .i64 0 :: .int .i64 0 :: .int .i64 0 :: .int .i64 0 :: .int .i64 0 :: .int .i64 0 :: .int .i64 0 :: .int .i64 0 :: .int .i64 0 :: .int .i64 0 :: .int .i64 0 :: .int .i64 0 :: .int .i64 0 :: .int .i64 0 :: .int .i64 0 :: .int .i64 0 :: .int .i64 0 :: .int .i64 0 :: []).toArray], []⟩ 8 (by kernel_rfl) (by kernel_rfl) (by kernel_rfl) (by kernel_rfl)) ?_
  intro W base args ds gs before hval0 hW hcnd _
  have hval : ∀ (j : Nat) t v, Try.f3.params[j]? = some t → args[j]? = some v → Value.okWide Try.prog W .any base t v := hval0
  have hW' := hW
  obtain ⟨p, q, hA0, hV, rfl, hfz, hnd⟩ := hW
  have hA : DataW.TrodAll enc Try.prog W 0 (fun _ => true) true Try.f3.params.toList args.toList ds p := hA0
  rw [Try.params3] at hA hval
  obtain ⟨v0, vs0, d0, ds0, p0, q0, hargs, rfl, rfl, h0, r0⟩ := trodAll_cons hA
  obtain ⟨v1, vs1, d1, ds1, p1, q1, rfl, rfl, rfl, h1, r1⟩ := trodAll_cons r0
  obtain ⟨rfl, rfl, rfl⟩ := trodAll_nil r1
  obtain rfl : args = #[v0, v1] := by cases args; simp_all
  obtain ⟨rfl, rfl⟩ := trodVars_none hV
  have k0 := h0
  have lt0 : ∀ x ∈ p0, x.block < W.heap.size := by obtain ⟨m, hm⟩ := k0; exact DataW.trod_lt m _ _ _ hm
  obtain ⟨a0, cap0, n0, rfl, hz0, hm0, hf0⟩ := tree_of (hval 0 24 v0 rfl rfl) h0
  have k1 := h1
  have lt1 : ∀ x ∈ p1, x.block < W.heap.size := by obtain ⟨m, hm⟩ := k1; exact DataW.trod_lt m _ _ _ hm
  obtain ⟨a1, rfl, ra1, ba1⟩ := open_laws_sty (hval 1 32 v1 rfl rfl)
  clear hA0 hval0
  refine (walk a0 cap0 n0 a1 ra1 ba1 W hz0 hm0 hf0).mono fun e W' ⟨he, bel⟩ => ?_
  subst he
  exact ⟨_, rfl, law_post (pa := _) (pv := []) hW' (trodAll_cons_mk (shut_bool Try.underlying4 _) trodAll_mk0) (trodAll_cons_mk (Below.trod laidOut (by kernel_rfl) (of_decide_eq_true (by kernel_rfl)) k0 bel lt0) (trodAll_cons_mk (Below.trod laidOut (by kernel_rfl) (of_decide_eq_true (by kernel_rfl)) k1 bel lt1) trodAll_mk0)) rfl rfl bel⟩

/-- The given statement. -/
theorem proved : Rows.FnExactAddNodeSaid :=
  OpenClaim.holds_of_wide 3 Try.f3 rfl rfl rfl rfl rfl rfl rfl ⟨rfl, rfl, rfl, rfl, rfl⟩ rfl rfl rfl rfl rfl (by kernel_rfl) Try.func3 (by kernel_rfl)
    (of_decide_eq_true (by kernel_rfl)) (by unfold Func.isWrapper; first | (rw [if_pos (by decide +kernel)]; kernel_rfl) | (rw [if_neg (by decide +kernel)]; exact ⟨rfl, rfl⟩))
    (fun os started H enc _ => lifted os started H enc)
#print axioms proved
end Go.Proofs.Ytglllfjggidhpaa.fnExactAddNode

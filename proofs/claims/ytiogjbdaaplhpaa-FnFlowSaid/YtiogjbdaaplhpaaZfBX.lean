import Derived.Deep.RegionWith
import Derived.Below
import Derived.Test.YtiogjbdaaplhpaaZfAD
import Derived.Test.YtiogjbdaaplhpaaZfAE
import Derived.Test.YtiogjbdaaplhpaaZfAT
import Derived.Test.YtiogjbdaaplhpaaZfBA
import Derived.Test.YtiogjbdaaplhpaaZfBB
import Derived.Test.YtiogjbdaaplhpaaZfBD
import Derived.Test.YtiogjbdaaplhpaaZfBE
import Derived.Test.YtiogjbdaaplhpaaZfBF
import Derived.Test.YtiogjbdaaplhpaaZfBG
import Derived.Test.YtiogjbdaaplhpaaZfBV
import Derived.Test.YtiogjbdaaplhpaaZfBW
section
namespace Go.Proofs.Ytiogjbdaaplhpaa.fnFlow
open Go.ChangeShapes Go.WideShapes Go.ChangeAt Go.RowKit
set_option linter.unusedVariables false
set_option linter.unusedSimpArgs false
set_option maxRecDepth 100000

set_option maxHeartbeats 8000000 in
theorem walk (a : Option Addr) (len cap : Nat) (w : World) (hl : len ≤ 1048576) (hc : Code w a len) :
    Calls Try.prog 5 #[.slice a len cap] w fun e w' => e = .returned (.bool true) ∧ Below w.heap.size w w' := by
  go_enter Try.func5, Try.ntmps5
  go_wp2_with (first | (go_at_call 34; refine (draw_flowkids a len cap w hl hc).mono ?_; rintro e w1 ⟨va, vc, ms, z, rfl, ho, hm1, hm2, hs, hz, b1⟩) | (go_at_call 12; go_in))
  clear hc
  have hT := hp_new w1 (.cells #[.slice va ms.length vc] 26)
  have ho1 := ho.below (bel_alloc w1 (.cells #[.slice va ms.length vc] 26))
  have B := b1.trans ((bel_alloc w1 (.cells #[.slice va ms.length vc] 26)).mono b1.size)
  obtain ⟨u, eu⟩ : ∃ u, u = w1.alloc (.cells #[.slice va ms.length vc] 26) := ⟨_, rfl⟩
  rw [← eu] at hT ho1 B ⊢
  clear eu ho b1
  obtain ⟨gt, egt⟩ : ∃ q, q = w1.heap.size := ⟨_, rfl⟩
  rw [← egt] at hT ⊢
  obtain ⟨a', c', e1, hN⟩ := ho1.nds
  obtain ⟨ns, ens⟩ : ∃ q, q = ms.map ND.n := ⟨_, rfl⟩
  have hnl : ns.length = ms.length := by rw [ens]; simp
  obtain ⟨b, off, rfl, hbl⟩ : ∃ b off, va = some ⟨b, off, none⟩ ∧ Nds u (some ⟨b, off, none⟩) ns := by
    simp only [Value.slice.injEq] at e1
    rw [← ens, ← e1.1] at hN
    rcases hN.2 with h0 | ⟨b, off, e2, _, _⟩
    · rw [h0] at hnl; simp at hnl; omega
    · exact ⟨b, off, e2, by rw [← e2]; exact hN⟩
  have hzI : I64 z := ⟨by omega, by omega⟩
  have hsz : szS ns ≤ 1048576 := by rw [ens]; omega
  have hnn : ns.length ≤ 1048576 := by omega
  obtain ⟨v, ev⟩ : ∃ q, q = u := ⟨_, rfl⟩
  rw [← ev] at hT B hbl ⊢
  have HN := Lib.hid hbl
  clear ev ho1 hN e1 ens egt hbl

  have K_if := Lib.hid (fun (w' : World) (h : Below v.heap.size v w') => by
    have := iflowkids (some ⟨b, off, none⟩) vc ns z w' (HN.out.below h) hsz hzI
    rwa [hnl] at this)
  have K_sf := Lib.hid (fun (w' : World) (h : Below v.heap.size v w') => by
    have := sflowkids (some ⟨b, off, none⟩) vc ns z w' (HN.out.below h) hsz hzI
    rwa [hnl] at this)
  have K_ia := Lib.hid (fun (w' : World) (h : Below v.heap.size v w') => by
    have := iapartkids (some ⟨b, off, none⟩) vc ns z w' (HN.out.below h) hsz hzI
    rwa [hnl] at this)
  have K_sa := Lib.hid (fun (w' : World) (h : Below v.heap.size v w') => by
    have := sapartkids (some ⟨b, off, none⟩) vc ns z w' (HN.out.below h) hsz hzI
    rwa [hnl] at this)
  have K_iu := Lib.hid (fun (w' : World) (h : Below v.heap.size v w') => by
    have := iallunder (some ⟨b, off, none⟩) vc ns z w' (HN.out.below h) hsz hzI
    rwa [hnl] at this)
  have K_su := Lib.hid (fun (w' : World) (h : Below v.heap.size v w') => by
    have := sallunder (some ⟨b, off, none⟩) vc ns z w' (HN.out.below h) hsz hzI
    rwa [hnl] at this)
  have K_ig := Lib.hid (fun (w' : World) (h : Below v.heap.size v w') => by
    have := iisgone (some ⟨b, off, none⟩) vc ns z w' (HN.out.below h) hsz hzI
    rwa [hnl] at this)
  have K_sg := Lib.hid (fun (w' : World) (h : Below v.heap.size v w') => by
    have := sisgone (some ⟨b, off, none⟩) vc ns z w' (HN.out.below h) hsz hzI
    rwa [hnl] at this)
  have K_ir := Lib.hid (fun (w' : World) (h : Below v.heap.size v w') => by
    have := irootof (some ⟨b, off, none⟩) vc ns z w' (HN.out.below h) hsz hzI
    rwa [hnl] at this)
  have K_sr := Lib.hid (fun (w' : World) (h : Below v.heap.size v w') => by
    have := srootof (some ⟨b, off, none⟩) vc ns z w' (HN.out.below h) hsz hzI
    rwa [hnl] at this)
  have K_ok := Lib.hid (fun (w' : World) (h : Below v.heap.size v w') => by
    have := streeok (some ⟨b, off, none⟩) vc ns w' (HN.out.below h) hsz
    rwa [hnl] at this)
  have HNL := Lib.hid hnl
  have hFA := flV_all ns z
  have hFL := flV_len ns z
  have hAA := apV_all ns z
  have hAL := apV_len ns z
  have hUA := auV_all ns z
  have hUL := auV_len ns z
  have HASC := Lib.hid (flV_asc ns z)
  have HNO := Lib.hid (fun h : (nIn ns.length z && treeB ns) = false => not_in h)
  have HCN := Lib.hid (fun (h1 : treeB ns = true) (h2 : nIn ns.length z = true) => flow_count h1 h2)
  have HFI := Lib.hid (fun (h1 : treeB ns = true) (h2 : nIn ns.length z = true) => flV_in h1 h2)
  have HRT := Lib.hid (fun (h1 : treeB ns = true) (h2 : nIn ns.length z = true) => rtZ_pos h1 h2)
  have HU0 := Lib.hid (fun (h1 : treeB ns = true) (h2 : nIn ns.length z = true) => (by unfold auV; rw [h1, h2]; exact ⟨_, rfl⟩ : ∃ R, auV ns z = z :: R))
  obtain ⟨FL, eFL⟩ : ∃ q, q = flV ns z := ⟨_, rfl⟩
  obtain ⟨AL, eAL⟩ : ∃ q, q = apV ns z := ⟨_, rfl⟩
  obtain ⟨UL, eUL⟩ : ∃ q, q = auV ns z := ⟨_, rfl⟩
  obtain ⟨gb, egb⟩ : ∃ q, q = goB ns z := ⟨_, rfl⟩
  obtain ⟨rt, ert⟩ : ∃ q, q = rtZ ns z := ⟨_, rfl⟩
  rw [← eFL] at K_if K_sf hFA hFL HASC HNO HCN HFI
  rw [← eAL] at K_ia K_sa hAA hAL HNO HCN
  rw [← eUL] at K_iu K_su hUA hUL HU0
  rw [← egb] at K_ig K_sg HNO
  rw [← ert] at K_ir K_sr HRT
  have HFA := Lib.hid hFA
  have HAA := Lib.hid hAA
  have HUA := Lib.hid hUA
  have HT0 := Lib.hid hT
  have HB0 := Lib.hid B
  have HEF := Lib.hid eFL
  have HEA := Lib.hid eAL
  clear eFL eAL eUL egb ert hFA hAA hUA hnl B
  have cT := c_of hT
  clear hT
  go_wp2_with (fail)
  refine (K_if.out v (Below.refl _ _)).mono ?_
  rintro e u1 ⟨v1, rfl, r1, b1⟩
  obtain ⟨fa, fc, rfl, hi1⟩ := r1.slice HFA.out
  clear r1 cT
  have cT := c_of (hp_below HT0.out b1)
  have HI1 := Lib.hid hi1
  have B1 := Lib.hid b1
  clear hi1 b1
  (try dsimp only)
  go_wp2_with (fail)
  refine (K_ia.out u1 B1.out).mono ?_
  rintro e u2 ⟨v2, rfl, r2, b2⟩
  obtain ⟨pa, pc, rfl, hi2⟩ := r2.slice HAA.out
  clear r2 cT
  have BV0 := Lib.hid (B1.out.trans (b2.mono B1.out.size))
  have HI1b := Lib.hid (HI1.out.below b2)
  have HI2 := Lib.hid hi2
  clear b2 hi2 B1 HI1
  -- from here on, all is told of u2

  replace K_if := Lib.hid (fun (w' : World) (h : Below u2.heap.size u2 w') => K_if.out w' (BV0.out.trans (h.mono BV0.out.size)))
  replace K_sf := Lib.hid (fun (w' : World) (h : Below u2.heap.size u2 w') => K_sf.out w' (BV0.out.trans (h.mono BV0.out.size)))
  replace K_ia := Lib.hid (fun (w' : World) (h : Below u2.heap.size u2 w') => K_ia.out w' (BV0.out.trans (h.mono BV0.out.size)))
  replace K_sa := Lib.hid (fun (w' : World) (h : Below u2.heap.size u2 w') => K_sa.out w' (BV0.out.trans (h.mono BV0.out.size)))
  replace K_iu := Lib.hid (fun (w' : World) (h : Below u2.heap.size u2 w') => K_iu.out w' (BV0.out.trans (h.mono BV0.out.size)))
  replace K_su := Lib.hid (fun (w' : World) (h : Below u2.heap.size u2 w') => K_su.out w' (BV0.out.trans (h.mono BV0.out.size)))
  replace K_ig := Lib.hid (fun (w' : World) (h : Below u2.heap.size u2 w') => K_ig.out w' (BV0.out.trans (h.mono BV0.out.size)))
  replace K_sg := Lib.hid (fun (w' : World) (h : Below u2.heap.size u2 w') => K_sg.out w' (BV0.out.trans (h.mono BV0.out.size)))
  replace K_ir := Lib.hid (fun (w' : World) (h : Below u2.heap.size u2 w') => K_ir.out w' (BV0.out.trans (h.mono BV0.out.size)))
  replace K_sr := Lib.hid (fun (w' : World) (h : Below u2.heap.size u2 w') => K_sr.out w' (BV0.out.trans (h.mono BV0.out.size)))
  replace K_ok := Lib.hid (fun (w' : World) (h : Below u2.heap.size u2 w') => K_ok.out w' (BV0.out.trans (h.mono BV0.out.size)))
  have HN2 := Lib.hid (HN.out.below BV0.out)
  have HT := Lib.hid (fun (w' : World) (h : Below u2.heap.size u2 w') => hp_below (hp_below HT0.out BV0.out) h)
  have HB := Lib.hid (HB0.out.trans (BV0.out.mono HB0.out.size))
  clear HN HT0 HB0 BV0 K_if K_ia
  obtain ⟨v0, rfl⟩ : ∃ q : World, q = v := ⟨_, rfl⟩
  obtain ⟨v, rfl⟩ : ∃ q : World, q = u2 := ⟨_, rfl⟩
  have HF := Lib.hid (fun (w' : World) (h : Below v.heap.size v w') => HI1b.out.below h)
  have HA := Lib.hid (fun (w' : World) (h : Below v.heap.size v w') => HI2.out.below h)
  clear HI1b HI2
  have hw0 : (gb != gb) = false := by simp
  have hw1 : (rt != rt) = false := by simp
  (try dsimp only)
  go_wp2_with (fail)

  refine wp_region_held_drew (S := fun w' => Below v.heap.size v w') (by kernel_rfl) (Below.refl _ _).drew (fun HS => ?_)
  refine wpAnyH_take (i := 0) (oi := ⟨some 24, Op.move (Operand.tmp 5), _, _, _, _⟩) (v := .slice fa FL.length fc) rfl (by kernel_rfl) (by kernel_rfl) (by kernel_rfl) (fun _ _ _ h => h) (Or.inl ⟨by rfl, fun W hW => by rfl⟩) HS ?_
  simp only [World.size_alloc, Act.put, List.setIfInBounds_toArray, List.set_cons_succ, List.set_cons_zero]
  refine wpAnyH_take (i := 1) (oi := ⟨some 25, Op.load 26 (Operand.tmp 3), _, _, _, _⟩) (v := .agg #[.slice (some ⟨b, off, none⟩) ms.length vc]) rfl (by kernel_rfl) (by kernel_rfl) (by kernel_rfl) (fun _ _ _ h => h) (yields_row rfl rfl rfl tr_under (tr_size _) (fun w' hw' => HT.out w' hw')) HS ?_
  simp only [World.size_alloc, Act.put, List.setIfInBounds_toArray, List.set_cons_succ, List.set_cons_zero]
  refine wpAnyH_take (i := 2) (oi := ⟨some 26, Op.move (Operand.tmp 4), _, _, _, _⟩) (v := .int .i64 z) rfl (by kernel_rfl) (by kernel_rfl) (by kernel_rfl) (fun _ _ _ h => h) (Or.inl ⟨by rfl, fun W hW => by rfl⟩) HS ?_
  simp only [World.size_alloc, Act.put, List.setIfInBounds_toArray, List.set_cons_succ, List.set_cons_zero]
  refine anyH_1 3 rfl (by kernel_rfl) rfl ?_
  go_wp2_with (fail)
  refine (K_sf.out _ HS).mono ?_
  rintro e eq ⟨v1, rfl, r1, bq⟩
  obtain ⟨q1, q2, rfl, hi1⟩ := r1.slice HFA.out
  clear r1
  (try dsimp only)
  have HSo := HS
  replace HS := HS.trans (bq.mono HS.size)
  refine ⟨HS, ?_⟩
  clear bq HSo
  refine anyH_1 4 rfl (by kernel_rfl) rfl ?_
  go_wp2_with (fail)
  refine (same_any _ _ _ _ _ _ _ (HF.out _ HS) (hi1) (by omega)).mono ?_
  rintro e eq ⟨rfl, bq⟩
  (try dsimp only)
  have HSo := HS
  replace HS := HS.trans (bq.mono HS.size)
  refine ⟨HS, ?_⟩
  clear bq HSo
  clear hi1
  refine wpAnyH_take (i := 5) (oi := ⟨some 29, Op.unOp UnOp.not 4 (Operand.tmp 28), _, _, _, _⟩) (v := .bool false) rfl (by kernel_rfl) (by kernel_rfl) (by kernel_rfl) (fun _ _ _ h => h) (Or.inl ⟨by rfl, fun W hW => by clear hW; go_simp <;> with_reducible rfl⟩) HS ?_
  simp only [World.size_alloc, Act.put, List.setIfInBounds_toArray, List.set_cons_succ, List.set_cons_zero]
  refine wpAnyH_take (i := 6) (oi := ⟨some 30, Op.move (Operand.tmp 29), _, _, _, _⟩) (v := .bool false) rfl (by kernel_rfl) (by kernel_rfl) (by kernel_rfl) (fun _ _ _ h => h) (Or.inl ⟨by rfl, fun W hW => by rfl⟩) HS ?_
  simp only [World.size_alloc, Act.put, List.setIfInBounds_toArray, List.set_cons_succ, List.set_cons_zero]
  refine wpAnyH_take (i := 7) (oi := ⟨some 31, Op.move (Operand.tmp 6), _, _, _, _⟩) (v := .slice pa AL.length pc) rfl (by kernel_rfl) (by kernel_rfl) (by kernel_rfl) (fun _ _ _ h => h) (Or.inl ⟨by rfl, fun W hW => by rfl⟩) HS ?_
  simp only [World.size_alloc, Act.put, List.setIfInBounds_toArray, List.set_cons_succ, List.set_cons_zero]
  refine wpAnyH_take (i := 8) (oi := ⟨some 32, Op.load 26 (Operand.tmp 3), _, _, _, _⟩) (v := .agg #[.slice (some ⟨b, off, none⟩) ms.length vc]) rfl (by kernel_rfl) (by kernel_rfl) (by kernel_rfl) (fun _ _ _ h => h) (yields_row rfl rfl rfl tr_under (tr_size _) (fun w' hw' => HT.out w' hw')) HS ?_
  simp only [World.size_alloc, Act.put, List.setIfInBounds_toArray, List.set_cons_succ, List.set_cons_zero]
  refine wpAnyH_take (i := 9) (oi := ⟨some 33, Op.move (Operand.tmp 4), _, _, _, _⟩) (v := .int .i64 z) rfl (by kernel_rfl) (by kernel_rfl) (by kernel_rfl) (fun _ _ _ h => h) (Or.inl ⟨by rfl, fun W hW => by rfl⟩) HS ?_
  simp only [World.size_alloc, Act.put, List.setIfInBounds_toArray, List.set_cons_succ, List.set_cons_zero]
  refine anyH_1 10 rfl (by kernel_rfl) rfl ?_
  go_wp2_with (fail)
  refine (K_sa.out _ HS).mono ?_
  rintro e eq ⟨v2, rfl, r2, bq⟩
  obtain ⟨q3, q4, rfl, hi2⟩ := r2.slice HAA.out
  clear r2
  (try dsimp only)
  have HSo := HS
  replace HS := HS.trans (bq.mono HS.size)
  refine ⟨HS, ?_⟩
  clear bq HSo
  refine anyH_1 11 rfl (by kernel_rfl) rfl ?_
  go_wp2_with (fail)
  refine (same_any _ _ _ _ _ _ _ (HA.out _ HS) (hi2) (by omega)).mono ?_
  rintro e eq ⟨rfl, bq⟩
  (try dsimp only)
  have HSo := HS
  replace HS := HS.trans (bq.mono HS.size)
  refine ⟨HS, ?_⟩
  clear bq HSo
  clear hi2
  refine wpAnyH_take (i := 12) (oi := ⟨some 36, Op.unOp UnOp.not 4 (Operand.tmp 35), _, _, _, _⟩) (v := .bool false) rfl (by kernel_rfl) (by kernel_rfl) (by kernel_rfl) (fun _ _ _ h => h) (Or.inl ⟨by rfl, fun W hW => by clear hW; go_simp <;> with_reducible rfl⟩) HS ?_
  simp only [World.size_alloc, Act.put, List.setIfInBounds_toArray, List.set_cons_succ, List.set_cons_zero]
  refine wpAnyH_take (i := 13) (oi := ⟨some 37, Op.pick (Operand.tmp 30) (Operand.const (.bool true)) (Operand.tmp 36), _, _, _, _⟩) (v := .bool false) rfl (by kernel_rfl) (by kernel_rfl) (by kernel_rfl) (fun _ _ _ h => h) (Or.inl ⟨by rfl, fun W hW => by clear hW; go_simp <;> with_reducible rfl⟩) HS ?_
  simp only [World.size_alloc, Act.put, List.setIfInBounds_toArray, List.set_cons_succ, List.set_cons_zero]
  refine wpAnyH_take (i := 14) (oi := ⟨some 38, Op.move (Operand.tmp 37), _, _, _, _⟩) (v := .bool false) rfl (by kernel_rfl) (by kernel_rfl) (by kernel_rfl) (fun _ _ _ h => h) (Or.inl ⟨by rfl, fun W hW => by rfl⟩) HS ?_
  simp only [World.size_alloc, Act.put, List.setIfInBounds_toArray, List.set_cons_succ, List.set_cons_zero]
  refine wpAnyH_take (i := 15) (oi := ⟨some 39, Op.load 26 (Operand.tmp 3), _, _, _, _⟩) (v := .agg #[.slice (some ⟨b, off, none⟩) ms.length vc]) rfl (by kernel_rfl) (by kernel_rfl) (by kernel_rfl) (fun _ _ _ h => h) (yields_row rfl rfl rfl tr_under (tr_size _) (fun w' hw' => HT.out w' hw')) HS ?_
  simp only [World.size_alloc, Act.put, List.setIfInBounds_toArray, List.set_cons_succ, List.set_cons_zero]
  refine wpAnyH_take (i := 16) (oi := ⟨some 40, Op.move (Operand.tmp 4), _, _, _, _⟩) (v := .int .i64 z) rfl (by kernel_rfl) (by kernel_rfl) (by kernel_rfl) (fun _ _ _ h => h) (Or.inl ⟨by rfl, fun W hW => by rfl⟩) HS ?_
  simp only [World.size_alloc, Act.put, List.setIfInBounds_toArray, List.set_cons_succ, List.set_cons_zero]
  refine wpAnyH_take (i := 18) (oi := ⟨some 42, Op.load 26 (Operand.tmp 3), _, _, _, _⟩) (v := .agg #[.slice (some ⟨b, off, none⟩) ms.length vc]) rfl (by kernel_rfl) (by kernel_rfl) (by kernel_rfl) (fun _ _ _ h => h) (yields_row rfl rfl rfl tr_under (tr_size _) (fun w' hw' => HT.out w' hw')) HS ?_
  simp only [World.size_alloc, Act.put, List.setIfInBounds_toArray, List.set_cons_succ, List.set_cons_zero]
  refine wpAnyH_take (i := 19) (oi := ⟨some 43, Op.move (Operand.tmp 4), _, _, _, _⟩) (v := .int .i64 z) rfl (by kernel_rfl) (by kernel_rfl) (by kernel_rfl) (fun _ _ _ h => h) (Or.inl ⟨by rfl, fun W hW => by rfl⟩) HS ?_
  simp only [World.size_alloc, Act.put, List.setIfInBounds_toArray, List.set_cons_succ, List.set_cons_zero]
  refine anyH_1 17 rfl (by kernel_rfl) rfl ?_
  go_wp2_with (fail)
  refine (K_iu.out _ HS).mono ?_
  rintro e eq ⟨v3, rfl, r3, bq⟩
  obtain ⟨q5, q6, rfl, hi3⟩ := r3.slice HUA.out
  clear r3
  (try dsimp only)
  have HSo := HS
  replace HS := HS.trans (bq.mono HS.size)
  refine ⟨HS, ?_⟩
  clear bq HSo
  refine anyH_1 20 rfl (by kernel_rfl) rfl ?_
  go_wp2_with (fail)
  refine (K_su.out _ HS).mono ?_
  rintro e eq ⟨v4, rfl, r4, bq⟩
  obtain ⟨q7, q8, rfl, hi4⟩ := r4.slice HUA.out
  clear r4
  (try dsimp only)
  have HSo := HS
  replace HS := HS.trans (bq.mono HS.size)
  refine ⟨HS, ?_⟩
  replace hi3 := hi3.below bq
  clear bq HSo
  refine anyH_1 21 rfl (by kernel_rfl) rfl ?_
  go_wp2_with (fail)
  refine (same_any _ _ _ _ _ _ _ (hi3) (hi4) (by omega)).mono ?_
  rintro e eq ⟨rfl, bq⟩
  (try dsimp only)
  have HSo := HS
  replace HS := HS.trans (bq.mono HS.size)
  refine ⟨HS, ?_⟩
  clear bq HSo
  clear hi3 hi4
  refine wpAnyH_take (i := 22) (oi := ⟨some 46, Op.unOp UnOp.not 4 (Operand.tmp 45), _, _, _, _⟩) (v := .bool false) rfl (by kernel_rfl) (by kernel_rfl) (by kernel_rfl) (fun _ _ _ h => h) (Or.inl ⟨by rfl, fun W hW => by clear hW; go_simp <;> with_reducible rfl⟩) HS ?_
  simp only [World.size_alloc, Act.put, List.setIfInBounds_toArray, List.set_cons_succ, List.set_cons_zero]
  refine wpAnyH_take (i := 23) (oi := ⟨some 47, Op.pick (Operand.tmp 38) (Operand.const (.bool true)) (Operand.tmp 46), _, _, _, _⟩) (v := .bool false) rfl (by kernel_rfl) (by kernel_rfl) (by kernel_rfl) (fun _ _ _ h => h) (Or.inl ⟨by rfl, fun W hW => by clear hW; go_simp <;> with_reducible rfl⟩) HS ?_
  simp only [World.size_alloc, Act.put, List.setIfInBounds_toArray, List.set_cons_succ, List.set_cons_zero]
  refine wpAnyH_take (i := 24) (oi := ⟨some 48, Op.move (Operand.tmp 47), _, _, _, _⟩) (v := .bool false) rfl (by kernel_rfl) (by kernel_rfl) (by kernel_rfl) (fun _ _ _ h => h) (Or.inl ⟨by rfl, fun W hW => by rfl⟩) HS ?_
  simp only [World.size_alloc, Act.put, List.setIfInBounds_toArray, List.set_cons_succ, List.set_cons_zero]
  refine wpAnyH_take (i := 25) (oi := ⟨some 49, Op.load 26 (Operand.tmp 3), _, _, _, _⟩) (v := .agg #[.slice (some ⟨b, off, none⟩) ms.length vc]) rfl (by kernel_rfl) (by kernel_rfl) (by kernel_rfl) (fun _ _ _ h => h) (yields_row rfl rfl rfl tr_under (tr_size _) (fun w' hw' => HT.out w' hw')) HS ?_
  simp only [World.size_alloc, Act.put, List.setIfInBounds_toArray, List.set_cons_succ, List.set_cons_zero]
  refine wpAnyH_take (i := 26) (oi := ⟨some 50, Op.move (Operand.tmp 4), _, _, _, _⟩) (v := .int .i64 z) rfl (by kernel_rfl) (by kernel_rfl) (by kernel_rfl) (fun _ _ _ h => h) (Or.inl ⟨by rfl, fun W hW => by rfl⟩) HS ?_
  simp only [World.size_alloc, Act.put, List.setIfInBounds_toArray, List.set_cons_succ, List.set_cons_zero]
  refine wpAnyH_take (i := 28) (oi := ⟨some 52, Op.load 26 (Operand.tmp 3), _, _, _, _⟩) (v := .agg #[.slice (some ⟨b, off, none⟩) ms.length vc]) rfl (by kernel_rfl) (by kernel_rfl) (by kernel_rfl) (fun _ _ _ h => h) (yields_row rfl rfl rfl tr_under (tr_size _) (fun w' hw' => HT.out w' hw')) HS ?_
  simp only [World.size_alloc, Act.put, List.setIfInBounds_toArray, List.set_cons_succ, List.set_cons_zero]
  refine wpAnyH_take (i := 29) (oi := ⟨some 53, Op.move (Operand.tmp 4), _, _, _, _⟩) (v := .int .i64 z) rfl (by kernel_rfl) (by kernel_rfl) (by kernel_rfl) (fun _ _ _ h => h) (Or.inl ⟨by rfl, fun W hW => by rfl⟩) HS ?_
  simp only [World.size_alloc, Act.put, List.setIfInBounds_toArray, List.set_cons_succ, List.set_cons_zero]
  refine anyH_1 27 rfl (by kernel_rfl) rfl ?_
  go_wp2_with (fail)
  refine (K_ig.out _ HS).mono ?_
  rintro e eq ⟨rfl, bq⟩
  (try dsimp only)
  have HSo := HS
  replace HS := HS.trans (bq.mono HS.size)
  refine ⟨HS, ?_⟩
  clear bq HSo
  refine anyH_1 30 rfl (by kernel_rfl) rfl ?_
  go_wp2_with (fail)
  refine (K_sg.out _ HS).mono ?_
  rintro e eq ⟨rfl, bq⟩
  (try dsimp only)
  have HSo := HS
  replace HS := HS.trans (bq.mono HS.size)
  refine ⟨HS, ?_⟩
  clear bq HSo
  refine wpAnyH_take (i := 31) (oi := ⟨some 55, Op.binOp .neq 4 (Operand.tmp 51) (Operand.tmp 54) 4, _, _, _, _⟩) (v := .bool false) rfl (by kernel_rfl) (by kernel_rfl) (by kernel_rfl) (fun _ _ _ h => h) (Or.inl ⟨by rfl, fun W hW => by clear hW; go_simp <;> with_reducible rfl⟩) HS ?_
  simp only [World.size_alloc, Act.put, List.setIfInBounds_toArray, List.set_cons_succ, List.set_cons_zero]
  refine wpAnyH_take (i := 32) (oi := ⟨some 56, Op.pick (Operand.tmp 48) (Operand.const (.bool true)) (Operand.tmp 55), _, _, _, _⟩) (v := .bool false) rfl (by kernel_rfl) (by kernel_rfl) (by kernel_rfl) (fun _ _ _ h => h) (Or.inl ⟨by rfl, fun W hW => by clear hW; go_simp <;> with_reducible rfl⟩) HS ?_
  simp only [World.size_alloc, Act.put, List.setIfInBounds_toArray, List.set_cons_succ, List.set_cons_zero]
  refine wpAnyH_take (i := 33) (oi := ⟨some 57, Op.move (Operand.tmp 56), _, _, _, _⟩) (v := .bool false) rfl (by kernel_rfl) (by kernel_rfl) (by kernel_rfl) (fun _ _ _ h => h) (Or.inl ⟨by rfl, fun W hW => by rfl⟩) HS ?_
  simp only [World.size_alloc, Act.put, List.setIfInBounds_toArray, List.set_cons_succ, List.set_cons_zero]
  refine wpAnyH_take (i := 34) (oi := ⟨some 58, Op.load 26 (Operand.tmp 3), _, _, _, _⟩) (v := .agg #[.slice (some ⟨b, off, none⟩) ms.length vc]) rfl (by kernel_rfl) (by kernel_rfl) (by kernel_rfl) (fun _ _ _ h => h) (yields_row rfl rfl rfl tr_under (tr_size _) (fun w' hw' => HT.out w' hw')) HS ?_
  simp only [World.size_alloc, Act.put, List.setIfInBounds_toArray, List.set_cons_succ, List.set_cons_zero]
  refine wpAnyH_take (i := 35) (oi := ⟨some 59, Op.move (Operand.tmp 4), _, _, _, _⟩) (v := .int .i64 z) rfl (by kernel_rfl) (by kernel_rfl) (by kernel_rfl) (fun _ _ _ h => h) (Or.inl ⟨by rfl, fun W hW => by rfl⟩) HS ?_
  simp only [World.size_alloc, Act.put, List.setIfInBounds_toArray, List.set_cons_succ, List.set_cons_zero]
  refine wpAnyH_take (i := 37) (oi := ⟨some 61, Op.load 26 (Operand.tmp 3), _, _, _, _⟩) (v := .agg #[.slice (some ⟨b, off, none⟩) ms.length vc]) rfl (by kernel_rfl) (by kernel_rfl) (by kernel_rfl) (fun _ _ _ h => h) (yields_row rfl rfl rfl tr_under (tr_size _) (fun w' hw' => HT.out w' hw')) HS ?_
  simp only [World.size_alloc, Act.put, List.setIfInBounds_toArray, List.set_cons_succ, List.set_cons_zero]
  refine wpAnyH_take (i := 38) (oi := ⟨some 62, Op.move (Operand.tmp 4), _, _, _, _⟩) (v := .int .i64 z) rfl (by kernel_rfl) (by kernel_rfl) (by kernel_rfl) (fun _ _ _ h => h) (Or.inl ⟨by rfl, fun W hW => by rfl⟩) HS ?_
  simp only [World.size_alloc, Act.put, List.setIfInBounds_toArray, List.set_cons_succ, List.set_cons_zero]
  refine anyH_1 36 rfl (by kernel_rfl) rfl ?_
  go_wp2_with (fail)
  refine (K_ir.out _ HS).mono ?_
  rintro e eq ⟨rfl, bq⟩
  (try dsimp only)
  have HSo := HS
  replace HS := HS.trans (bq.mono HS.size)
  refine ⟨HS, ?_⟩
  clear bq HSo
  refine anyH_1 39 rfl (by kernel_rfl) rfl ?_
  go_wp2_with (fail)
  refine (K_sr.out _ HS).mono ?_
  rintro e eq ⟨rfl, bq⟩
  (try dsimp only)
  have HSo := HS
  replace HS := HS.trans (bq.mono HS.size)
  refine ⟨HS, ?_⟩
  clear bq HSo
  refine wpAnyH_take (i := 40) (oi := ⟨some 64, Op.binOp .neq 3 (Operand.tmp 60) (Operand.tmp 63) 3, _, _, _, _⟩) (v := .bool false) rfl (by kernel_rfl) (by kernel_rfl) (by kernel_rfl) (fun _ _ _ h => h) (Or.inl ⟨by rfl, fun W hW => by clear hW; go_simp <;> with_reducible rfl⟩) HS ?_
  simp only [World.size_alloc, Act.put, List.setIfInBounds_toArray, List.set_cons_succ, List.set_cons_zero]
  refine wpAnyH_take (i := 41) (oi := ⟨some 65, Op.pick (Operand.tmp 57) (Operand.const (.bool true)) (Operand.tmp 64), _, _, _, _⟩) (v := .bool false) rfl (by kernel_rfl) (by kernel_rfl) (by kernel_rfl) (fun _ _ _ h => h) (Or.inl ⟨by rfl, fun W hW => by clear hW; go_simp <;> with_reducible rfl⟩) HS ?_
  simp only [World.size_alloc, Act.put, List.setIfInBounds_toArray, List.set_cons_succ, List.set_cons_zero]
  refine wpAnyH_done (by kernel_rfl) ?_ _
  have hF0 := HF.out v (Below.refl _ _)
  have hT0 := HT.out v (Below.refl _ _)
  have hN0 := HN2.out
  have hB0 := HB.out
  have hnl0 := HNL.out
  have e1 := HEF.out
  have e2 := HEA.out
  clear HF HT HN2 HB HNL HEF HEA K_sf K_sa K_iu K_su K_ig K_sg K_ir K_sr K_ok HASC HNO HCN HFI HRT HU0 HFA HAA HUA HA
  subst e1 e2
  go_step
  go_step
  go_step
  go_step
  go_step
  go_step
  exact part2 a len cap w v _ ms ns b off vc gt z fa pa fc pc _ _ _ _ _ _ _ _ _ _ _ _ _ _ _ _ _ _ _ _ _ _ _ _ _ _ _ _ _ _ _ _ _ _ _ _ _ _ _ _ _ _ _ _ _ _ _ _ _ _ _ _ _ _ _ _ _ _ _ _ _ _ _ _ _ _ _ _ _ _ _ _ _ _ _ _ _ _ _ _ _ _ _ _ _ _ _ _ _ _ _ _ _ _ _ _ _ _ _ _ _ _ _ _ _ _ _ _ _ _ _ _ _ _ _ _ _ _ _ _ _ _ _ _ _ _ _ _ _ _ _ _ _ _ _ _ _ _ _ _ _ _ _ _ _ _ _ _ _ _ _ _ _ _ _ _ _ _ _ _ _ _ _ _ _ _ _ _ _ _ _ _ _ _ _ _ _ _ _ hT0 hN0 hnl0 hsz hzI hnn hm2 hB0 hF0 HS

set_option maxRecDepth 100000 in
theorem walk_big (a : Option Addr) (len cap : Nat) (w : World) (hl : 1048576 < len) (hm : len ≤ 9223372036854775807) :
    Calls Try.prog 5 #[.slice a len cap] w fun e w' => e = .returned (.bool true) ∧ Below w.heap.size w w' := by
  go_enter Try.func5, Try.ntmps5
  go_wp2
  go_ret
  exact ⟨rfl, Below.refl _ _⟩

theorem laidOut : laidOutB Try.prog = true := by kernel_rfl

theorem contract (H : Type) (enc : TypeId × Value → H) (W : World) (base : Nat) (args : Array Value) (ds gs : List (DataW H)) (before : List MemPlace)
    (hval : ∀ (j : Nat) t v, Try.f5.params[j]? = some t → args[j]? = some v → Value.okWide Try.prog W .any base t v)
    (hW : DataW.Whole enc Try.prog Try.f5.params.toList Rows.fnFlowSpec.vars false W args.toList ds gs before) :
    Calls Try.prog 5 args W fun e W' => ∃ v, e = .returned v ∧ Rows.fnFlowSpec.post enc Try.prog Try.f5 false true false false W args v W' := by
  have hW' := hW
  obtain ⟨p, q, hA0, hV, rfl, hfz, hnd⟩ := hW
  have hA : DataW.TrodAll enc Try.prog W 0 (fun _ => true) true Try.f5.params.toList args.toList ds p := hA0
  rw [Try.params5] at hA hval
  obtain ⟨v0, vs0, d0, ds0, p0, q0, hargs, rfl, rfl, h0, r0⟩ := trodAll_cons hA
  obtain ⟨rfl, rfl, rfl⟩ := trodAll_nil r0
  obtain rfl : args = #[v0] := by cases args; simp_all
  obtain ⟨rfl, rfl⟩ := trodVars_none hV
  obtain ⟨a, len, cap, rfl⟩ := okWide_slice Try.underlying22 (hval 0 22 v0 rfl rfl)
  have lt0 : ∀ x ∈ p0, x.block < W.heap.size := by obtain ⟨m, hm⟩ := h0; exact DataW.trod_lt m _ _ _ hm
  obtain ⟨hc, hm⟩ := code_of h0
  have all : Calls Try.prog 5 #[.slice a len cap] W fun e w' => e = .returned (.bool true) ∧ Below W.heap.size W w' := by
    by_cases hl : len ≤ 1048576
    · exact walk a len cap W hl hc
    · exact walk_big a len cap W (by omega) hm
  refine all.mono fun e W' ⟨he, bel⟩ => ?_
  subst he
  exact ⟨_, rfl, law_post (pa := _) (pv := []) hW' (trodAll_cons_mk (shut_bool Try.underlying4 _) trodAll_mk0) (trodAll_cons_mk (Below.trod laidOut (by kernel_rfl) (of_decide_eq_true (by kernel_rfl)) h0 bel lt0) trodAll_mk0) rfl rfl bel⟩


set_option maxRecDepth 100000 in
theorem lifted (os : Os) (started : os.Started) (H : Type) (enc : TypeId × Value → H) :
    ReturnsInHanded {} Try.checked os 5 .any (Rows.fnFlowSpec.pre6 enc Try.prog Try.f5 Rows.fnFlowRow.domain false) (Rows.fnFlowSpec.post enc Try.prog Try.f5 false true false false) := by
  refine returnsInHanded_of_change (C := Try.checked) own started (by kernel_rfl) Try.func5
    (ChangeSpec.witness6 (enc := enc) (C := Try.checked) false ⟨#[], #[.slice none 0 0], []⟩ 8 (by kernel_rfl) (by kernel_rfl) (by kernel_rfl) (by kernel_rfl)) ?_
  intro W base args ds gs before hval hW _ _
  exact contract H enc W base args ds gs before hval hW

/-- The given statement. -/
theorem proved : Rows.FnFlowSaid :=
  OpenClaim.holds_of_wide 5 Try.f5 rfl rfl rfl rfl rfl rfl rfl ⟨rfl, rfl, rfl, rfl, rfl⟩ rfl rfl rfl rfl rfl (by kernel_rfl) Try.func5 (by kernel_rfl)
    (of_decide_eq_true (by kernel_rfl)) (by unfold Func.isWrapper; first | (rw [if_pos (by decide +kernel)]; kernel_rfl) | (rw [if_neg (by decide +kernel)]; exact ⟨rfl, rfl⟩))
    (fun os started H enc _ => lifted os started H enc)
#print axioms proved
end Go.Proofs.Ytiogjbdaaplhpaa.fnFlow
end

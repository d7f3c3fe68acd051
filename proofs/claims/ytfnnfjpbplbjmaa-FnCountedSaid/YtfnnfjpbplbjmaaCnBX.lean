import Derived.Deep.RegionWith
import Derived.Below
import Derived.Test.YtfnnfjpbplbjmaaCnAF
import Derived.Test.YtfnnfjpbplbjmaaCnBC
import Derived.Test.YtfnnfjpbplbjmaaCnBE
import Derived.Test.YtfnnfjpbplbjmaaCnBF
import Derived.Test.YtfnnfjpbplbjmaaCnBG
import Derived.Test.YtfnnfjpbplbjmaaCnBW
section
namespace Go.Proofs.Ytfnnfjpbplbjmaa.fnCounted
open Go.ChangeShapes Go.WideShapes Go.ChangeAt Go.RowKit
set_option linter.unusedVariables false
set_option linter.unusedSimpArgs false
set_option maxRecDepth 100000

set_option maxHeartbeats 4000000 in
theorem walk (a : Option Addr) (len cap : Nat) (w : World) (hl : len ≤ 1048576) (hc : Code w a len) :
    Calls Try.prog 6 #[.slice a len cap] w fun e w' => e = .returned (.bool true) ∧ Below w.heap.size w w' := by
  go_enter Try.func6, Try.ntmps6
  go_wp2_with (first | (go_at_call 46; refine (draw_allunder a len cap w hl hc).mono ?_; rintro e w1 ⟨va, vc, ms, z, rfl, ho, hm1, hm2, hs, hz, b1⟩) | (go_at_call 12; go_in))
  clear hc
  have hT := hp_new w1 (.cells #[.slice va ms.length vc] 26)
  have ho1 := ho.below (bel_alloc w1 (.cells #[.slice va ms.length vc] 26))
  have B := b1.trans ((bel_alloc w1 (.cells #[.slice va ms.length vc] 26)).mono b1.size)
  obtain ⟨u, eu⟩ : ∃ u, u = w1.alloc (.cells #[.slice va ms.length vc] 26) := ⟨_, rfl⟩
  rw [← eu] at hT ho1 B ⊢
  clear eu ho b1
  obtain ⟨gt, egt⟩ : ∃ q, q = w1.heap.size := ⟨_, rfl⟩
  rw [← egt] at hT ⊢
  obtain ⟨a', c', e1, hN⟩ := ho1.nds
  obtain ⟨ns, ens⟩ : ∃ q, q = ms.map ND.n := ⟨_, rfl⟩
  have hnl : ns.length = ms.length := by rw [ens]; simp
  obtain ⟨b, off, rfl, hbl⟩ : ∃ b off, va = some ⟨b, off, none⟩ ∧ Nds u (some ⟨b, off, none⟩) ns := by
    simp only [Value.slice.injEq] at e1
    rw [← ens, ← e1.1] at hN
    rcases hN.2 with h0 | ⟨b, off, e2, _, _⟩
    · rw [h0] at hnl; simp at hnl; omega
    · exact ⟨b, off, e2, by rw [← e2]; exact hN⟩
  have hzI : I64 z := ⟨by omega, by omega⟩
  have hsz : szS ns ≤ 1048576 := by rw [ens]; omega
  have hnn : ns.length ≤ 1048576 := by omega
  have HN := Lib.hid hbl
  have k1 := fun (w' : World) (h : Below u.heap.size u w') => by
    have := iallunder (some ⟨b, off, none⟩) vc ns z w' (HN.out.below h) hsz hzI
    rwa [hnl] at this
  have k2 := fun (w' : World) (h : Below u.heap.size u w') => by
    have := sallunder (some ⟨b, off, none⟩) vc ns z w' (HN.out.below h) hsz hzI
    rwa [hnl] at this
  have K1 := Lib.hid k1
  have K2 := Lib.hid k2
  have KA0 := Lib.hid (fun (y : Int) (hy : I64 y) (w' : World) (h : Below u.heap.size u w') => by
    have := iallunder (some ⟨b, off, none⟩) vc ns y w' (HN.out.below h) hsz hy
    rwa [hnl] at this)
  have KU0 := Lib.hid (fun (y : Int) (hy : I64 y) (w' : World) (h : Below u.heap.size u w') => by
    have := sisunder (some ⟨b, off, none⟩) vc ns y z w' (HN.out.below h) hnn hy
    rwa [hnl] at this)
  have HUN := Lib.hid (auV_under ns z)
  have hLA := auV_all ns z
  have hLL := auV_len ns z
  have HKS := Lib.hid (fun (h : (auV ns z) ≠ []) => by
    unfold auV at h
    by_cases hq : (nIn ns.length z && treeB ns) = true
    · exact (Bool.and_eq_true_iff.1 hq)
    · rw [if_neg hq] at h; exact absurd rfl h : (auV ns z) ≠ [] → nIn ns.length z = true ∧ treeB ns = true)
  have HSA := Lib.hid (fun (h1 : nIn ns.length z = true) (h2 : treeB ns = true) => smF_all h2 h1)
  obtain ⟨L, eL⟩ : ∃ q, q = auV ns z := ⟨_, rfl⟩
  rw [← eL] at K1 K2 HUN hLA hLL HKS HSA
  have HLA := Lib.hid hLA
  have HT0 := Lib.hid hT
  have HB0 := Lib.hid B
  have HNL := Lib.hid hnl
  clear eL ens e1 hN hbl ho1 k1 k2 hLA hnl egt B
  have cT := c_of hT
  clear hT
  go_wp2_with (fail)
  refine (K1.out u (Below.refl _ _)).mono ?_
  rintro e u1 ⟨v1, rfl, r1, b1⟩
  obtain ⟨aa, ac, rfl, hi1⟩ := r1.slice HLA.out
  clear r1 cT
  have cT := c_of (hp_below HT0.out b1)
  have HI1 := Lib.hid hi1
  have B1 := Lib.hid b1
  clear hi1 b1
  (try dsimp only)
  go_wp2_with (fail)
  refine (K2.out u1 B1.out).mono ?_
  rintro e u2 ⟨v2, rfl, r2, b2⟩
  obtain ⟨ab, bc, rfl, hi2⟩ := r2.slice HLA.out
  clear r2 cT
  have HI2 := Lib.hid hi2
  have HI1b := Lib.hid (HI1.out.below b2)
  have B2 := Lib.hid (B1.out.trans (b2.mono B1.out.size))
  clear hi2 b2
  (try dsimp only)
  go_wp2_with (fail)
  refine (same_any aa ab L.length ac bc L u2 HI1b.out HI2.out (by omega)).mono ?_
  rintro e u3 ⟨rfl, b3⟩
  have B3 := Lib.hid (B2.out.trans (b3.mono B2.out.size))
  have HI3 := Lib.hid (HI1b.out.below b3)
  clear b3 HI1 HI2 HI1b B1 B2 K1 K2
  (try dsimp only)
  go_wp2_with (fail)
  refine (plain_any u3).mono ?_
  rintro e u4 ⟨rfl, b4⟩
  have B4 := Lib.hid (B3.out.trans (b4.mono B3.out.size))
  have HI4 := Lib.hid (HI3.out.below b4)
  clear b4 HI3 B3
  (try dsimp only)
  go_wp2_with (fail)
  refine (saddnode none 0 [] plF u4 ⟨(fun n hn => by cases hn), Or.inl rfl⟩ (by decide) plF_in).mono ?_
  rintro e u5 ⟨xv, mx, hmx, rfl, hox, b5⟩
  have hX := hp_new u5 (.cells #[xv] 26)
  have hox1 := hox.below (bel_alloc u5 (.cells #[xv] 26))
  have b6 := b5.trans ((bel_alloc u5 (.cells #[xv] 26)).mono b5.size)
  obtain ⟨v, ev⟩ : ∃ q, q = u5.alloc (.cells #[xv] 26) := ⟨_, rfl⟩
  rw [← ev] at hX hox1 b6
  obtain ⟨gx, egx⟩ : ∃ q, q = u5.heap.size := ⟨_, rfl⟩
  rw [← egx] at hX
  obtain ⟨xa, xc, rfl, hxn⟩ := hox1.nds
  have hl1 : mx.length = 1 := by have h := map_len hmx; rw [h]; decide +kernel
  rw [hmx] at hxn
  have BV := Lib.hid (B4.out.trans (b6.mono B4.out.size))
  have HI := Lib.hid (HI4.out.below b6)
  have KO := Lib.hid (fun (w' : World) (h : Below v.heap.size v w') => (by
    have := iallunder xa xc (adN [] plF) 1 w' (hxn.below h) (by decide +kernel) ⟨by decide, by decide⟩
    rw [au_one, show (adN [] plF).length = mx.length from (map_len hmx).symm] at this
    exact this : Calls Try.prog 40 #[.agg #[.slice xa mx.length xc], .int .i64 1] w' (OutPost [1] w')))
  have HX := Lib.hid (fun (w' : World) (h : Below v.heap.size v w') => hp_below hX h)
  have HT := Lib.hid (fun (w' : World) (h : Below v.heap.size v w') => hp_below (hp_below HT0.out BV.out) h)
  have HB := Lib.hid (HB0.out.trans (BV.out.mono HB0.out.size))
  have EV := Lib.hid ev
  have EGX := Lib.hid egx
  clear ev egx hX hox hox1 hxn b5 b6 hmx hl1 HI4 B4 HT0 HB0
  (try dsimp only)
  go_wp2_with (rw [← EV.out, ← EGX.out])
  go_loopw [8] (fun i wr => ∃ k : Nat, 1 ≤ k ∧ k ≤ L.length + 1 ∧ i = .int .i64 k ∧ Below v.heap.size v wr) (fun i _ => L.length + 1 - (intOf i).toNat)
  case atStart => exact ⟨1, by omega, by omega, rfl, Below.refl _ _⟩
  case round =>
    obtain ⟨k, hk1, hk2, rfl, hbr⟩ := hrel
    have HBr := Lib.hid hbr
    clear hbr
    by_cases hlt : k < L.length
    · have hlo : (0 : Int) ≤ (k : Int) := Int.natCast_nonneg _
      have hhi : (k : Int) < (L.length : Int) := by omega
      obtain ⟨lb, lo, rfl, _, hc1⟩ := HI.out.look hlt
      have hy : I64 (L.getD k 0) := by
        rw [List.getD_eq_getElem?_getD, List.getElem?_eq_getElem hlt, Option.getD_some]
        exact HLA.out _ (List.getElem_mem hlt)
      have ku := fun w' (h : Below v.heap.size v w') => KU0.out (L.getD k 0) hy w' (BV.out.trans (h.mono BV.out.size))
      rw [HUN.out k hk1 hlt] at ku
      obtain ⟨y, ey⟩ : ∃ q, q = L.getD k 0 := ⟨_, rfl⟩
      rw [← ey] at ku hc1
      have KU := Lib.hid ku
      have CK := Lib.hid (fun w' (h : Below v.heap.size v w') => (h.cell (block_lt_of_cell hc1)).trans hc1)
      clear ku hc1 ey hy
      go_wp2_with (fail)

      refine wp_region_held_drew (S := fun w' => Below v.heap.size v w') (by kernel_rfl) HBr.out.drew (fun HS => ?_)
      refine wpAnyH_take (i := 0) (oi := ⟨some 39, Op.load 26 (Operand.tmp 3), _, _, _, _⟩) (v := .agg #[.slice (some ⟨b, off, none⟩) ms.length vc]) rfl (by kernel_rfl) (by kernel_rfl) (by kernel_rfl) (fun _ _ _ h => h) (yields_row rfl rfl rfl tr_under (tr_size _) (fun w' hw' => HT.out w' hw')) HS ?_
      simp only [World.size_alloc, Act.put, List.setIfInBounds_toArray, List.set_cons_succ, List.set_cons_zero]
      refine wpAnyH_take (i := 1) (oi := ⟨some 40, Op.move (Operand.tmp 5), _, _, _, _⟩) (v := .slice (some ⟨lb, lo, none⟩) L.length ac) rfl (by kernel_rfl) (by kernel_rfl) (by kernel_rfl) (fun _ _ _ h => h) (Or.inl ⟨by rfl, fun W hW => by rfl⟩) HS ?_
      simp only [World.size_alloc, Act.put, List.setIfInBounds_toArray, List.set_cons_succ, List.set_cons_zero]
      refine wpAnyH_take (i := 2) (oi := ⟨some 41, Op.move (Operand.tmp 8), _, _, _, _⟩) (v := .int .i64 (k : Int)) rfl (by kernel_rfl) (by kernel_rfl) (by kernel_rfl) (fun _ _ _ h => h) (Or.inl ⟨by rfl, fun W hW => by rfl⟩) HS ?_
      simp only [World.size_alloc, Act.put, List.setIfInBounds_toArray, List.set_cons_succ, List.set_cons_zero]
      refine wpAnyH_take (i := 3) (oi := ⟨some 42, Op.indexAddr 59 (Operand.tmp 40) (Operand.tmp 41), _, _, _, _⟩) (v := .pointer (some ⟨lb, lo + k, none⟩)) rfl (by kernel_rfl) (by kernel_rfl) (by kernel_rfl) (fun _ _ _ h => h) (Or.inl ⟨by rfl, fun W hW => by clear hW; go_simp <;> with_reducible rfl⟩) HS ?_
      simp only [World.size_alloc, Act.put, List.setIfInBounds_toArray, List.set_cons_succ, List.set_cons_zero]
      refine wpAnyH_take (i := 4) (oi := ⟨some 43, Op.load 3 (Operand.tmp 42), _, _, _, _⟩) (v := .int .i64 y) rfl (by kernel_rfl) (by kernel_rfl) (by kernel_rfl) (fun _ _ _ h => h) (Or.inl ⟨by rfl, fun W hW => by have c9 := CK.out W hW; clear hW; go_simp <;> with_reducible rfl⟩) HS ?_
      simp only [World.size_alloc, Act.put, List.setIfInBounds_toArray, List.set_cons_succ, List.set_cons_zero]
      refine wpAnyH_take (i := 5) (oi := ⟨some 44, Op.move (Operand.tmp 4), _, _, _, _⟩) (v := .int .i64 z) rfl (by kernel_rfl) (by kernel_rfl) (by kernel_rfl) (fun _ _ _ h => h) (Or.inl ⟨by rfl, fun W hW => by rfl⟩) HS ?_
      simp only [World.size_alloc, Act.put, List.setIfInBounds_toArray, List.set_cons_succ, List.set_cons_zero]
      refine anyH_1 6 rfl (by kernel_rfl) rfl ?_
      go_wp2_with (fail)
      refine (KU.out _ HS).mono ?_
      rintro e e1 ⟨rfl, b1⟩
      (try dsimp only)
      have HS1 := HS.trans (b1.mono HS.size)
      clear b1 HS
      refine ⟨HS1, ?_⟩
      refine anyH_1 7 rfl (by kernel_rfl) rfl ?_
      go_wp2_with (fail)
      first | refine ⟨HS1, ?_⟩ | refine ⟨by kernel_rfl, ?_⟩
      first | refine wpAnyH_done (by kernel_rfl) ?_ _ | skip
      go_wp2_with (fail)
      go_roundw
      case rel => exact ⟨k + 1, by omega, by omega, by go_num, HS1⟩
      case measure => simp [intOf]; omega
    · have hlf : decide ((k : Int) < (L.length : Int)) = false := decide_eq_false (by omega)
      have hwk : ¬ (k : Int) < (L.length : Int) := by omega
      go_wp2_with (fail)
      clear hlf hwk hlt hk1 hk2
      obtain ⟨wo, ewo⟩ : ∃ q, q = wr := ⟨_, rfl⟩
      rw [← ewo] at HBr ⊢
      clear ewo
      obtain ⟨KL, eKL⟩ : ∃ q, q = (kidsZ ns z).length := ⟨_, rfl⟩
      obtain ⟨sm, esm⟩ : ∃ q, q = smF ns z := ⟨_, rfl⟩
      have hs0 : sm 0 = 1 := by rw [esm]; exact smF_zero ns z
      have HSL := Lib.hid (fun (h2 : treeB ns = true) (k : Nat) => (by rw [esm]; exact smF_le h2 z k : sm k ≤ 26365))
      have HSS := Lib.hid (fun (h1 : nIn ns.length z = true) (h2 : treeB ns = true) (k : Nat) (h3 : k < KL) => (by rw [esm]; exact smF_step h2 h1 (by omega) : sm (k + 1) = sm k + (auV ns ((kidsZ ns z).getD k 0)).length))
      rw [← eKL, ← esm] at HSA
      have EKL := Lib.hid eKL
      have HS0 := Lib.hid hs0
      clear eKL esm hs0
      go_loopw [9, 10] (fun s i wr => ∃ k : Nat, k ≤ KL ∧ s = .int .i64 ((sm k : Nat) : Int) ∧ i = .int .i64 k ∧ Below v.heap.size v wr) (fun _ i _ => KL + 1 - (intOf i).toNat)
      case atStart => exact ⟨0, by omega, by rw [HS0.out]; rfl, rfl, HBr.out⟩
      case round =>
        clear HBr HS0
        obtain ⟨k, hk2, rfl, rfl, hbr⟩ := hrel
        have HBr := Lib.hid hbr
        clear hbr
        obtain ⟨s, es⟩ : ∃ q, q = sm k := ⟨_, rfl⟩
        rw [← es]
        have ES := Lib.hid es
        clear es
        by_cases hL0 : L = []
        · clear KA0 KU0 HUN HI HKS HSA HSL HSS HLA
          subst hL0

          have c6 := c_of (HX.out wr HBr.out)
          go_wp2_with (fail)
          refine (KO.out wr HBr.out).mono ?_
          rintro e x1 ⟨xv, rfl, hx, bx⟩
          obtain ⟨xa, xc, rfl, hxi⟩ := hx.slice (fun q hq => by simp at hq; subst hq; constructor <;> decide)
          (try dsimp only)
          have hli := lit_ints x1 [1] (by intro q hq; simp at hq; subst hq; constructor <;> decide)
          have bl := bel_alloc x1 (.cells (([1] : List Int).map (Value.int .i64)).toArray 3)
          have B9 := Lib.hid (HBr.out.trans ((bx.trans (bl.mono bx.size)).mono HBr.out.size))
          have HI1 := Lib.hid (hxi.below bl)
          have HI2 := Lib.hid hli
          clear hli hxi hx bx bl c6
          go_wp2_with (fail)
          refine (same_any xa (some ⟨x1.heap.size, 0, none⟩) 1 xc 1 [1] _ HI1.out HI2.out (by decide)).mono ?_
          rintro e x2 ⟨rfl, b2⟩
          (try dsimp only)
          go_wp2
          go_ret
          exact ⟨rfl, HB.out.trans ((B9.out.trans (b2.mono B9.out.size)).mono HB.out.size)⟩
        · obtain ⟨hzn, htr⟩ := HKS.out hL0
          have hKL : KL ≤ 12 := by rw [EKL.out]; exact kids_len htr z
          have hLp : 0 < L.length := List.length_pos_iff.2 hL0
          have hLz : ((L.length : Int) == 0) = false := by simp; omega
          obtain ⟨b', off', p, kv, tv, e1, hzp, hp, _, hnok, hrg, hka, _⟩ := nd_look (HN.out.below BV.out) hzn
          simp only [Option.some.injEq, Addr.mk.injEq, and_true] at e1
          obtain ⟨rfl, rfl⟩ := e1
          have hkz : (ndAt ns z).kids = kidsZ ns z := by unfold kidsZ; rw [if_pos hzn]
          rw [hkz] at hka
          obtain ⟨ka, kc, rfl, hki⟩ := hka
          rw [← EKL.out] at hki
          have hcv : v.cell? ⟨b, off + p * 64 + 1, none⟩ = some (.slice ka (kidsZ ns z).length kc) := hrg 1 _ nL_kids
          rw [← EKL.out] at hcv
          have hpm : p < ms.length := by have := HNL.out; omega
          have hw1 : IntKind.i64.wrap (z - 1) = (p : Int) := by rw [IntWalk.i64_in _ (by omega)]; omega
          have CV0 := Lib.hid (fun w' (h : Below v.heap.size v w') => (h.cell (block_lt_of_cell hcv)).trans hcv)
          have HKI := Lib.hid hki
          have HZP := Lib.hid hzp
          clear hcv hki hrg hnok hkz hzp hp
          have hplo : (0 : Int) ≤ (p : Int) := Int.natCast_nonneg _
          have hphi : (p : Int) < (ms.length : Int) := by omega
          have cT := c_of (HT.out wr HBr.out)
          have cV := CV0.out wr HBr.out
          by_cases hlt : k < KL
          · obtain ⟨kb, ko, rfl, _, hc1⟩ := HKI.out.look hlt
            have hlo : (0 : Int) ≤ (k : Int) := Int.natCast_nonneg _
            have hhi : (k : Int) < (KL : Int) := by omega
            have hy : I64 ((kidsZ ns z).getD k 0) := by
              have h5 : k < (kidsZ ns z).length := by rw [← EKL.out]; exact hlt
              rw [List.getD_eq_getElem?_getD, List.getElem?_eq_getElem h5, Option.getD_some]
              have h3 := nIn_iff.1 (kid_of htr (List.getElem_mem h5)).1
              constructor <;> omega
            have ka0 := fun w' (h : Below v.heap.size v w') => KA0.out ((kidsZ ns z).getD k 0) hy w' (BV.out.trans (h.mono BV.out.size))
            have hst := HSS.out hzn htr k hlt
            have hsb := HSL.out htr (k + 1)
            obtain ⟨y, ey⟩ : ∃ q, q = (kidsZ ns z).getD k 0 := ⟨_, rfl⟩
            rw [← ey] at ka0 hc1 hst
            obtain ⟨Y, eY⟩ : ∃ q, q = auV ns y := ⟨_, rfl⟩
            rw [← eY] at ka0 hst
            obtain ⟨s2, es2⟩ : ∃ q, q = sm (k + 1) := ⟨_, rfl⟩
            have hws : IntKind.i64.wrap ((s : Int) + (Y.length : Int)) = (s2 : Int) := by
              have h6 := ES.out
              rw [IntWalk.i64_in _ (by omega)]
              omega
            have KA := Lib.hid ka0
            have CK := Lib.hid (fun w' (h : Below v.heap.size v w') => (h.cell (block_lt_of_cell hc1)).trans hc1)
            have ES2 := Lib.hid es2
            have CV := CV0
            clear ka0 hc1 ey eY hy hst hsb es2
            go_wp2_with (fail)
            clear cT cV

            refine wp_region_held_drew (S := fun w' => Below v.heap.size v w') (by kernel_rfl) HBr.out.drew (fun HS => ?_)
            refine wpAnyH_take (i := 0) (oi := ⟨some 64, Op.move (Operand.tmp 9), _, _, _, _⟩) (v := .int .i64 (s : Int)) rfl (by kernel_rfl) (by kernel_rfl) (by kernel_rfl) (fun _ _ _ h => h) (Or.inl ⟨by rfl, fun W hW => by rfl⟩) HS ?_
            simp only [World.size_alloc, Act.put, List.setIfInBounds_toArray, List.set_cons_succ, List.set_cons_zero]
            refine wpAnyH_take (i := 1) (oi := ⟨some 65, Op.load 26 (Operand.tmp 3), _, _, _, _⟩) (v := .agg #[.slice (some ⟨b, off, none⟩) ms.length vc]) rfl (by kernel_rfl) (by kernel_rfl) (by kernel_rfl) (fun _ _ _ h => h) (yields_row rfl rfl rfl tr_under (tr_size _) (fun w' hw' => HT.out w' hw')) HS ?_
            simp only [World.size_alloc, Act.put, List.setIfInBounds_toArray, List.set_cons_succ, List.set_cons_zero]
            refine wpAnyH_take (i := 2) (oi := ⟨some 66, Op.fieldAddr 26 (Operand.tmp 3) 0, _, _, _, _⟩) (v := .pointer (some ⟨gt, 0, none⟩)) rfl (by kernel_rfl) (by kernel_rfl) (by kernel_rfl) (fun _ _ _ h => h) (Or.inl ⟨by rfl, fun W hW => by clear hW; go_simp <;> with_reducible rfl⟩) HS ?_
            simp only [World.size_alloc, Act.put, List.setIfInBounds_toArray, List.set_cons_succ, List.set_cons_zero]
            refine wpAnyH_take (i := 3) (oi := ⟨some 67, Op.load 24 (Operand.tmp 66), _, _, _, _⟩) (v := .slice (some ⟨b, off, none⟩) ms.length vc) rfl (by kernel_rfl) (by kernel_rfl) (by kernel_rfl) (fun _ _ _ h => h) (Or.inl ⟨by rfl, fun W hW => by have c9 := c_of (HT.out W hW); clear hW; go_simp <;> with_reducible rfl⟩) HS ?_
            simp only [World.size_alloc, Act.put, List.setIfInBounds_toArray, List.set_cons_succ, List.set_cons_zero]
            refine wpAnyH_take (i := 4) (oi := ⟨some 68, Op.move (Operand.tmp 4), _, _, _, _⟩) (v := .int .i64 z) rfl (by kernel_rfl) (by kernel_rfl) (by kernel_rfl) (fun _ _ _ h => h) (Or.inl ⟨by rfl, fun W hW => by rfl⟩) HS ?_
            simp only [World.size_alloc, Act.put, List.setIfInBounds_toArray, List.set_cons_succ, List.set_cons_zero]
            refine wpAnyH_take (i := 5) (oi := ⟨some 69, Op.binOp .sub 3 (Operand.tmp 68) (Operand.const (.int .i64 1)) 3, _, _, _, _⟩) (v := .int .i64 (p : Int)) rfl (by kernel_rfl) (by kernel_rfl) (by kernel_rfl) (fun _ _ _ h => h) (Or.inl ⟨by rfl, fun W hW => by clear hW; go_simp <;> with_reducible rfl⟩) HS ?_
            simp only [World.size_alloc, Act.put, List.setIfInBounds_toArray, List.set_cons_succ, List.set_cons_zero]
            refine wpAnyH_take (i := 6) (oi := ⟨some 70, Op.indexAddr 24 (Operand.tmp 67) (Operand.tmp 69), _, _, _, _⟩) (v := .pointer (some ⟨b, off + p * 64, none⟩)) rfl (by kernel_rfl) (by kernel_rfl) (by kernel_rfl) (fun _ _ _ h => h) (Or.inl ⟨by rfl, fun W hW => by clear hW; go_simp <;> with_reducible rfl⟩) HS ?_
            simp only [World.size_alloc, Act.put, List.setIfInBounds_toArray, List.set_cons_succ, List.set_cons_zero]
            refine wpAnyH_take (i := 7) (oi := ⟨some 71, Op.fieldAddr 61 (Operand.tmp 70) 1, _, _, _, _⟩) (v := .pointer (some ⟨b, off + p * 64 + 1, none⟩)) rfl (by kernel_rfl) (by kernel_rfl) (by kernel_rfl) (fun _ _ _ h => h) (Or.inl ⟨by rfl, fun W hW => by clear hW; go_simp <;> with_reducible rfl⟩) HS ?_
            simp only [World.size_alloc, Act.put, List.setIfInBounds_toArray, List.set_cons_succ, List.set_cons_zero]
            refine wpAnyH_take (i := 8) (oi := ⟨some 72, Op.load 59 (Operand.tmp 71), _, _, _, _⟩) (v := .slice (some ⟨kb, ko, none⟩) KL kc) rfl (by kernel_rfl) (by kernel_rfl) (by kernel_rfl) (fun _ _ _ h => h) (Or.inl ⟨by rfl, fun W hW => by have c9 := CV.out W hW; clear hW; go_simp <;> with_reducible rfl⟩) HS ?_
            simp only [World.size_alloc, Act.put, List.setIfInBounds_toArray, List.set_cons_succ, List.set_cons_zero]
            refine wpAnyH_take (i := 9) (oi := ⟨some 73, Op.move (Operand.tmp 10), _, _, _, _⟩) (v := .int .i64 (k : Int)) rfl (by kernel_rfl) (by kernel_rfl) (by kernel_rfl) (fun _ _ _ h => h) (Or.inl ⟨by rfl, fun W hW => by rfl⟩) HS ?_
            simp only [World.size_alloc, Act.put, List.setIfInBounds_toArray, List.set_cons_succ, List.set_cons_zero]
            refine wpAnyH_take (i := 10) (oi := ⟨some 74, Op.indexAddr 59 (Operand.tmp 72) (Operand.tmp 73), _, _, _, _⟩) (v := .pointer (some ⟨kb, ko + k, none⟩)) rfl (by kernel_rfl) (by kernel_rfl) (by kernel_rfl) (fun _ _ _ h => h) (Or.inl ⟨by rfl, fun W hW => by clear hW; go_simp <;> with_reducible rfl⟩) HS ?_
            simp only [World.size_alloc, Act.put, List.setIfInBounds_toArray, List.set_cons_succ, List.set_cons_zero]
            refine wpAnyH_take (i := 11) (oi := ⟨some 75, Op.load 3 (Operand.tmp 74), _, _, _, _⟩) (v := .int .i64 y) rfl (by kernel_rfl) (by kernel_rfl) (by kernel_rfl) (fun _ _ _ h => h) (Or.inl ⟨by rfl, fun W hW => by have c9 := CK.out W hW; clear hW; go_simp <;> with_reducible rfl⟩) HS ?_
            simp only [World.size_alloc, Act.put, List.setIfInBounds_toArray, List.set_cons_succ, List.set_cons_zero]
            refine anyH_1 12 rfl (by kernel_rfl) rfl ?_
            go_wp2_with (fail)
            refine (KA.out _ HS).mono ?_
            rintro e e1 ⟨av, rfl, hr1, b1⟩
            obtain ⟨aq, cq, rfl⟩ := own_form hr1
            (try dsimp only)
            replace HS := HS.trans (b1.mono HS.size)
            clear b1 hr1
            refine ⟨HS, ?_⟩
            refine wpAnyH_take (i := 13) (oi := ⟨some 77, Op.call { callee := .builtin .len, args := #[Operand.tmp 76], argTypes := #[59] }, _, _, _, _⟩) (v := .int .i64 (Y.length : Int)) rfl (by kernel_rfl) (by kernel_rfl) (by kernel_rfl) (fun _ _ _ h => h) (Or.inl ⟨by rfl, fun W hW => by clear hW; go_simp <;> with_reducible rfl⟩) HS ?_
            simp only [World.size_alloc, Act.put, List.setIfInBounds_toArray, List.set_cons_succ, List.set_cons_zero]
            refine wpAnyH_take (i := 14) (oi := ⟨some 78, Op.binOp .add 3 (Operand.tmp 64) (Operand.tmp 77) 3, _, _, _, _⟩) (v := .int .i64 (s2 : Int)) rfl (by kernel_rfl) (by kernel_rfl) (by kernel_rfl) (fun _ _ _ h => h) (Or.inl ⟨by rfl, fun W hW => by clear hW; go_simp <;> with_reducible rfl⟩) HS ?_
            simp only [World.size_alloc, Act.put, List.setIfInBounds_toArray, List.set_cons_succ, List.set_cons_zero]
            refine wpAnyH_take (i := 15) (oi := ⟨some 9, Op.assign (Operand.tmp 78), _, _, _, _⟩) (v := .int .i64 (s2 : Int)) rfl (by kernel_rfl) (by kernel_rfl) (by kernel_rfl) (fun _ _ _ h => h) (Or.inl ⟨by rfl, fun W hW => by rfl⟩) HS ?_
            simp only [World.size_alloc, Act.put, List.setIfInBounds_toArray, List.set_cons_succ, List.set_cons_zero]
            refine wpAnyH_done (by kernel_rfl) ?_ _
            go_wp2_with (fail)
            go_roundw
            case rel => exact ⟨k + 1, by omega, by rw [← ES2.out], by go_num, HS⟩
            case measure => simp [intOf]; omega
          · have hkl : k = KL := by omega
            have hsL : s = L.length := by rw [ES.out, hkl]; exact HSA.out hzn htr
            have hlf : decide ((k : Int) < (KL : Int)) = false := decide_eq_false (by omega)
            have hwk : ¬ (k : Int) < (KL : Int) := by omega
            clear ES
            subst hsL
            clear hkl hlt hk2

            have c6 := c_of (HX.out wr HBr.out)
            go_wp2_with (fail)
            refine (KO.out wr HBr.out).mono ?_
            rintro e x1 ⟨xv, rfl, hx, bx⟩
            obtain ⟨xa, xc, rfl, hxi⟩ := hx.slice (fun q hq => by simp at hq; subst hq; constructor <;> decide)
            (try dsimp only)
            have hli := lit_ints x1 [1] (by intro q hq; simp at hq; subst hq; constructor <;> decide)
            have bl := bel_alloc x1 (.cells (([1] : List Int).map (Value.int .i64)).toArray 3)
            have B9 := Lib.hid (HBr.out.trans ((bx.trans (bl.mono bx.size)).mono HBr.out.size))
            have HI1 := Lib.hid (hxi.below bl)
            have HI2 := Lib.hid hli
            clear hli hxi hx bx bl c6
            go_wp2_with (fail)
            refine (same_any xa (some ⟨x1.heap.size, 0, none⟩) 1 xc 1 [1] _ HI1.out HI2.out (by decide)).mono ?_
            rintro e x2 ⟨rfl, b2⟩
            (try dsimp only)
            go_wp2
            go_ret
            exact ⟨rfl, HB.out.trans ((B9.out.trans (b2.mono B9.out.size)).mono HB.out.size)⟩

set_option maxRecDepth 100000 in
theorem walk_big (a : Option Addr) (len cap : Nat) (w : World) (hl : 1048576 < len) (hm : len ≤ 9223372036854775807) :
    Calls Try.prog 6 #[.slice a len cap] w fun e w' => e = .returned (.bool true) ∧ Below w.heap.size w w' := by
  go_enter Try.func6, Try.ntmps6
  go_wp2
  go_ret
  exact ⟨rfl, Below.refl _ _⟩

theorem laidOut : laidOutB Try.prog = true := by kernel_rfl

theorem contract (H : Type) (enc : TypeId × Value → H) (W : World) (base : Nat) (args : Array Value) (ds gs : List (DataW H)) (before : List MemPlace)
    (hval : ∀ (j : Nat) t v, Try.f6.params[j]? = some t → args[j]? = some v → Value.okWide Try.prog W .any base t v)
    (hW : DataW.Whole enc Try.prog Try.f6.params.toList Rows.fnCountedSpec.vars false W args.toList ds gs before) :
    Calls Try.prog 6 args W fun e W' => ∃ v, e = .returned v ∧ Rows.fnCountedSpec.post enc Try.prog Try.f6 false true false false W args v W' := by
  have hW' := hW
  obtain ⟨p, q, hA0, hV, rfl, hfz, hnd⟩ := hW
  have hA : DataW.TrodAll enc Try.prog W 0 (fun _ => true) true Try.f6.params.toList args.toList ds p := hA0
  rw [Try.params6] at hA hval
  obtain ⟨v0, vs0, d0, ds0, p0, q0, hargs, rfl, rfl, h0, r0⟩ := trodAll_cons hA
  obtain ⟨rfl, rfl, rfl⟩ := trodAll_nil r0
  obtain rfl : args = #[v0] := by cases args; simp_all
  obtain ⟨rfl, rfl⟩ := trodVars_none hV
  obtain ⟨a, len, cap, rfl⟩ := okWide_slice Try.underlying22 (hval 0 22 v0 rfl rfl)
  have lt0 : ∀ x ∈ p0, x.block < W.heap.size := by obtain ⟨m, hm⟩ := h0; exact DataW.trod_lt m _ _ _ hm
  obtain ⟨hc, hm⟩ := code_of h0
  have all : Calls Try.prog 6 #[.slice a len cap] W fun e w' => e = .returned (.bool true) ∧ Below W.heap.size W w' := by
    by_cases hl : len ≤ 1048576
    · exact walk a len cap W hl hc
    · exact walk_big a len cap W (by omega) hm
  refine all.mono fun e W' ⟨he, bel⟩ => ?_
  subst he
  exact ⟨_, rfl, law_post (pa := _) (pv := []) hW' (trodAll_cons_mk (shut_bool Try.underlying4 _) trodAll_mk0) (trodAll_cons_mk (Below.trod laidOut (by kernel_rfl) (of_decide_eq_true (by kernel_rfl)) h0 bel lt0) trodAll_mk0) rfl rfl bel⟩


set_option maxRecDepth 100000 in
theorem lifted (os : Os) (started : os.Started) (H : Type) (enc : TypeId × Value → H) :
    ReturnsInHanded {} Try.checked os 6 .any (Rows.fnCountedSpec.pre6 enc Try.prog Try.f6 Rows.fnCountedRow.domain false) (Rows.fnCountedSpec.post enc Try.prog Try.f6 false true false false) := by
  refine returnsInHanded_of_change (C := Try.checked) own started (by kernel_rfl) Try.func6
    (ChangeSpec.witness6 (enc := enc) (C := Try.checked) false ⟨#[], #[.slice none 0 0], []⟩ 8 (by kernel_rfl) (by kernel_rfl) (by kernel_rfl) (by kernel_rfl)) ?_
  intro W base args ds gs before hval hW _ _
  exact contract H enc W base args ds gs before hval hW

/-- The given statement. -/
theorem proved : Rows.FnCountedSaid :=
  OpenClaim.holds_of_wide 6 Try.f6 rfl rfl rfl rfl rfl rfl rfl ⟨rfl, rfl, rfl, rfl, rfl⟩ rfl rfl rfl rfl rfl (by kernel_rfl) Try.func6 (by kernel_rfl)
    (of_decide_eq_true (by kernel_rfl)) (by unfold Func.isWrapper; first | (rw [if_pos (by decide +kernel)]; kernel_rfl) | (rw [if_neg (by decide +kernel)]; exact ⟨rfl, rfl⟩))
    (fun os started H enc _ => lifted os started H enc)
#print axioms proved
end Go.Proofs.Ytfnnfjpbplbjmaa.fnCounted
end

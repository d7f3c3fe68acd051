import Derived.Deep.RegionWith
import Derived.Below
import Derived.Test.YtiogjbdaaplhpaaZfAD
import Derived.Test.YtiogjbdaaplhpaaZfAE
import Derived.Test.YtiogjbdaaplhpaaZfAT
import Derived.Test.YtiogjbdaaplhpaaZfBA
import Derived.Test.YtiogjbdaaplhpaaZfBB
import Derived.Test.YtiogjbdaaplhpaaZfBD
import Derived.Test.YtiogjbdaaplhpaaZfBE
import Derived.Test.YtiogjbdaaplhpaaZfBF
import Derived.Test.YtiogjbdaaplhpaaZfBG
import Derived.Test.YtiogjbdaaplhpaaZfBV
section
namespace Go.Proofs.Ytiogjbdaaplhpaa
open Go.ChangeShapes Go.WideShapes Go.ChangeAt Go.RowKit
set_option linter.unusedVariables false
set_option linter.unusedSimpArgs false
set_option maxRecDepth 100000

def snd' : Go.Code → Go.Code
  | .seq _ b => b
  | c => c
def restN : Nat → Go.Code → Go.Code
  | 0, c => c
  | n + 1, c => restN n (snd' c)
theorem wp_rest {P : Program} {n : Nat} {fn : Func} {c : Go.Code} {Q : Exit → Act → World → Prop} {a : Act} {w : World} (hb : fn.body = some c) (h : Go.Code.wp P (restN n c) Q a w) : Go.Code.wp P (restN n (fn.body.getD .skip)) Q a w := by
  rw [hb]; exact h
set_option maxHeartbeats 8000000 in
theorem part2 (a : Option Addr) (len cap : Nat) (w v wq : World) (ms : List ND) (ns : List PN) (b off vc gt : Nat) (z : Int) (fa pa : Option Addr) (fc pc : Nat) (u7 u8 u9 u10 u11 u12 u13 u14 u15 u16 u17 u18 u19 u20 u21 u22 u23 u24 u25 u26 u27 u28 u29 u30 u31 u32 u33 u34 u35 u36 u37 u38 u39 u40 u41 u42 u43 u44 u45 u46 u47 u48 u49 u50 u51 u52 u53 u54 u55 u56 u57 u58 u59 u60 u61 u62 u63 u64 u65 u66 u67 u68 u69 u70 u71 u72 u73 u74 u75 u76 u77 u78 u79 u80 u81 u82 u83 u84 u85 u86 u87 u88 u89 u90 u91 u92 u93 u94 u95 u96 u97 u98 u99 u100 u101 u102 u103 u104 u105 u106 u107 u108 u109 u110 u111 u112 u113 u114 u115 u116 u117 u118 u119 u120 u121 u122 u123 u124 u125 u126 u127 u128 u129 u130 u131 u132 u133 u134 u135 u136 u137 u138 u139 u140 u141 u142 u143 u144 u145 u146 u147 u148 u149 u150 u151 u152 u153 u154 u155 u156 u157 u158 u159 u160 u161 u162 u163 u164 u165 u166 u167 u168 u169 u170 u171 u172 u173 u174 u175 u176 u177 u178 u179 u180 u181 u182 u183 u184 u185 : Value)
    (hT : v.heap[gt]? = some (.cells #[.slice (some ⟨b, off, none⟩) ms.length vc] 26)) (hN : Nds v (some ⟨b, off, none⟩) ns) (hnl : ns.length = ms.length) (hsz : szS ns ≤ 1048576) (hzI : I64 z) (hnn : ns.length ≤ 1048576) (hm2 : ms.length ≤ 13)
    (hB : Below w.heap.size w v) (hF : Ints v fa (flV ns z).length (flV ns z)) (HS : Below v.heap.size v wq) :
    Go.Code.wp Try.prog (restN 6 (Try.f5.body.getD .skip)) (bodyPost Try.prog Try.f5 (fun e w' => e = .returned (.bool true) ∧ Below w.heap.size w w')) { tmps := #[.slice a len cap, undef, .bool false, .pointer (some ⟨gt, 0, none⟩), .int .i64 z, .slice fa (flV ns z).length fc, .slice pa (apV ns z).length pc, u7, u8, u9, u10, u11, u12, u13, u14, u15, u16, u17, u18, u19, u20, u21, u22, u23, u24, u25, u26, u27, u28, u29, u30, u31, u32, u33, u34, u35, u36, u37, u38, u39, u40, u41, u42, u43, u44, u45, u46, u47, u48, u49, u50, u51, u52, u53, u54, u55, u56, u57, u58, u59, u60, u61, u62, u63, u64, u65, u66, u67, u68, u69, u70, u71, u72, u73, u74, u75, u76, u77, u78, u79, u80, u81, u82, u83, u84, u85, u86, u87, u88, u89, u90, u91, u92, u93, u94, u95, u96, u97, u98, u99, u100, u101, u102, u103, u104, u105, u106, u107, u108, u109, u110, u111, u112, u113, u114, u115, u116, u117, u118, u119, u120, u121, u122, u123, u124, u125, u126, u127, u128, u129, u130, u131, u132, u133, u134, u135, u136, u137, u138, u139, u140, u141, u142, u143, u144, u145, u146, u147, u148, u149, u150, u151, u152, u153, u154, u155, u156, u157, u158, u159, u160, u161, u162, u163, u164, u165, u166, u167, u168, u169, u170, u171, u172, u173, u174, u175, u176, u177, u178, u179, u180, u181, u182, u183, u184, u185], defers := [] } wq := by
  have HN := Lib.hid hN
  have HT := Lib.hid (fun (w' : World) (h : Below v.heap.size v w') => hp_below hT h)
  have HB := Lib.hid hB
  have K_iu := Lib.hid (fun (w' : World) (h : Below v.heap.size v w') => by
    have := iallunder (some ⟨b, off, none⟩) vc ns z w' (HN.out.below h) hsz hzI
    rwa [hnl] at this)
  have K_ig := Lib.hid (fun (w' : World) (h : Below v.heap.size v w') => by
    have := iisgone (some ⟨b, off, none⟩) vc ns z w' (HN.out.below h) hsz hzI
    rwa [hnl] at this)
  have K_ir := Lib.hid (fun (w' : World) (h : Below v.heap.size v w') => by
    have := irootof (some ⟨b, off, none⟩) vc ns z w' (HN.out.below h) hsz hzI
    rwa [hnl] at this)
  have K_ok := Lib.hid (fun (w' : World) (h : Below v.heap.size v w') => by
    have := streeok (some ⟨b, off, none⟩) vc ns w' (HN.out.below h) hsz
    rwa [hnl] at this)
  have HNL := Lib.hid hnl
  have hUA := auV_all ns z
  have hFL := flV_len ns z
  have hAL := apV_len ns z
  have HASC := Lib.hid (flV_asc ns z)
  have HNO := Lib.hid (fun h : (nIn ns.length z && treeB ns) = false => not_in h)
  have HCN := Lib.hid (fun (h1 : treeB ns = true) (h2 : nIn ns.length z = true) => flow_count h1 h2)
  have HFI := Lib.hid (fun (h1 : treeB ns = true) (h2 : nIn ns.length z = true) => flV_in h1 h2)
  have HRT := Lib.hid (fun (h1 : treeB ns = true) (h2 : nIn ns.length z = true) => rtZ_pos h1 h2)
  have HU0 := Lib.hid (fun (h1 : treeB ns = true) (h2 : nIn ns.length z = true) => (by unfold auV; rw [h1, h2]; exact ⟨_, rfl⟩ : ∃ R, auV ns z = z :: R))
  obtain ⟨FL, eFL⟩ : ∃ q, q = flV ns z := ⟨_, rfl⟩
  obtain ⟨AL, eAL⟩ : ∃ q, q = apV ns z := ⟨_, rfl⟩
  obtain ⟨UL, eUL⟩ : ∃ q, q = auV ns z := ⟨_, rfl⟩
  obtain ⟨gb, egb⟩ : ∃ q, q = goB ns z := ⟨_, rfl⟩
  obtain ⟨rt, ert⟩ : ∃ q, q = rtZ ns z := ⟨_, rfl⟩
  rw [← eFL] at hF hFL HASC HNO HCN HFI ⊢
  rw [← eAL] at hAL HNO HCN ⊢
  rw [← eUL] at K_iu hUA HU0
  rw [← egb] at K_ig HNO
  rw [← ert] at K_ir HRT
  have HUA := Lib.hid hUA
  have HF := Lib.hid (fun (w' : World) (h : Below v.heap.size v w') => hF.below h)
  have HN2 := Lib.hid hN
  have HFA := Lib.hid True.intro
  have HAA := Lib.hid True.intro
  have HA := Lib.hid True.intro
  have K_sf := Lib.hid True.intro
  have K_sa := Lib.hid True.intro
  have K_su := Lib.hid True.intro
  have K_sg := Lib.hid True.intro
  have K_sr := Lib.hid True.intro
  clear eFL eAL eUL egb ert hUA hnl hT hN hB hF HN
  refine wp_rest rfl ?_
  simp only [restN, snd']
  have cT := c_of (HT.out _ HS)
  go_wp2_with (fail)
  by_cases ht : treeB ns = true
  · by_cases h1 : z < 1
    · have hno : (nIn ns.length z && treeB ns) = false := by rw [nIn_no.2 (by omega)]; rfl
      have hd1 : decide (z < 1) = true := decide_eq_true h1
      obtain ⟨e1, e2, e3⟩ := HNO.out hno
      subst e1 e2 e3
      have ko := K_ok.out _ HS
      rw [ht] at ko
      refine ko.mono ?_
      rintro e x0 ⟨rfl, b0⟩
      clear cT ko
      have HS1 := HS.trans (b0.mono HS.size)
      have cT := c_of (HT.out _ HS1)
      clear b0 HS
      (try dsimp only)
      go_wp2_with (fail)
      clear cT hd1
      refine (K_ig.out _ HS1).mono ?_
      rintro e x1 ⟨rfl, bx⟩
      (try dsimp only)
      go_wp2
      go_ret
      exact ⟨rfl, HB.out.trans ((HS1.trans (bx.mono HS1.size)).mono HB.out.size)⟩
    · by_cases h2 : (ms.length : Int) < z
      · have hno : (nIn ns.length z && treeB ns) = false := by rw [nIn_no.2 (by have := HNL.out; omega)]; rfl
        have hd1 : decide (z < 1) = false := decide_eq_false h1
        have hd2 : decide ((ms.length : Int) < z) = true := decide_eq_true h2
        obtain ⟨e1, e2, e3⟩ := HNO.out hno
        subst e1 e2 e3
        have ko := K_ok.out _ HS
        rw [ht] at ko
        refine ko.mono ?_
        rintro e x0 ⟨rfl, b0⟩
        clear cT ko
        have HS1 := HS.trans (b0.mono HS.size)
        have cT := c_of (HT.out _ HS1)
        clear b0 HS
        (try dsimp only)
        go_wp2_with (fail)
        clear cT hd1 hd2
        refine (K_ig.out _ HS1).mono ?_
        rintro e x1 ⟨rfl, bx⟩
        (try dsimp only)
        go_wp2
        go_ret
        exact ⟨rfl, HB.out.trans ((HS1.trans (bx.mono HS1.size)).mono HB.out.size)⟩
      · have hzn : nIn ns.length z = true := nIn_iff.2 (by have := HNL.out; omega)
        have hd1 : decide (z < 1) = false := decide_eq_false h1
        have hd2 : decide ((ms.length : Int) < z) = false := decide_eq_false h2
        have ko := K_ok.out _ HS
        rw [ht] at ko
        refine ko.mono ?_
        rintro e x0 ⟨rfl, b0⟩
        clear cT ko
        have HS1 := HS.trans (b0.mono HS.size)
        have cT := c_of (HT.out _ HS1)
        clear b0 HS
        (try dsimp only)
        go_wp2_with (fail)
        clear cT hd1 hd2
        obtain ⟨b', off', p, kv, tv, e1, hzp, hp, _, hnok, hrg, hka, _⟩ := nd_look HN2.out hzn
        simp only [Option.some.injEq, Addr.mk.injEq, and_true] at e1
        obtain ⟨rfl, rfl⟩ := e1
        have hkz : (ndAt ns z).kids = kidsZ ns z := by unfold kidsZ; rw [if_pos hzn]
        rw [hkz] at hka
        obtain ⟨ka, kc, rfl, hki⟩ := hka
        have hcv : v.cell? ⟨b, off + p * 64 + 1, none⟩ = some (.slice ka (kidsZ ns z).length kc) := hrg 1 _ nL_kids
        obtain ⟨KL, eKL⟩ : ∃ q, q = (kidsZ ns z).length := ⟨_, rfl⟩
        rw [← eKL] at hki hcv
        have hKL : KL ≤ 12 := by rw [eKL]; exact kids_len ht z
        have hCN := HCN.out ht hzn
        rw [← eKL] at hCN
        obtain ⟨hf, ehf⟩ : ∃ q, q = hcF ns (kidsZ ns z) := ⟨_, rfl⟩
        have h00 : hf 0 = 0 := by rw [ehf]; exact hcF_zero _ _
        have HHL := Lib.hid (fun (k : Nat) => (by rw [ehf, eKL]; exact hcF_le _ _ _ : hf k ≤ KL))
        have HHS := Lib.hid (fun (k : Nat) (h : k < KL) => (by rw [ehf]; exact hcF_step ns (by omega) : hf (k + 1) = if hidZ ns ((kidsZ ns z).getD k 0) = true then hf k + 1 else hf k))
        have HKD := Lib.hid (fun (k : Nat) (h : k < KL) => (kid_at ht (by omega) : nIn ns.length ((kidsZ ns z).getD k 0) = true))
        rw [← ehf] at hCN
        have HCN := Lib.hid hCN
        have H00 := Lib.hid h00
        have hpm : p < ms.length := by have := HNL.out; omega
        have hw1 : IntKind.i64.wrap (z - 1) = (p : Int) := by rw [IntWalk.i64_in _ (by omega)]; omega
        have hwp : IntKind.i64.wrap (p : Int) = (p : Int) := IntWalk.i64_in _ (by omega)
        have CV := Lib.hid (fun w' (h : Below v.heap.size v w') => (h.cell (block_lt_of_cell hcv)).trans hcv)
        have HKI := Lib.hid hki
        have hplo : (0 : Int) ≤ (p : Int) := Int.natCast_nonneg _
        have hphi : (p : Int) < (ms.length : Int) := by omega
        have HX := Lib.hid HS1
        clear hcv hki hrg hnok hkz hp eKL ehf hCN h00 HS1 hzp
        go_loopw [7, 8] (fun s i wr => ∃ k : Nat, k ≤ KL ∧ s = .int .i64 ((hf k : Nat) : Int) ∧ i = .int .i64 k ∧ Below v.heap.size v wr) (fun _ i _ => KL + 1 - (intOf i).toNat)
        case atStart => exact ⟨0, by omega, by rw [H00.out]; rfl, rfl, HX.out⟩
        case round =>
          clear HX
          obtain ⟨k, hk2, rfl, rfl, hbr⟩ := hrel
          have HBr := Lib.hid hbr
          clear hbr
          have cT := c_of (HT.out wr HBr.out)
          have cV := CV.out wr HBr.out
          by_cases hlt : k < KL
          · obtain ⟨kb, ko, rfl, _, hc1⟩ := HKI.out.look hlt
            have hlo : (0 : Int) ≤ (k : Int) := Int.natCast_nonneg _
            have hhi : (k : Int) < (KL : Int) := by omega
            have hst := HHS.out k hlt
            have hhb := HHL.out k
            obtain ⟨b2, off2, q, kv2, tv2, e2, hyq, hq, _, _, hrg2, _, _⟩ := nd_look HN2.out (HKD.out k hlt)
            simp only [Option.some.injEq, Addr.mk.injEq, and_true] at e2
            obtain ⟨rfl, rfl⟩ := e2
            have hcq : v.cell? ⟨b, off + q * 64 + 2 + 7, none⟩ = some (.bool (hidZ ns ((kidsZ ns z).getD k 0))) := hrg2 (2 + 7) _ (nL_sty 7 (by decide))
            obtain ⟨y, ey⟩ : ∃ q, q = (kidsZ ns z).getD k 0 := ⟨_, rfl⟩
            rw [← ey] at hc1 hst hcq hyq
            obtain ⟨hb, ehb⟩ : ∃ q, q = hidZ ns y := ⟨_, rfl⟩
            rw [← ehb] at hst hcq
            have hwq : IntKind.i64.wrap (y - 1) = (q : Int) := by rw [IntWalk.i64_in _ (by have := HNL.out; omega)]; omega
            have hqm : q < ms.length := by have := HNL.out; omega
            have hwq2 : IntKind.i64.wrap (q : Int) = (q : Int) := IntWalk.i64_in _ (by omega)
            have hqlo : (0 : Int) ≤ (q : Int) := Int.natCast_nonneg _
            have hqhi : (q : Int) < (ms.length : Int) := by omega
            have CQ := Lib.hid (fun w' (h : Below v.heap.size v w') => (h.cell (block_lt_of_cell hcq)).trans hcq)
            have CK := Lib.hid (fun w' (h : Below v.heap.size v w') => (h.cell (block_lt_of_cell hc1)).trans hc1)
            have HST := Lib.hid hst
            obtain ⟨s, es⟩ : ∃ q, q = hf k := ⟨_, rfl⟩
            rw [← es] at hhb ⊢
            have ES := Lib.hid es
            have hws : IntKind.i64.wrap ((s : Int) + 1) = ((s + 1 : Nat) : Int) := by rw [IntWalk.i64_in _ (by omega)]; omega
            clear hc1 hcq hst ey ehb hrg2 hyq hq es
            go_wp2_with (fail)
            clear cT cV
            refine wp_region_held_drew (S := fun w' => Below v.heap.size v w') (by kernel_rfl) HBr.out.drew (fun HS => ?_)
            refine wpAnyH_take (i := 0) (oi := ⟨some 105, Op.fieldAddr 26 (Operand.tmp 3) 0, _, _, _, _⟩) (v := .pointer (some ⟨gt, 0, none⟩)) rfl (by kernel_rfl) (by kernel_rfl) (by kernel_rfl) (fun _ _ _ h => h) (Or.inl ⟨by rfl, fun W hW => by clear hW; go_simp <;> with_reducible rfl⟩) HS ?_
            simp only [World.size_alloc, Act.put, List.setIfInBounds_toArray, List.set_cons_succ, List.set_cons_zero]
            refine wpAnyH_take (i := 1) (oi := ⟨some 106, Op.load 24 (Operand.tmp 105), _, _, _, _⟩) (v := .slice (some ⟨b, off, none⟩) ms.length vc) rfl (by kernel_rfl) (by kernel_rfl) (by kernel_rfl) (fun _ _ _ h => h) (Or.inl ⟨by rfl, fun W hW => by have c9 := c_of (HT.out W hW); clear hW; go_simp <;> with_reducible rfl⟩) HS ?_
            simp only [World.size_alloc, Act.put, List.setIfInBounds_toArray, List.set_cons_succ, List.set_cons_zero]
            refine wpAnyH_take (i := 2) (oi := ⟨some 107, Op.fieldAddr 26 (Operand.tmp 3) 0, _, _, _, _⟩) (v := .pointer (some ⟨gt, 0, none⟩)) rfl (by kernel_rfl) (by kernel_rfl) (by kernel_rfl) (fun _ _ _ h => h) (Or.inl ⟨by rfl, fun W hW => by clear hW; go_simp <;> with_reducible rfl⟩) HS ?_
            simp only [World.size_alloc, Act.put, List.setIfInBounds_toArray, List.set_cons_succ, List.set_cons_zero]
            refine wpAnyH_take (i := 3) (oi := ⟨some 108, Op.load 24 (Operand.tmp 107), _, _, _, _⟩) (v := .slice (some ⟨b, off, none⟩) ms.length vc) rfl (by kernel_rfl) (by kernel_rfl) (by kernel_rfl) (fun _ _ _ h => h) (Or.inl ⟨by rfl, fun W hW => by have c9 := c_of (HT.out W hW); clear hW; go_simp <;> with_reducible rfl⟩) HS ?_
            simp only [World.size_alloc, Act.put, List.setIfInBounds_toArray, List.set_cons_succ, List.set_cons_zero]
            refine wpAnyH_take (i := 4) (oi := ⟨some 109, Op.move (Operand.tmp 4), _, _, _, _⟩) (v := .int .i64 z) rfl (by kernel_rfl) (by kernel_rfl) (by kernel_rfl) (fun _ _ _ h => h) (Or.inl ⟨by rfl, fun W hW => by rfl⟩) HS ?_
            simp only [World.size_alloc, Act.put, List.setIfInBounds_toArray, List.set_cons_succ, List.set_cons_zero]
            refine wpAnyH_take (i := 5) (oi := ⟨some 110, Op.binOp .sub 3 (Operand.tmp 109) (Operand.const (.int .i64 1)) 3, _, _, _, _⟩) (v := .int .i64 (p : Int)) rfl (by kernel_rfl) (by kernel_rfl) (by kernel_rfl) (fun _ _ _ h => h) (Or.inl ⟨by rfl, fun W hW => by clear hW; go_simp <;> with_reducible rfl⟩) HS ?_
            simp only [World.size_alloc, Act.put, List.setIfInBounds_toArray, List.set_cons_succ, List.set_cons_zero]
            refine wpAnyH_take (i := 6) (oi := ⟨some 111, Op.indexAddr 24 (Operand.tmp 108) (Operand.tmp 110), _, _, _, _⟩) (v := .pointer (some ⟨b, off + p * 64, none⟩)) rfl (by kernel_rfl) (by kernel_rfl) (by kernel_rfl) (fun _ _ _ h => h) (Or.inl ⟨by rfl, fun W hW => by clear hW; go_simp <;> with_reducible rfl⟩) HS ?_
            simp only [World.size_alloc, Act.put, List.setIfInBounds_toArray, List.set_cons_succ, List.set_cons_zero]
            refine wpAnyH_take (i := 7) (oi := ⟨some 112, Op.fieldAddr 61 (Operand.tmp 111) 1, _, _, _, _⟩) (v := .pointer (some ⟨b, off + p * 64 + 1, none⟩)) rfl (by kernel_rfl) (by kernel_rfl) (by kernel_rfl) (fun _ _ _ h => h) (Or.inl ⟨by rfl, fun W hW => by clear hW; go_simp <;> with_reducible rfl⟩) HS ?_
            simp only [World.size_alloc, Act.put, List.setIfInBounds_toArray, List.set_cons_succ, List.set_cons_zero]
            refine wpAnyH_take (i := 8) (oi := ⟨some 113, Op.load 59 (Operand.tmp 112), _, _, _, _⟩) (v := .slice (some ⟨kb, ko, none⟩) KL kc) rfl (by kernel_rfl) (by kernel_rfl) (by kernel_rfl) (fun _ _ _ h => h) (Or.inl ⟨by rfl, fun W hW => by have c9 := CV.out W hW; clear hW; go_simp <;> with_reducible rfl⟩) HS ?_
            simp only [World.size_alloc, Act.put, List.setIfInBounds_toArray, List.set_cons_succ, List.set_cons_zero]
            refine wpAnyH_take (i := 9) (oi := ⟨some 114, Op.move (Operand.tmp 8), _, _, _, _⟩) (v := .int .i64 (k : Int)) rfl (by kernel_rfl) (by kernel_rfl) (by kernel_rfl) (fun _ _ _ h => h) (Or.inl ⟨by rfl, fun W hW => by rfl⟩) HS ?_
            simp only [World.size_alloc, Act.put, List.setIfInBounds_toArray, List.set_cons_succ, List.set_cons_zero]
            refine wpAnyH_take (i := 10) (oi := ⟨some 115, Op.indexAddr 59 (Operand.tmp 113) (Operand.tmp 114), _, _, _, _⟩) (v := .pointer (some ⟨kb, ko + k, none⟩)) rfl (by kernel_rfl) (by kernel_rfl) (by kernel_rfl) (fun _ _ _ h => h) (Or.inl ⟨by rfl, fun W hW => by clear hW; go_simp <;> with_reducible rfl⟩) HS ?_
            simp only [World.size_alloc, Act.put, List.setIfInBounds_toArray, List.set_cons_succ, List.set_cons_zero]
            refine wpAnyH_take (i := 11) (oi := ⟨some 116, Op.load 3 (Operand.tmp 115), _, _, _, _⟩) (v := .int .i64 y) rfl (by kernel_rfl) (by kernel_rfl) (by kernel_rfl) (fun _ _ _ h => h) (Or.inl ⟨by rfl, fun W hW => by have c9 := CK.out W hW; clear hW; go_simp <;> with_reducible rfl⟩) HS ?_
            simp only [World.size_alloc, Act.put, List.setIfInBounds_toArray, List.set_cons_succ, List.set_cons_zero]
            refine wpAnyH_take (i := 12) (oi := ⟨some 117, Op.binOp .sub 3 (Operand.tmp 116) (Operand.const (.int .i64 1)) 3, _, _, _, _⟩) (v := .int .i64 (q : Int)) rfl (by kernel_rfl) (by kernel_rfl) (by kernel_rfl) (fun _ _ _ h => h) (Or.inl ⟨by rfl, fun W hW => by clear hW; go_simp <;> with_reducible rfl⟩) HS ?_
            simp only [World.size_alloc, Act.put, List.setIfInBounds_toArray, List.set_cons_succ, List.set_cons_zero]
            refine wpAnyH_take (i := 13) (oi := ⟨some 118, Op.indexAddr 24 (Operand.tmp 106) (Operand.tmp 117), _, _, _, _⟩) (v := .pointer (some ⟨b, off + q * 64, none⟩)) rfl (by kernel_rfl) (by kernel_rfl) (by kernel_rfl) (fun _ _ _ h => h) (Or.inl ⟨by rfl, fun W hW => by clear hW; go_simp <;> with_reducible rfl⟩) HS ?_
            simp only [World.size_alloc, Act.put, List.setIfInBounds_toArray, List.set_cons_succ, List.set_cons_zero]
            refine wpAnyH_take (i := 14) (oi := ⟨some 119, Op.fieldAddr 61 (Operand.tmp 118) 2, _, _, _, _⟩) (v := .pointer (some ⟨b, off + q * 64 + 2, none⟩)) rfl (by kernel_rfl) (by kernel_rfl) (by kernel_rfl) (fun _ _ _ h => h) (Or.inl ⟨by rfl, fun W hW => by clear hW; go_simp <;> with_reducible rfl⟩) HS ?_
            simp only [World.size_alloc, Act.put, List.setIfInBounds_toArray, List.set_cons_succ, List.set_cons_zero]
            refine wpAnyH_take (i := 15) (oi := ⟨some 120, Op.fieldAddr 41 (Operand.tmp 119) 7, _, _, _, _⟩) (v := .pointer (some ⟨b, off + q * 64 + 2 + 7, none⟩)) rfl (by kernel_rfl) (by kernel_rfl) (by kernel_rfl) (fun _ _ _ h => h) (Or.inl ⟨by rfl, fun W hW => by clear hW; go_simp <;> with_reducible rfl⟩) HS ?_
            simp only [World.size_alloc, Act.put, List.setIfInBounds_toArray, List.set_cons_succ, List.set_cons_zero]
            refine wpAnyH_take (i := 16) (oi := ⟨some 121, Op.load 4 (Operand.tmp 120), _, _, _, _⟩) (v := .bool hb) rfl (by kernel_rfl) (by kernel_rfl) (by kernel_rfl) (fun _ _ _ h => h) (Or.inl ⟨by rfl, fun W hW => by have c9 := CQ.out W hW; clear hW; go_simp <;> with_reducible rfl⟩) HS ?_
            simp only [World.size_alloc, Act.put, List.setIfInBounds_toArray, List.set_cons_succ, List.set_cons_zero]
            refine wpAnyH_done (by kernel_rfl) ?_ _
            cases hb
            · have h7 : hf (k + 1) = s := by rw [HST.out, ES.out]; rfl
              have H7 := Lib.hid h7
              clear h7
              go_wp2_with (fail)
              go_roundw
              case rel => exact ⟨k + 1, by omega, by rw [H7.out], by go_num, HS⟩
              case measure => simp [intOf]; omega
            · have h7 : hf (k + 1) = s + 1 := by rw [HST.out, ES.out]; rfl
              have H7 := Lib.hid h7
              clear h7
              go_wp2_with (fail)
              go_roundw
              case rel => exact ⟨k + 1, by omega, by rw [H7.out]; go_num, by go_num, HS⟩
              case measure => simp [intOf]; omega
          · have hkl : k = KL := by omega
            have hcn := HCN.out
            rw [← hkl] at hcn
            obtain ⟨s, es⟩ : ∃ q, q = hf k := ⟨_, rfl⟩
            rw [← es] at hcn ⊢
            have hlf : decide ((k : Int) < (KL : Int)) = false := decide_eq_false (by omega)
            have hwk : ¬ (k : Int) < (KL : Int) := by omega
            have HSUM := Lib.hid (show FL.length + AL.length + s = KL by omega)
            clear es
            go_wp2_with (fail)
            clear hlf hwk hlt hcn cT cV
            obtain ⟨wo, ewo⟩ : ∃ q, q = wr := ⟨_, rfl⟩
            rw [← ewo] at HBr ⊢
            clear ewo
            go_loopw [9] (fun i wr => ∃ k : Nat, 1 ≤ k ∧ k ≤ FL.length + 1 ∧ i = .int .i64 k ∧ Below v.heap.size v wr) (fun i _ => FL.length + 1 - (intOf i).toNat)
            case atStart => exact ⟨1, by omega, by omega, rfl, HBr.out⟩
            case round =>
              clear HBr hkl
              obtain ⟨k, hk1, hk2, rfl, hbr⟩ := hrel
              have HBr := Lib.hid hbr
              clear hbr
              by_cases hlt : k < FL.length
              · obtain ⟨k1, ek1⟩ : ∃ q, k = q + 1 := ⟨k - 1, by omega⟩
                have h9 := HASC.out k1 (by omega)
                rw [← ek1] at h9
                have hk1 : k1 < FL.length := by omega
                obtain ⟨fb, fo, rfl, _, hc2⟩ := (HF.out v (Below.refl _ _)).look hlt
                obtain ⟨fb', fo', e4, _, hc1⟩ := (HF.out v (Below.refl _ _)).look hk1
                simp only [Option.some.injEq, Addr.mk.injEq, and_true] at e4
                obtain ⟨rfl, rfl⟩ := e4
                have hi1 := HFI.out ht hzn (FL.getD k1 0) (by rw [List.getD_eq_getElem?_getD, List.getElem?_eq_getElem hk1]; exact List.getElem_mem hk1)
                have hi2 := HFI.out ht hzn (FL.getD k 0) (by rw [List.getD_eq_getElem?_getD, List.getElem?_eq_getElem hlt]; exact List.getElem_mem hlt)
                obtain ⟨b3, off3, q1, kv3, tv3, e5, hy1, hq1, _, _, hrg3, _, _⟩ := nd_look HN2.out hi1
                simp only [Option.some.injEq, Addr.mk.injEq, and_true] at e5
                obtain ⟨rfl, rfl⟩ := e5
                obtain ⟨b4, off4, q2, kv4, tv4, e6, hy2, hq2, _, _, hrg4, _, _⟩ := nd_look HN2.out hi2
                simp only [Option.some.injEq, Addr.mk.injEq, and_true] at e6
                obtain ⟨rfl, rfl⟩ := e6
                have hd1 : v.cell? ⟨b, off + q1 * 64 + 2 + 8, none⟩ = some (.int .i64 (ordK ns (FL.getD k1 0))) := hrg3 (2 + 8) _ (nL_sty 8 (by decide))
                have hd2 : v.cell? ⟨b, off + q2 * 64 + 2 + 8, none⟩ = some (.int .i64 (ordK ns (FL.getD k 0))) := hrg4 (2 + 8) _ (nL_sty 8 (by decide))
                obtain ⟨y1, ey1⟩ : ∃ q, q = FL.getD k1 0 := ⟨_, rfl⟩
                obtain ⟨y2, ey2⟩ : ∃ q, q = FL.getD k 0 := ⟨_, rfl⟩
                rw [← ey1] at hc1 hy1 hd1 h9
                rw [← ey2] at hc2 hy2 hd2 h9
                obtain ⟨o1, eo1⟩ : ∃ q, q = ordK ns y1 := ⟨_, rfl⟩
                obtain ⟨o2, eo2⟩ : ∃ q, q = ordK ns y2 := ⟨_, rfl⟩
                rw [← eo1] at hd1 h9
                rw [← eo2] at hd2 h9
                have hgt : decide (o2 < o1) = false := decide_eq_false (by omega)
                have hgt2 : ¬ o2 < o1 := by omega
                have hnl := HNL.out
                have hwq1 : IntKind.i64.wrap (y1 - 1) = (q1 : Int) := by rw [IntWalk.i64_in _ (by omega)]; omega
                have hwq2 : IntKind.i64.wrap (y2 - 1) = (q2 : Int) := by rw [IntWalk.i64_in _ (by omega)]; omega
                have hwk1 : IntKind.i64.wrap ((k : Int) - 1) = (k1 : Int) := by rw [IntWalk.i64_in _ (by omega)]; omega
                have hq1m : q1 < ms.length := by omega
                have hq2m : q2 < ms.length := by omega
                have g1 : (0 : Int) ≤ (q1 : Int) := Int.natCast_nonneg _
                have g2 : (q1 : Int) < (ms.length : Int) := by omega
                have g3 : (0 : Int) ≤ (q2 : Int) := Int.natCast_nonneg _
                have g4 : (q2 : Int) < (ms.length : Int) := by omega
                have g5 : (0 : Int) ≤ (k1 : Int) := Int.natCast_nonneg _
                have g6 : (k1 : Int) < (FL.length : Int) := by omega
                have g7 : (0 : Int) ≤ (k : Int) := Int.natCast_nonneg _
                have g8 : (k : Int) < (FL.length : Int) := by omega
                have C1 := Lib.hid (fun w' (h : Below v.heap.size v w') => (h.cell (block_lt_of_cell hc1)).trans hc1)
                have C2 := Lib.hid (fun w' (h : Below v.heap.size v w') => (h.cell (block_lt_of_cell hc2)).trans hc2)
                have D1 := Lib.hid (fun w' (h : Below v.heap.size v w') => (h.cell (block_lt_of_cell hd1)).trans hd1)
                have D2 := Lib.hid (fun w' (h : Below v.heap.size v w') => (h.cell (block_lt_of_cell hd2)).trans hd2)
                clear hc1 hc2 hd1 hd2 ey1 ey2 eo1 eo2 hrg3 hrg4 hy1 hy2 hq1 hq2 hi1 hi2 h9 ek1 hnl
                go_wp2_with (fail)
                refine wp_region_held_drew (S := fun w' => Below v.heap.size v w') (by kernel_rfl) HBr.out.drew (fun HS => ?_)
                refine wpAnyH_take (i := 0) (oi := ⟨some 130, Op.fieldAddr 26 (Operand.tmp 3) 0, _, _, _, _⟩) (v := .pointer (some ⟨gt, 0, none⟩)) rfl (by kernel_rfl) (by kernel_rfl) (by kernel_rfl) (fun _ _ _ h => h) (Or.inl ⟨by rfl, fun W hW => by clear hW; go_simp <;> with_reducible rfl⟩) HS ?_
                simp only [World.size_alloc, Act.put, List.setIfInBounds_toArray, List.set_cons_succ, List.set_cons_zero]
                refine wpAnyH_take (i := 1) (oi := ⟨some 131, Op.load 24 (Operand.tmp 130), _, _, _, _⟩) (v := .slice (some ⟨b, off, none⟩) ms.length vc) rfl (by kernel_rfl) (by kernel_rfl) (by kernel_rfl) (fun _ _ _ h => h) (Or.inl ⟨by rfl, fun W hW => by have c9 := c_of (HT.out W hW); clear hW; go_simp <;> with_reducible rfl⟩) HS ?_
                simp only [World.size_alloc, Act.put, List.setIfInBounds_toArray, List.set_cons_succ, List.set_cons_zero]
                refine wpAnyH_take (i := 2) (oi := ⟨some 132, Op.move (Operand.tmp 5), _, _, _, _⟩) (v := .slice (some ⟨fb, fo, none⟩) FL.length fc) rfl (by kernel_rfl) (by kernel_rfl) (by kernel_rfl) (fun _ _ _ h => h) (Or.inl ⟨by rfl, fun W hW => by rfl⟩) HS ?_
                simp only [World.size_alloc, Act.put, List.setIfInBounds_toArray, List.set_cons_succ, List.set_cons_zero]
                refine wpAnyH_take (i := 3) (oi := ⟨some 133, Op.move (Operand.tmp 9), _, _, _, _⟩) (v := .int .i64 (k : Int)) rfl (by kernel_rfl) (by kernel_rfl) (by kernel_rfl) (fun _ _ _ h => h) (Or.inl ⟨by rfl, fun W hW => by rfl⟩) HS ?_
                simp only [World.size_alloc, Act.put, List.setIfInBounds_toArray, List.set_cons_succ, List.set_cons_zero]
                refine wpAnyH_take (i := 4) (oi := ⟨some 134, Op.binOp .sub 3 (Operand.tmp 133) (Operand.const (.int .i64 1)) 3, _, _, _, _⟩) (v := .int .i64 (k1 : Int)) rfl (by kernel_rfl) (by kernel_rfl) (by kernel_rfl) (fun _ _ _ h => h) (Or.inl ⟨by rfl, fun W hW => by clear hW; go_simp <;> with_reducible rfl⟩) HS ?_
                simp only [World.size_alloc, Act.put, List.setIfInBounds_toArray, List.set_cons_succ, List.set_cons_zero]
                refine wpAnyH_take (i := 5) (oi := ⟨some 135, Op.indexAddr 59 (Operand.tmp 132) (Operand.tmp 134), _, _, _, _⟩) (v := .pointer (some ⟨fb, fo + k1, none⟩)) rfl (by kernel_rfl) (by kernel_rfl) (by kernel_rfl) (fun _ _ _ h => h) (Or.inl ⟨by rfl, fun W hW => by clear hW; go_simp <;> with_reducible rfl⟩) HS ?_
                simp only [World.size_alloc, Act.put, List.setIfInBounds_toArray, List.set_cons_succ, List.set_cons_zero]
                refine wpAnyH_take (i := 6) (oi := ⟨some 136, Op.load 3 (Operand.tmp 135), _, _, _, _⟩) (v := .int .i64 y1) rfl (by kernel_rfl) (by kernel_rfl) (by kernel_rfl) (fun _ _ _ h => h) (Or.inl ⟨by rfl, fun W hW => by have c9 := C1.out W hW; clear hW; go_simp <;> with_reducible rfl⟩) HS ?_
                simp only [World.size_alloc, Act.put, List.setIfInBounds_toArray, List.set_cons_succ, List.set_cons_zero]
                refine wpAnyH_take (i := 7) (oi := ⟨some 137, Op.binOp .sub 3 (Operand.tmp 136) (Operand.const (.int .i64 1)) 3, _, _, _, _⟩) (v := .int .i64 (q1 : Int)) rfl (by kernel_rfl) (by kernel_rfl) (by kernel_rfl) (fun _ _ _ h => h) (Or.inl ⟨by rfl, fun W hW => by clear hW; go_simp <;> with_reducible rfl⟩) HS ?_
                simp only [World.size_alloc, Act.put, List.setIfInBounds_toArray, List.set_cons_succ, List.set_cons_zero]
                refine wpAnyH_take (i := 8) (oi := ⟨some 138, Op.indexAddr 24 (Operand.tmp 131) (Operand.tmp 137), _, _, _, _⟩) (v := .pointer (some ⟨b, off + q1 * 64, none⟩)) rfl (by kernel_rfl) (by kernel_rfl) (by kernel_rfl) (fun _ _ _ h => h) (Or.inl ⟨by rfl, fun W hW => by clear hW; go_simp <;> with_reducible rfl⟩) HS ?_
                simp only [World.size_alloc, Act.put, List.setIfInBounds_toArray, List.set_cons_succ, List.set_cons_zero]
                refine wpAnyH_take (i := 9) (oi := ⟨some 139, Op.fieldAddr 61 (Operand.tmp 138) 2, _, _, _, _⟩) (v := .pointer (some ⟨b, off + q1 * 64 + 2, none⟩)) rfl (by kernel_rfl) (by kernel_rfl) (by kernel_rfl) (fun _ _ _ h => h) (Or.inl ⟨by rfl, fun W hW => by clear hW; go_simp <;> with_reducible rfl⟩) HS ?_
                simp only [World.size_alloc, Act.put, List.setIfInBounds_toArray, List.set_cons_succ, List.set_cons_zero]
                refine wpAnyH_take (i := 10) (oi := ⟨some 140, Op.fieldAddr 41 (Operand.tmp 139) 8, _, _, _, _⟩) (v := .pointer (some ⟨b, off + q1 * 64 + 2 + 8, none⟩)) rfl (by kernel_rfl) (by kernel_rfl) (by kernel_rfl) (fun _ _ _ h => h) (Or.inl ⟨by rfl, fun W hW => by clear hW; go_simp <;> with_reducible rfl⟩) HS ?_
                simp only [World.size_alloc, Act.put, List.setIfInBounds_toArray, List.set_cons_succ, List.set_cons_zero]
                refine wpAnyH_take (i := 11) (oi := ⟨some 141, Op.load 3 (Operand.tmp 140), _, _, _, _⟩) (v := .int .i64 o1) rfl (by kernel_rfl) (by kernel_rfl) (by kernel_rfl) (fun _ _ _ h => h) (Or.inl ⟨by rfl, fun W hW => by have c9 := D1.out W hW; clear hW; go_simp <;> with_reducible rfl⟩) HS ?_
                simp only [World.size_alloc, Act.put, List.setIfInBounds_toArray, List.set_cons_succ, List.set_cons_zero]
                refine wpAnyH_take (i := 12) (oi := ⟨some 142, Op.fieldAddr 26 (Operand.tmp 3) 0, _, _, _, _⟩) (v := .pointer (some ⟨gt, 0, none⟩)) rfl (by kernel_rfl) (by kernel_rfl) (by kernel_rfl) (fun _ _ _ h => h) (Or.inl ⟨by rfl, fun W hW => by clear hW; go_simp <;> with_reducible rfl⟩) HS ?_
                simp only [World.size_alloc, Act.put, List.setIfInBounds_toArray, List.set_cons_succ, List.set_cons_zero]
                refine wpAnyH_take (i := 13) (oi := ⟨some 143, Op.load 24 (Operand.tmp 142), _, _, _, _⟩) (v := .slice (some ⟨b, off, none⟩) ms.length vc) rfl (by kernel_rfl) (by kernel_rfl) (by kernel_rfl) (fun _ _ _ h => h) (Or.inl ⟨by rfl, fun W hW => by have c9 := c_of (HT.out W hW); clear hW; go_simp <;> with_reducible rfl⟩) HS ?_
                simp only [World.size_alloc, Act.put, List.setIfInBounds_toArray, List.set_cons_succ, List.set_cons_zero]
                refine wpAnyH_take (i := 14) (oi := ⟨some 144, Op.move (Operand.tmp 5), _, _, _, _⟩) (v := .slice (some ⟨fb, fo, none⟩) FL.length fc) rfl (by kernel_rfl) (by kernel_rfl) (by kernel_rfl) (fun _ _ _ h => h) (Or.inl ⟨by rfl, fun W hW => by rfl⟩) HS ?_
                simp only [World.size_alloc, Act.put, List.setIfInBounds_toArray, List.set_cons_succ, List.set_cons_zero]
                refine wpAnyH_take (i := 15) (oi := ⟨some 145, Op.move (Operand.tmp 9), _, _, _, _⟩) (v := .int .i64 (k : Int)) rfl (by kernel_rfl) (by kernel_rfl) (by kernel_rfl) (fun _ _ _ h => h) (Or.inl ⟨by rfl, fun W hW => by rfl⟩) HS ?_
                simp only [World.size_alloc, Act.put, List.setIfInBounds_toArray, List.set_cons_succ, List.set_cons_zero]
                refine wpAnyH_take (i := 16) (oi := ⟨some 146, Op.indexAddr 59 (Operand.tmp 144) (Operand.tmp 145), _, _, _, _⟩) (v := .pointer (some ⟨fb, fo + k, none⟩)) rfl (by kernel_rfl) (by kernel_rfl) (by kernel_rfl) (fun _ _ _ h => h) (Or.inl ⟨by rfl, fun W hW => by clear hW; go_simp <;> with_reducible rfl⟩) HS ?_
                simp only [World.size_alloc, Act.put, List.setIfInBounds_toArray, List.set_cons_succ, List.set_cons_zero]
                refine wpAnyH_take (i := 17) (oi := ⟨some 147, Op.load 3 (Operand.tmp 146), _, _, _, _⟩) (v := .int .i64 y2) rfl (by kernel_rfl) (by kernel_rfl) (by kernel_rfl) (fun _ _ _ h => h) (Or.inl ⟨by rfl, fun W hW => by have c9 := C2.out W hW; clear hW; go_simp <;> with_reducible rfl⟩) HS ?_
                simp only [World.size_alloc, Act.put, List.setIfInBounds_toArray, List.set_cons_succ, List.set_cons_zero]
                refine wpAnyH_take (i := 18) (oi := ⟨some 148, Op.binOp .sub 3 (Operand.tmp 147) (Operand.const (.int .i64 1)) 3, _, _, _, _⟩) (v := .int .i64 (q2 : Int)) rfl (by kernel_rfl) (by kernel_rfl) (by kernel_rfl) (fun _ _ _ h => h) (Or.inl ⟨by rfl, fun W hW => by clear hW; go_simp <;> with_reducible rfl⟩) HS ?_
                simp only [World.size_alloc, Act.put, List.setIfInBounds_toArray, List.set_cons_succ, List.set_cons_zero]
                refine wpAnyH_take (i := 19) (oi := ⟨some 149, Op.indexAddr 24 (Operand.tmp 143) (Operand.tmp 148), _, _, _, _⟩) (v := .pointer (some ⟨b, off + q2 * 64, none⟩)) rfl (by kernel_rfl) (by kernel_rfl) (by kernel_rfl) (fun _ _ _ h => h) (Or.inl ⟨by rfl, fun W hW => by clear hW; go_simp <;> with_reducible rfl⟩) HS ?_
                simp only [World.size_alloc, Act.put, List.setIfInBounds_toArray, List.set_cons_succ, List.set_cons_zero]
                refine wpAnyH_take (i := 20) (oi := ⟨some 150, Op.fieldAddr 61 (Operand.tmp 149) 2, _, _, _, _⟩) (v := .pointer (some ⟨b, off + q2 * 64 + 2, none⟩)) rfl (by kernel_rfl) (by kernel_rfl) (by kernel_rfl) (fun _ _ _ h => h) (Or.inl ⟨by rfl, fun W hW => by clear hW; go_simp <;> with_reducible rfl⟩) HS ?_
                simp only [World.size_alloc, Act.put, List.setIfInBounds_toArray, List.set_cons_succ, List.set_cons_zero]
                refine wpAnyH_take (i := 21) (oi := ⟨some 151, Op.fieldAddr 41 (Operand.tmp 150) 8, _, _, _, _⟩) (v := .pointer (some ⟨b, off + q2 * 64 + 2 + 8, none⟩)) rfl (by kernel_rfl) (by kernel_rfl) (by kernel_rfl) (fun _ _ _ h => h) (Or.inl ⟨by rfl, fun W hW => by clear hW; go_simp <;> with_reducible rfl⟩) HS ?_
                simp only [World.size_alloc, Act.put, List.setIfInBounds_toArray, List.set_cons_succ, List.set_cons_zero]
                refine wpAnyH_take (i := 22) (oi := ⟨some 152, Op.load 3 (Operand.tmp 151), _, _, _, _⟩) (v := .int .i64 o2) rfl (by kernel_rfl) (by kernel_rfl) (by kernel_rfl) (fun _ _ _ h => h) (Or.inl ⟨by rfl, fun W hW => by have c9 := D2.out W hW; clear hW; go_simp <;> with_reducible rfl⟩) HS ?_
                simp only [World.size_alloc, Act.put, List.setIfInBounds_toArray, List.set_cons_succ, List.set_cons_zero]
                refine wpAnyH_take (i := 23) (oi := ⟨some 153, Op.binOp .gtr 3 (Operand.tmp 141) (Operand.tmp 152) 3, _, _, _, _⟩) (v := .bool false) rfl (by kernel_rfl) (by kernel_rfl) (by kernel_rfl) (fun _ _ _ h => h) (Or.inl ⟨by rfl, fun W hW => by clear hW; go_simp <;> with_reducible rfl⟩) HS ?_
                simp only [World.size_alloc, Act.put, List.setIfInBounds_toArray, List.set_cons_succ, List.set_cons_zero]
                refine wpAnyH_done (by kernel_rfl) ?_ _
                go_wp2_with (fail)
                go_roundw
                case rel => exact ⟨k + 1, by omega, by omega, by go_num, HS⟩
                case measure => simp [intOf]; omega
              · have hlf : decide ((k : Int) < (FL.length : Int)) = false := decide_eq_false (by omega)
                have hwk : ¬ (k : Int) < (FL.length : Int) := by omega
                have hs1 : IntKind.i64.wrap ((FL.length : Int) + (AL.length : Int)) = ((FL.length + AL.length : Nat) : Int) := by rw [IntWalk.i64_in _ (by omega)]; omega
                have hs2 : IntKind.i64.wrap (((FL.length + AL.length : Nat) : Int) + (s : Int)) = (KL : Int) := by have := HSUM.out; rw [IntWalk.i64_in _ (by omega)]; omega
                have hs5 : (FL.length : Int) + (AL.length : Int) + (s : Int) = (KL : Int) := by have := HSUM.out; omega
                have hs6 : wrap64 (KL : Int) = (KL : Int) := IntWalk.wrap64_in _ (by omega)
                have hs4 : wrap64 ((FL.length : Int) + (AL.length : Int) + (s : Int)) = (KL : Int) := by rw [hs5]; exact hs6
                have cT := c_of (HT.out _ HBr.out)
                have cV := CV.out _ HBr.out
                go_wp2_with (fail)
                refine (K_iu.out _ HBr.out).mono ?_
                rintro e x1 ⟨v5, rfl, r5, b5⟩
                obtain ⟨ua, uc, rfl, hi5⟩ := r5.slice HUA.out
                obtain ⟨R, hR⟩ := HU0.out ht hzn
                have hU0 : 0 < UL.length := by rw [hR]; simp
                obtain ⟨ub, uo, rfl, _, hcu⟩ := hi5.look hU0
                have hcu0 : x1.cell? ⟨ub, uo, none⟩ = some (.int .i64 z) := by
                  have h6 : UL.getD 0 0 = z := by rw [hR]; rfl
                  rw [h6] at hcu
                  exact hcu
                have HS5 := HBr.out.trans (b5.mono HBr.out.size)
                clear cT cV r5 b5 hcu hR hi5
                have cT := c_of (HT.out _ HS5)
                have cV := CV.out _ HS5
                have hrt := HRT.out ht hzn
                (try dsimp only)
                go_wp2_with (fail)
                refine (K_ir.out _ HS5).mono ?_
                rintro e x2 ⟨rfl, b6⟩
                (try dsimp only)
                go_wp2
                go_ret
                exact ⟨rfl, HB.out.trans ((HS5.trans (b6.mono HS5.size)).mono HB.out.size)⟩
  · have ht : treeB ns = false := by simpa using ht
    have hno : (nIn ns.length z && treeB ns) = false := by rw [ht, Bool.and_false]
    obtain ⟨e1, e2, e3⟩ := HNO.out hno
    subst e1 e2 e3
    have ko := K_ok.out _ HS
    rw [ht] at ko
    refine ko.mono ?_
    rintro e x0 ⟨rfl, b0⟩
    clear cT ko
    have HS1 := HS.trans (b0.mono HS.size)
    have cT := c_of (HT.out _ HS1)
    clear b0 HS
    (try dsimp only)
    go_wp2_with (fail)
    clear cT
    refine (K_ig.out _ HS1).mono ?_
    rintro e x1 ⟨rfl, bx⟩
    (try dsimp only)
    go_wp2
    go_ret
    exact ⟨rfl, HB.out.trans ((HS1.trans (bx.mono HS1.size)).mono HB.out.size)⟩
end Go.Proofs.Ytiogjbdaaplhpaa
end

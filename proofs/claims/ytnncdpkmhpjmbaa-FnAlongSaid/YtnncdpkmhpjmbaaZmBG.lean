import Derived.Test.YtnncdpkmhpjmbaaZmBF
section
namespace Go.Proofs.Ytnncdpkmhpjmbaa
open Go.ChangeShapes Go.WideShapes Go.ChangeAt Go.RowKit
set_option linter.unusedVariables false
set_option linter.unusedSimpArgs false
set_option maxRecDepth 20000

theorem apart_lt {v u : Value} {B : Nat} (h : ∀ g, v.ownBlock = some g → B ≤ g) (h' : ∀ g, u.ownBlock = some g → g < B) : v.ownBlock = none ∨ v.ownBlock ≠ u.ownBlock := by
  cases hv : v.ownBlock with
  | none => exact Or.inl rfl
  | some g =>
    refine Or.inr fun e => ?_
    have h1 := h g hv
    have h2 := h' g e.symm
    omega
theorem set_self {l : List Int} {k : Nat} {x : Int} (h : k < l.length) (hx : l.getD k 0 = x) : l.set k x = l := by
  apply List.ext_getElem?
  intro j
  rw [List.getElem?_set]
  by_cases e : k = j
  · subst e
    rw [if_pos rfl, if_pos h, List.getElem?_eq_getElem h]
    rw [← hx]; simp [List.getD, h]
  · rw [if_neg e]
def P2Rel (f : Fx) (hs : List Bool) (zs : List Int) (wB : World) (ob : Nat) (t so i : Value) (wr : World) : Prop :=
  ∃ k : Nat, k ≤ (plc hs f.xs.length).length ∧ t = .int .i64 (wsum (f.pV hs zs) k) ∧ so = .bool (((plc hs f.xs.length).take k).any fun j => decide (f.vi hs zs j ≠ 0)) ∧ i = .int .i64 k ∧
    RowI wB.heap.size (.slice (some ⟨ob, 0, none⟩) (plc hs f.xs.length).length (plc hs f.xs.length).length) ((f.pV hs zs).take k ++ (List.replicate (plc hs f.xs.length).length 0).drop k) wr ∧ Below wB.heap.size wB wr
set_option maxHeartbeats 8000000 in
theorem pass2 (w0 : World) (f : Fx) (a : Option Addr) (cap fb : Nat) (hv zv pv wv : Value) (B1 B4 ob : Nat) (hs : List Bool) (zs : List Int) (p : Nat) (wB w : World) (u6 u11 u12 u13 u14 u15 u16 u17 u18 u19 u20 u21 u22 u23 u24 u25 u26 u27 u28 u29 u30 u31 u32 u33 u34 u35 u36 u37 u38 u39 u40 u41 u42 u43 u44 u45 u46 u47 u48 u49 u50 u51 u52 u53 u54 u55 u56 u57 u58 u59 u60 u61 u62 u63 u64 u65 u66 u67 u68 u69 u70 u71 u72 u73 u74 u75 u76 u77 u78 u79 u80 u81 u82 u83 u84 u85 u86 u87 u88 u89 u90 u91 u92 u93 u94 u95 u96 u97 u98 u99 u100 u101 u102 u103 u104 u105 u106 u107 u108 u109 u110 u111 u112 u113 u114 u115 u116 u117 u118 u119 u120 u121 u122 u123 u124 u125 u126 u127 u128 u129 u130 u131 u132 u133 u134 u135 u136 u137 u138 u139 u140 u141 u142 u143 u144 u145 u146 u147 u148 u149 u150 u151 u152 u153 u154 u155 u156 u157 u158 u159 u160 u161 u162 u163 u164 u165 u166 u167 u168 u169 u170 u171 u172 u173 u174 u175 u176 u177 u178 u179 u180 u181 u182 u183 u184 u185 u186 u187 u188 u189 u190 u191 u192 u193 u194 u195 u196 u197 u198 u199 u200 u201 u202 u203 u204 u205 u206 u207 u208 u209 u210 u211 u212 u213 u214 u215 u216 u217 u218 u219 u220 u221 u222 u223 u224 u225 u226 u227 u228 u229 u230 u231 u232 u233 u234 u235 u236 u237 u238 u239 u240 u241 u242 u243 u244 u245 : Value)
    (hok : itsOk f.xs = true) (hst : f.St hs zs) (M : SxM w0 f a cap fb hv zv hs zs p wB) (RP : RowI B1 pv (f.pI hs) wB) (RW : RowI B4 wv (f.pW hs) wB)
    (np1 : pv.ownBlock = none ∨ pv.ownBlock ≠ hv.ownBlock) (np2 : pv.ownBlock = none ∨ pv.ownBlock ≠ zv.ownBlock)
    (hbB : Below wB.heap.size wB w) (RO : RowI wB.heap.size (.slice (some ⟨ob, 0, none⟩) (plc hs f.xs.length).length (plc hs f.xs.length).length) (List.replicate (plc hs f.xs.length).length 0) w) :
    Go.Code.wp Try.prog (restC 11 (Try.f101.body.getD .skip)) (bodyPost Try.prog Try.f101 (fun e w' => e = .returned (.bool true) ∧ ∃ hs' zs', SxM w0 f a cap fb hv zv hs' zs' p w' ∧ PsOut f hs zs hs' zs')) { tmps := #[.pointer (some ⟨fb, 0, none⟩), undef, .bool false, wv, pv, .int .i64 (f.al hs), u6, .int .i64 (f.fr zs), .slice (some ⟨ob, 0, none⟩) (plc hs f.xs.length).length (plc hs f.xs.length).length, .int .i64 0, .bool false, u11, u12, u13, u14, u15, u16, u17, u18, u19, u20, u21, u22, u23, u24, u25, u26, u27, u28, u29, u30, u31, u32, u33, u34, u35, u36, u37, u38, u39, u40, u41, u42, u43, u44, u45, u46, u47, u48, u49, u50, u51, u52, u53, u54, u55, u56, u57, u58, u59, u60, u61, u62, u63, u64, u65, u66, u67, u68, u69, u70, u71, u72, u73, u74, u75, u76, u77, u78, u79, u80, u81, u82, u83, u84, u85, u86, u87, u88, u89, u90, u91, u92, u93, u94, u95, u96, u97, u98, u99, u100, u101, u102, u103, u104, u105, u106, u107, u108, u109, u110, u111, u112, u113, u114, u115, u116, u117, u118, u119, u120, u121, u122, u123, u124, u125, u126, u127, u128, u129, u130, u131, u132, u133, u134, u135, u136, u137, u138, u139, u140, u141, u142, u143, u144, u145, u146, u147, u148, u149, u150, u151, u152, u153, u154, u155, u156, u157, u158, u159, u160, u161, u162, u163, u164, u165, u166, u167, u168, u169, u170, u171, u172, u173, u174, u175, u176, u177, u178, u179, u180, u181, u182, u183, u184, u185, u186, u187, u188, u189, u190, u191, u192, u193, u194, u195, u196, u197, u198, u199, u200, u201, u202, u203, u204, u205, u206, u207, u208, u209, u210, u211, u212, u213, u214, u215, u216, u217, u218, u219, u220, u221, u222, u223, u224, u225, u226, u227, u228, u229, u230, u231, u232, u233, u234, u235, u236, u237, u238, u239, u240, u241, u242, u243, u244, u245], defers := [] } w := by
  have h12 := Fx.n12 hok
  have hml := plc_len (hs := hs) f.xs.length
  have HST := Lib.hid hst
  have hpl : (f.pI hs).length = (plc hs f.xs.length).length := by simp [Fx.pI]
  have hvl : (f.pV hs zs).length = (plc hs f.xs.length).length := by simp [Fx.pV]
  have hwl : (f.pW hs).length = (plc hs f.xs.length).length := by simp [Fx.pW]
  have HSF := Lib.hid (Fx.some_fo hok hst)
  have HTO := Lib.hid (Fx.pV_all hok hst)
  obtain ⟨m, em⟩ : ∃ q, q = (plc hs f.xs.length).length := ⟨_, rfl⟩
  rw [← em] at hpl hvl hwl hml RO HTO ⊢
  obtain ⟨pa, pc, rfl, _⟩ := RP.slice (Fx.pI_all hok)
  obtain ⟨wa, wc, rfl, _⟩ := RW.slice (fun z hz => by have := Fx.pW_ok hok z hz; omega)
  rw [hpl] at RP np1 np2 ⊢
  rw [hwl] at RW ⊢
  have HRO0 := Lib.hid RO
  have HMB := Lib.hid M
  have HRPB := Lib.hid RP
  have HRWB := Lib.hid RW
  have HBB := Lib.hid hbB
  have EM := Lib.hid em
  have HVL := Lib.hid hvl
  have HOB := Lib.hid (World.ownsRow.lt RO ob rfl).1
  have NP1 := Lib.hid np1
  have NP2 := Lib.hid np2
  obtain ⟨A, eA⟩ : ∃ q, q = f.al hs := ⟨_, rfl⟩
  obtain ⟨sp, esp⟩ : ∃ q, q = f.fr zs := ⟨_, rfl⟩
  rw [← eA, ← esp]
  have EA := Lib.hid eA
  have ESP := Lib.hid esp
  clear M RP RW RO hbB em hpl hvl hwl hst np1 np2 eA esp
  refine wp_restC rfl ?_
  simp only [restC, sndC]
  go_wp2
  go_loopw [9, 10, 11] (P2Rel f hs zs wB ob) (fun _ _ i _ => m - (intOf i).toNat)
  case atStart => exact ⟨0, Nat.zero_le _, rfl, rfl, rfl, by rw [← EM.out, List.take_zero, List.drop_zero, List.nil_append]; exact HRO0.out, HBB.out⟩
  case round =>
    clear HRO0 HBB
    obtain ⟨k, hk, rfl, rfl, rfl, ho, hb⟩ := hrel
    rw [← EM.out] at hk ho
    have HRO := Lib.hid ho
    have HBR := Lib.hid hb
    have M := HMB.out.below hb
    have RP := HRPB.out.below hb
    have RW := HRWB.out.below hb
    have hll : ((f.pV hs zs).take k ++ (List.replicate m (0 : Int)).drop k).length = m := by rw [List.length_append, List.length_take, HVL.out]; simp; omega
    have HLL := Lib.hid hll
    obtain ⟨so, eso⟩ : ∃ q, q = ((plc hs f.xs.length).take k).any fun j => decide (f.vi hs zs j ≠ 0) := ⟨_, rfl⟩
    obtain ⟨sm, esm⟩ : ∃ q, q = wsum (f.pV hs zs) k := ⟨_, rfl⟩
    rw [← eso, ← esm]
    have ESO := Lib.hid eso
    have ESM := Lib.hid esm
    clear eso esm hll
    by_cases hlt : k < m
    · have hlo : (0 : Int) ≤ (k : Int) := Int.natCast_nonneg _
      have hhi : (k : Int) < (m : Int) := by omega
      obtain ⟨pk, hp1, hpn, hpf, hp4, hp5⟩ := plc_at (hs := hs) (n := f.xs.length) (i := k) (by rw [← EM.out]; exact hlt)
      have hplo : (0 : Int) ≤ (pk : Int) := Int.natCast_nonneg _
      have hphi : (pk : Int) < (f.xs.length : Int) := by omega
      have hkl : k < (plc hs f.xs.length).length := by rw [← EM.out]; exact hlt
      obtain ⟨hm1, hPI⟩ := RP.intsOf (Fx.pI_all hok)
      obtain ⟨hm2, hWI⟩ := RW.intsOf (fun z hz => by have := Fx.pW_ok hok z hz; omega)
      obtain ⟨pb, po, rfl, hpbl, hck⟩ := hPI.look hlt
      obtain ⟨wb, wo, rfl, hwbl, hwk⟩ := hWI.look hlt
      clear hm1 hm2
      rw [show (f.pI hs).getD k 0 = (pk : Int) by unfold Fx.pI; rw [← hp1]; simp [List.getD, hkl]] at hck
      rw [show (f.pW hs).getD k 0 = wtV f.gr (f.x pk) by unfold Fx.pW; rw [← hp1]; simp [List.getD, hkl]] at hwk
      have hpvk : (f.pV hs zs).getD k 0 = f.vi hs zs pk := by unfold Fx.pV; rw [← hp1]; simp [List.getD, hkl]
      have HSET := Lib.hid (show ((f.pV hs zs).take k ++ (List.replicate m (0 : Int)).drop k).set k (f.vi hs zs pk) = (f.pV hs zs).take (k + 1) ++ (List.replicate m (0 : Int)).drop (k + 1) by rw [← hpvk]; exact take_set (by rw [HVL.out]; exact hlt) (by simpa using hlt))
      have HLP := Lib.hid (show ((f.pV hs zs).take (k + 1) ++ (List.replicate m (0 : Int)).drop (k + 1)).length = m by rw [List.length_append, List.length_take, HVL.out]; simp; omega)
      have HPV := Lib.hid (show ((f.pV hs zs).take (k + 1) ++ (List.replicate m (0 : Int)).drop (k + 1)).getD k 0 = f.vi hs zs pk by rw [← hpvk, List.getD_eq_getElem?_getD, List.getElem?_append_left (by rw [List.length_take, HVL.out]; omega), List.getElem?_take_of_lt (by omega), ← List.getD_eq_getElem?_getD])
      have HZ0 := Lib.hid (show ((f.pV hs zs).take k ++ (List.replicate m (0 : Int)).drop k).getD k 0 = 0 by rw [List.getD_eq_getElem?_getD, List.getElem?_append_right (by rw [List.length_take, HVL.out]; omega), List.length_take, HVL.out, Nat.min_eq_left (by omega), Nat.sub_self, List.getElem?_drop, Nat.add_zero, List.getElem?_replicate, if_pos hlt]; rfl)
      have hsu : sm + f.vi hs zs pk = wsum (f.pV hs zs) (k + 1) := by rw [ESM.out, ← hpvk]; rfl
      have hsui := Fx.pV_in hok HST.out (show k + 1 ≤ (plc hs f.xs.length).length by omega)
      have HSOM := Lib.hid (show ∀ b, b = so → (((plc hs f.xs.length).take (k + 1)).any fun j => decide (f.vi hs zs j ≠ 0)) = (b || decide (f.vi hs zs pk ≠ 0)) from fun b hb => by
        rw [hb, ESO.out, hp5, hp4, show plc hs (pk + 1) = plc hs pk ++ [pk] from by show (if _ then _ else _) = _; rw [if_neg (by rw [hpf]; decide)], List.any_append]
        simp)
      obtain ⟨c0, c1, c2, c3, c4, c5, c6⟩ := M.cells
      obtain ⟨b, off, rfl, hbl, hrg⟩ := M.itsN.look hpn
      have hx : f.x pk = itD f.xs pk := rfl
      rw [← hx] at hrg
      have hA := Fx.al_pos hok HST.out hpn hpf
      have hvo := Fx.vi_over (hs := hs) (zs := zs) hok hA hpn
      have hzk : zs.getD pk 0 = (f.x pk).base := ((HST.out.2.2 pk hpn).2.2 hpf).1
      have e1 := Fx.sz_in hok HST.out hpn
      have e2 := Fx.fw_in (hs := hs) (zs := zs) hok hpn
      have e3 := Fx.tg_in hok HST.out hpn
      have e4 := Fx.le_in (hs := hs) hok hpn
      have e5 := Fx.mo_in (hs := hs) hok hpn
      have e6 := Fx.vi_in hok HST.out hpn
      have htg : f.tg hs zs pk = zs.getD pk 0 * f.al hs + f.fr zs * f.wv hs pk := rfl
      rw [Fx.wv_free hpf] at e2 htg
      rw [hzk] at e1 htg
      rw [← EA.out] at e1 e4 e5 htg hvo hA
      rw [← ESP.out] at e2 htg
      obtain ⟨wk, ewk⟩ : ∃ q, q = wtV f.gr (f.x pk) := ⟨_, rfl⟩
      obtain ⟨x, ex⟩ : ∃ q, q = f.x pk := ⟨_, rfl⟩
      obtain ⟨tg, etg⟩ : ∃ q, q = f.tg hs zs pk := ⟨_, rfl⟩
      obtain ⟨vk, evk⟩ : ∃ q, q = f.vi hs zs pk := ⟨_, rfl⟩
      rw [← ewk] at e2 htg hwk
      rw [← ex] at hrg e1 e4 e5 htg hvo
      rw [← etg] at e3 htg hvo
      rw [← evk] at e6 hvo hsu HSET HPV HSOM
      clear ewk etg hx hpvk hp1 hzk
      have hmoi : -13510798882111488 ≤ moV x * A ∧ moV x * A ≤ 13510798882111488 := by unfold moV; split <;> omega
      have hw1 : IntKind.i64.wrap (x.base * A) = x.base * A := IntWalk.i64_in _ (by omega)
      have hw2 : IntKind.i64.wrap (sp * wk) = sp * wk := IntWalk.i64_in _ (by omega)
      have hw3 : IntKind.i64.wrap (x.base * A + sp * wk) = tg := by rw [IntWalk.i64_in _ (by omega)]; exact htg.symm
      have hw4 : IntKind.i64.wrap (x.least * A) = x.least * A := IntWalk.i64_in _ (by omega)
      have hw5 : IntKind.i64.wrap (moV x * A) = moV x * A := IntWalk.i64_in _ (by omega)
      have hw6 : IntKind.i64.wrap (x.least * A - tg) = x.least * A - tg := IntWalk.i64_in _ (by omega)
      have hw7 : IntKind.i64.wrap (moV x * A - tg) = moV x * A - tg := IntWalk.i64_in _ (by omega)
      have hw8 : IntKind.i64.wrap (sm + vk) = sm + vk := IntWalk.i64_in _ (by rw [hsu]; omega)
      have hwv := (IntWalk.i64_in vk (by omega) : IntKind.i64.wrap vk = vk)
      have hwv2 := (IntWalk.wrap64_in vk (by omega) : wrap64 vk = vk)
      have HSU := Lib.hid hsu.symm
      have HVO := Lib.hid hvo
      obtain ⟨d0, d1, d2, d3, d4, d5, d6, d7, d8⟩ := rg_it hrg
      have HWK := Lib.hid hwk
      clear M RP RW ho hb hPI hWI hsu hsui hvo hrg e1 e2 e3 e4 e5 e6 htg hA c1 c2 c3 c4 c5 c6 hp4 hp5 evk ex hmoi
      go_wp2
      refine region_new 11 10 (obj := .cells #[.int .i64 0, .int .i64 0, .int .i64 0, .int .i64 0, .int .i64 0, .int .i64 0, .int .i64 0, .bool false, .bool false] 40) (by kernel_rfl) (by kernel_rfl) rfl rfl rfl (by intro a w'; go_simp) ?_
      apply Exists.intro
      refine ⟨?pp, ?ss⟩
      case pp =>
        intro W0 hW0
        have r0 := fun d os => cell_regrown (kept_cell c0 hW0) d os
        have r1 := fun d os => cell_regrown (kept_cell hck hW0) d os
        have q0 := fun d os => cell_regrown (kept_cell d0 hW0) d os
        have q1 := fun d os => cell_regrown (kept_cell d1 hW0) d os
        have q2 := fun d os => cell_regrown (kept_cell d2 hW0) d os
        have q3 := fun d os => cell_regrown (kept_cell d3 hW0) d os
        have q4 := fun d os => cell_regrown (kept_cell d4 hW0) d os
        have q5 := fun d os => cell_regrown (kept_cell d5 hW0) d os
        have q6 := fun d os => cell_regrown (kept_cell d6 hW0) d os
        have q7 := fun d os => cell_regrown (kept_cell d7 hW0) d os
        have q8 := fun d os => cell_regrown (kept_cell d8 hW0) d os
        simp [blank, nopOf]
        repeat (go_big_quiet_step (fail))
        exact wpQuiet_nil rfl
      intro gi w2 hg b2 hob
      clear c0 hck d0 d1 d2 d3 d4 d5 d6 d7 d8
      simp only [List.drop_succ_cons, List.drop_zero]
      have TH := Lib.hid (there_block hob 0 9 (by simp))
      obtain ⟨v, ev⟩ : ∃ v, v = w2.setCells gi 0 x.L := ⟨_, rfl⟩
      have bv : Below wr.heap.size wr v := ev ▸ bel_cells hg x.L 0 w2 b2
      have hown := hp_puts x.L 0 _ w2 hob
      rw [putA_all #[.int .i64 0, .int .i64 0, .int .i64 0, .int .i64 0, .int .i64 0, .int .i64 0, .int .i64 0, .bool false, .bool false] x.L rfl, ← ev] at hown
      replace hown : v.heap[gi]? = some (.cells x.A 40) := hown
      have EV := Lib.hid ev
      have wkc := kept_cell HWK.out bv
      have HOWN := Lib.hid hown
      have HBV := Lib.hid (HBR.out.trans (bv.mono HBR.out.size))
      have HRV := Lib.hid (HRO.out.below bv)
      have n0 : v.cell? ⟨gi, 0, none⟩ = some (.int .i64 x.base) := Go.Joins.cell_of_block hown 0
      have s0 := fun d os => cell_regrown n0 d os
      have s1 := fun d os => cell_regrown wkc d os
      clear ev hown b2 bv n0 wkc hob hg
      go_wp2_with (first
        | ((with_reducible apply list_store_it (x := x)); exact rfl; exact rfl; exact rfl; exact rfl; (with_reducible exact TH.out); simp only [Act.put, List.setIfInBounds_toArray, List.set_cons_succ, List.set_cons_zero])
        | (rw [← EV.out])
        | fail)
      refine wp_region_quiet_below (by kernel_rfl) (by kernel_rfl) ?_
      repeat (go_big_quiet_step (fail))
      refine wpQuiet_nil ?_
      intro _ hw'
      obtain ⟨⟨dq, osq⟩, hw''⟩ := hw'
      subst hw''
      clear s0 s1 hw1 hw2 hw3
      have b4 := below_regrown v dq osq
      obtain ⟨u, eu⟩ : ∃ q, q = Sort.grow (redrawn v dq) osq := ⟨_, rfl⟩
      rw [← eu] at b4 ⊢
      clear eu
      have hown := hp_below HOWN.out b4
      have HBU := Lib.hid (HBV.out.trans (b4.mono HBV.out.size))
      have HRU := Lib.hid (HRV.out.below b4)
      have HWU := Lib.hid hown
      have N0 : u.cell? ⟨gi, 0, none⟩ = some (.int .i64 x.base) := Go.Joins.cell_of_block hown 0
      have N1 : u.cell? ⟨gi, 1, none⟩ = some (.int .i64 x.least) := Go.Joins.cell_of_block hown 1
      have N2 : u.cell? ⟨gi, 2, none⟩ = some (.int .i64 x.most) := Go.Joins.cell_of_block hown 2
      have N3 : u.cell? ⟨gi, 3, none⟩ = some (.int .i64 x.grow) := Go.Joins.cell_of_block hown 3
      have N4 : u.cell? ⟨gi, 4, none⟩ = some (.int .i64 x.shrink) := Go.Joins.cell_of_block hown 4
      have N5 : u.cell? ⟨gi, 5, none⟩ = some (.int .i64 x.before) := Go.Joins.cell_of_block hown 5
      have N6 : u.cell? ⟨gi, 6, none⟩ = some (.int .i64 x.behind) := Go.Joins.cell_of_block hown 6
      have N7 : u.cell? ⟨gi, 7, none⟩ = some (.bool x.ab) := Go.Joins.cell_of_block hown 7
      have N8 : u.cell? ⟨gi, 8, none⟩ = some (.bool x.ah) := Go.Joins.cell_of_block hown 8
      clear b4 HRV HBV HOWN EV
      by_cases a1 : tg < x.least * A
      · have hvk2 : x.least * A - tg = vk := by rw [HVO.out, if_pos a1]
        rw [hvk2] at hw6
        obtain ⟨⟨qo, co⟩, fo8, hp3⟩ := (HRU.out).put HLL.out hlt vk
        rw [HSET.out] at hp3
        obtain ⟨u4, eu4⟩ : ∃ q, q = u.setCell ⟨ob, k, none⟩ (.int .i64 vk) := ⟨_, rfl⟩
        rw [← eu4] at hp3
        have c9 := hp3.cell HLP.out hlt
        rw [HPV.out] at c9
        have HP3 := Lib.hid hp3
        have HB3 := Lib.hid (show Below wB.heap.size wB u4 by rw [eu4]; exact bl_set (HBU.out) k HOB.out _)
        have EU4 := Lib.hid eu4
        clear hp3 eu4
        clear N0 N2 N3 N4 N5 N6 N7 N8 hw5 hw7
        have HVK2 := Lib.hid hvk2
        clear hvk2
        cases so with
        | true =>
          have HSO := Lib.hid (HSOM.out true rfl)
          go_wp2_with (first | (rw [HVK2.out]) | (rw [← EU4.out]) | fail)
          go_roundw
          case rel => exact ⟨k + 1, by rw [← EM.out]; omega, by rw [HSU.out], by rw [HSO.out]; rfl, by go_num, by rw [← EM.out]; exact HP3.out, HB3.out⟩
          case measure => simp [intOf]; omega
        | false =>
          have HSO := Lib.hid (HSOM.out false rfl)
          go_wp2_with (first | (rw [HVK2.out]) | (rw [← EU4.out]) | fail)
          go_roundw
          case rel => exact ⟨k + 1, by rw [← EM.out]; omega, by rw [HSU.out], by rw [HSO.out]; by_cases hq : vk = 0 <;> simp [hq], by go_num, by rw [← EM.out]; exact HP3.out, HB3.out⟩
          case measure => simp [intOf]; omega
      · by_cases a2 : 0 ≤ x.most ∧ moV x * A < tg
        · obtain ⟨a2, a3⟩ := a2
          have hvk2 : moV x * A - tg = vk := by rw [HVO.out, if_neg a1, if_pos ⟨a2, a3⟩]
          have HVK2 := Lib.hid hvk2
          have kc := fun (W : World) => smost x W
          obtain ⟨mo, emo⟩ : ∃ q, q = moV x := ⟨_, rfl⟩
          rw [← emo] at kc a3 hw5 hvk2
          have HVK3 := Lib.hid hvk2
          clear hvk2 emo hw6 hw7 HVK2
          go_wp2_with (fail)
          refine (kc u).mono ?_
          rintro e w5 ⟨rfl, b5⟩
          have hown5 := hp_below HWU.out b5
          have HB5 := Lib.hid (HBU.out.trans (b5.mono HBU.out.size))
          have HR5 := Lib.hid (HRU.out.below b5)
          have n0 : w5.cell? ⟨gi, 0, none⟩ = some (.int .i64 x.base) := Go.Joins.cell_of_block hown5 0
          have n1 : w5.cell? ⟨gi, 1, none⟩ = some (.int .i64 x.least) := Go.Joins.cell_of_block hown5 1
          have n2 : w5.cell? ⟨gi, 2, none⟩ = some (.int .i64 x.most) := Go.Joins.cell_of_block hown5 2
          have n3 : w5.cell? ⟨gi, 3, none⟩ = some (.int .i64 x.grow) := Go.Joins.cell_of_block hown5 3
          have n4 : w5.cell? ⟨gi, 4, none⟩ = some (.int .i64 x.shrink) := Go.Joins.cell_of_block hown5 4
          have n5 : w5.cell? ⟨gi, 5, none⟩ = some (.int .i64 x.before) := Go.Joins.cell_of_block hown5 5
          have n6 : w5.cell? ⟨gi, 6, none⟩ = some (.int .i64 x.behind) := Go.Joins.cell_of_block hown5 6
          have n7 : w5.cell? ⟨gi, 7, none⟩ = some (.bool x.ab) := Go.Joins.cell_of_block hown5 7
          have n8 : w5.cell? ⟨gi, 8, none⟩ = some (.bool x.ah) := Go.Joins.cell_of_block hown5 8
          clear N0 N1 N2 N3 N4 N5 N6 N7 N8 b5 hown5
          (try dsimp only)
          go_wp2_with (fail)
          refine (kc w5).mono ?_
          rintro e w6 ⟨rfl, b6⟩
          have HB6 := Lib.hid (HB5.out.trans (b6.mono HB5.out.size))
          have HR6 := Lib.hid (HR5.out.below b6)
          obtain ⟨⟨qo, co⟩, fo8, hp3⟩ := (HR6.out).put HLL.out hlt vk
          rw [HSET.out] at hp3
          obtain ⟨u4, eu4⟩ : ∃ q, q = w6.setCell ⟨ob, k, none⟩ (.int .i64 vk) := ⟨_, rfl⟩
          rw [← eu4] at hp3
          have c9 := hp3.cell HLP.out hlt
          rw [HPV.out] at c9
          have HP3 := Lib.hid hp3
          have HB3 := Lib.hid (show Below wB.heap.size wB u4 by rw [eu4]; exact bl_set (HB6.out) k HOB.out _)
          have EU4 := Lib.hid eu4
          clear hp3 eu4
          clear b6 n0 n1 n2 n3 n4 n5 n6 n7 n8 kc
          (try dsimp only)
          cases so with
          | true =>
            have HSO := Lib.hid (HSOM.out true rfl)
            go_wp2_with (first | (rw [HVK3.out]) | (rw [← EU4.out]) | fail)
            go_roundw
            case rel => exact ⟨k + 1, by rw [← EM.out]; omega, by rw [HSU.out], by rw [HSO.out]; rfl, by go_num, by rw [← EM.out]; exact HP3.out, HB3.out⟩
            case measure => simp [intOf]; omega
          | false =>
            have HSO := Lib.hid (HSOM.out false rfl)
            go_wp2_with (first | (rw [HVK3.out]) | (rw [← EU4.out]) | fail)
            go_roundw
            case rel => exact ⟨k + 1, by rw [← EM.out]; omega, by rw [HSU.out], by rw [HSO.out]; by_cases hq : vk = 0 <;> simp [hq], by go_num, by rw [← EM.out]; exact HP3.out, HB3.out⟩
            case measure => simp [intOf]; omega
        · have hvk0 : vk = 0 := by rw [HVO.out, if_neg a1, if_neg a2]
          have HSU2 := Lib.hid (show wsum (f.pV hs zs) (k + 1) = sm by rw [HSU.out, hvk0, Int.add_zero])
          have HSO2 := Lib.hid (show (((plc hs f.xs.length).take (k + 1)).any fun j => decide (f.vi hs zs j ≠ 0)) = so by rw [HSOM.out so rfl, hvk0]; simp)
          have HSL := Lib.hid (show (f.pV hs zs).take k ++ (List.replicate m (0 : Int)).drop k = (f.pV hs zs).take (k + 1) ++ (List.replicate m (0 : Int)).drop (k + 1) by rw [← HSET.out, hvk0]; exact (set_self (by rw [HLL.out]; exact hlt) HZ0.out).symm)
          have hsm1 : IntKind.i64.wrap sm = sm := IntWalk.i64_in _ (by have := Fx.pV_in hok HST.out (show k ≤ (plc hs f.xs.length).length by omega); rw [← ESM.out] at this; omega)
          have hsm2 : wrap64 sm = sm := IntWalk.wrap64_in _ (by have := Fx.pV_in hok HST.out (show k ≤ (plc hs f.xs.length).length by omega); rw [← ESM.out] at this; omega)
          clear hw6 hw7 hw8 hwv hwv2 hvk0
          by_cases b1 : 0 ≤ x.most
          · have b2 : ¬ moV x * A < tg := fun h => a2 ⟨b1, h⟩
            have kc := fun (W : World) => smost x W
            obtain ⟨mo, emo⟩ : ∃ q, q = moV x := ⟨_, rfl⟩
            rw [← emo] at kc hw5 b2
            clear emo
            go_wp2_with (fail)
            refine (kc u).mono ?_
            rintro e w5 ⟨rfl, b5⟩
            have HB5 := Lib.hid (HBU.out.trans (b5.mono HBU.out.size))
            have HR5 := Lib.hid (HRU.out.below b5)
            have c9 := HR5.out.cell HLL.out hlt
            rw [HZ0.out] at c9
            have HP3 := Lib.hid (show RowI wB.heap.size _ _ w5 from HSL.out ▸ HR5.out)
            have HB3 := Lib.hid HB5.out
            clear N0 N1 N2 N3 N4 N5 N6 N7 N8 b5
            (try dsimp only)
            cases so with
            | true =>
              go_wp2
              go_roundw
              case rel => exact ⟨k + 1, by rw [← EM.out]; omega, by rw [HSU2.out], by rw [HSO2.out], by go_num, by rw [← EM.out]; exact HP3.out, HB3.out⟩
              case measure => simp [intOf]; omega
            | false =>
              go_wp2
              go_roundw
              case rel => exact ⟨k + 1, by rw [← EM.out]; omega, by rw [HSU2.out], by rw [HSO2.out], by go_num, by rw [← EM.out]; exact HP3.out, HB3.out⟩
              case measure => simp [intOf]; omega
          · have c9 := HRU.out.cell HLL.out hlt
            rw [HZ0.out] at c9
            have HP3 := Lib.hid (show RowI wB.heap.size _ _ u from HSL.out ▸ HRU.out)
            have HB3 := Lib.hid HBU.out
            clear N0 N3 N4 N5 N6 N7 N8
            cases so with
            | true =>
              go_wp2
              go_roundw
              case rel => exact ⟨k + 1, by rw [← EM.out]; omega, by rw [HSU2.out], by rw [HSO2.out], by go_num, by rw [← EM.out]; exact HP3.out, HB3.out⟩
              case measure => simp [intOf]; omega
            | false =>
              go_wp2
              go_roundw
              case rel => exact ⟨k + 1, by rw [← EM.out]; omega, by rw [HSU2.out], by rw [HSO2.out], by go_num, by rw [← EM.out]; exact HP3.out, HB3.out⟩
              case measure => simp [intOf]; omega
    · obtain rfl : k = m := by omega
      have hov : (f.pV hs zs).take k ++ (List.replicate k (0 : Int)).drop k = f.pV hs zs := by rw [List.take_of_length_le (by rw [HVL.out]; exact Nat.le_refl _), List.drop_of_length_le (by simp), List.append_nil]
      have R8 := HRO.out
      rw [hov] at R8
      have HR8 := Lib.hid R8
      obtain ⟨hmm, hWI⟩ := RW.intsOf (fun z hz => by have := Fx.pW_ok hok z hz; omega)
      clear hmm
      have kh := ssh_any sp wa k wc (f.pW hs) wr hWI (by omega)
      have HWK := Lib.hid RW
      have HTF := Lib.hid (show sm = f.to hs zs by rw [ESM.out]; exact HTO.out)
      have HFF := Lib.hid (show so = f.fo hs zs by rw [ESO.out, EM.out, List.take_length]; exact HSF.out)
      have MM := Lib.hid M
      have PP := Lib.hid RP
      clear M RP RW ho hb hov R8 hWI
      go_wp2_with (fail)
      refine kh.mono ?_
      rintro e w5 ⟨sv, rfl, r5, b5⟩
      clear kh
      have M5 := MM.out.below b5
      have P5 := PP.out.below b5
      have O5 := HR8.out.below b5
      have HS5 := Lib.hid r5
      have hlo : wB.heap.size ≤ wr.heap.size := HBR.out.size
      have no1 : (Value.slice (some ⟨ob, 0, none⟩) k k).ownBlock = none ∨ (Value.slice (some ⟨ob, 0, none⟩) k k).ownBlock ≠ hv.ownBlock := apart_lt (B := wB.heap.size) (fun g hg => by have := World.ownsRow.lt O5 g hg; exact this.1) (fun g hg => (World.ownsRow.lt HMB.out.rh g hg).2)
      have no2 : (Value.slice (some ⟨ob, 0, none⟩) k k).ownBlock = none ∨ (Value.slice (some ⟨ob, 0, none⟩) k k).ownBlock ≠ zv.ownBlock := apart_lt (B := wB.heap.size) (fun g hg => by have := World.ownsRow.lt O5 g hg; exact this.1) (fun g hg => (World.ownsRow.lt HMB.out.rz g hg).2)
      have ns1 : sv.ownBlock = none ∨ sv.ownBlock ≠ hv.ownBlock := apart_lt (B := wB.heap.size) (fun g hg => by have := (World.ownsRow.lt r5 g hg).1; omega) (fun g hg => (World.ownsRow.lt HMB.out.rh g hg).2)
      have ns2 : sv.ownBlock = none ∨ sv.ownBlock ≠ zv.ownBlock := apart_lt (B := wB.heap.size) (fun g hg => by have := (World.ownsRow.lt r5 g hg).1; omega) (fun g hg => (World.ownsRow.lt HMB.out.rz g hg).2)
      clear r5
      (try dsimp only)
      go_step
      go_step
      go_step
      go_step
      go_step
      go_step
      go_step
      exact pass3 w0 f a cap fb hv zv _ _ sv B1 _ _ hs zs p w5 _ _ _ _ _ _ _ _ _ _ _ _ _ _ _ _ _ _ _ _ _ _ _ _ _ _ _ _ _ _ _ _ _ _ _ _ _ _ _ _ _ _ _ _ _ _ _ _ _ _ _ _ _ _ _ _ _ _ _ _ _ _ _ _ _ _ _ _ _ _ _ _ _ _ _ _ _ _ _ _ _ _ _ _ _ _ _ _ _ _ _ _ _ _ _ _ _ _ _ _ _ _ _ _ _ _ _ _ _ _ _ _ _ _ _ _ _ _ _ _ _ _ _ _ _ _ _ _ _ _ _ _ _ _ _ _ _ _ _ _ _ _ _ _ _ _ _ _ _ _ _ _ _ _ _ _ _ _ _ _ _ _ _ _ _ _ _ _ _ _ _ _ _ _ _ _ _ _ _ _ _ _ _ _ _ _ _ _ _ _ _ _ _ _ _ _ _ _ _ _ _ _ _ _ _ _ _ _ _ _ _ _ _ _ _ _ _ _ _ _ _ _ _ _ _ _ _ _ _ _ _ _ _ _ _ _ _ _ sm so hok HST.out HTF.out HFF.out M5 P5 O5 (by rw [← ESP.out]; exact HS5.out) NP1.out NP2.out no1 no2 ns1 ns2
end Go.Proofs.Ytnncdpkmhpjmbaa
end

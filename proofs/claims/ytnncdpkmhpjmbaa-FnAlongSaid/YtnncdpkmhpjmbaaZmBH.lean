import Derived.Maps.AppendAt
import Derived.Test.YtnncdpkmhpjmbaaZmBG
section
namespace Go.Proofs.Ytnncdpkmhpjmbaa
open Go.ChangeShapes Go.WideShapes Go.ChangeAt Go.RowKit
set_option linter.unusedVariables false
set_option linter.unusedSimpArgs false
set_option maxRecDepth 20000

def wtK (f : Fx) (hs : List Bool) (k : Nat) : List Int := (plc hs k).map fun j => wtV f.gr (f.x j)
def idK (hs : List Bool) (k : Nat) : List Int := (plc hs k).map fun (j : Nat) => (j : Int)
theorem plc_held {hs : List Bool} {k : Nat} (h : hs.getD k true = true) : plc hs (k + 1) = plc hs k := if_pos h
theorem plc_free {hs : List Bool} {k : Nat} (h : hs.getD k true = false) : plc hs (k + 1) = plc hs k ++ [k] := if_neg (by rw [h]; decide)
theorem row_app {lo : Nat} {v : Value} {L : List Int} {x : Int} {w : World} (h : w.ownsRow lo 3 1 v (L.length + 1) (L.map (Value.int .i64) ++ [.int .i64 x])) : RowI lo v (L ++ [x]) w := by
  unfold RowI
  rw [List.length_append, List.map_append]
  exact h
theorem ap_loc {u v v1 : Value} {S : Nat} (h : u.ownBlock = none ∨ u.ownBlock ≠ v.ownBlock) (hl : v1.ownBlock = v.ownBlock ∨ v1.ownBlock = some S) (hlt : ∀ g, u.ownBlock = some g → g < S) : u.ownBlock = none ∨ u.ownBlock ≠ v1.ownBlock := by
  rcases hl with e | e
  · rw [e]; exact h
  · rw [e]
    cases hu : u.ownBlock with
    | none => exact Or.inl rfl
    | some g => exact Or.inr fun e2 => by injection e2 with e2; have := hlt g hu; omega
def P1Rel (w0 : World) (f : Fx) (hs : List Bool) (w : World) (wv pv al i : Value) (wr : World) : Prop :=
  ∃ k : Nat, k ≤ f.xs.length ∧ i = .int .i64 k ∧ al = .int .i64 (wsum (f.wL hs) k) ∧ RowI w.heap.size wv (wtK f hs k) wr ∧ RowI w.heap.size pv (idK hs k) wr ∧ (wv.ownBlock = none ∨ wv.ownBlock ≠ pv.ownBlock) ∧ Below w.heap.size w wr
set_option maxHeartbeats 8000000 in
theorem spass_end (w0 : World) (f : Fx) (a : Option Addr) (cap fb : Nat) (hv zv : Value) (hs : List Bool) (zs : List Int) (p : Nat) (w : World) (hok : itsOk f.xs = true) (hlh : hs.length = f.xs.length) (hp : p < 1000000)
    (hc : hs.all id = true) (M : SxM w0 f a cap fb hv zv hs zs p w) :
    Calls Try.prog 101 #[.pointer (some ⟨fb, 0, none⟩)] w fun e w' => e = .returned (.bool false) ∧ SxM w0 f a cap fb hv zv hs zs p w' := by
  obtain ⟨i0, hi, hz0, hz1, hz2⟩ := info_parts info_intP
  have h12 := Fx.n12 hok
  have HM := Lib.hid M
  have HC := Lib.hid hc
  have HLH := Lib.hid hlh
  clear M hc hlh
  go_enter Try.func101, Try.ntmps101
  go_wp2
  have hw0 : RowI w.heap.size (.slice (some ⟨w.heap.size, 0, none⟩) 0 0) [] (w.alloc (.cells #[] 3)) := World.ownsRow_lit w #[] 0 (Nat.le_refl _) (by unfold maxLen; omega) rfl
  have b0 : Below w.heap.size w (w.alloc (.cells #[] 3)) := Go.Joins.below_alloc1 ..
  obtain ⟨w1, ew1⟩ : ∃ q, q = w.alloc (.cells #[] 3) := ⟨_, rfl⟩
  have hs1 : w.heap.size + 1 = w1.heap.size := by rw [ew1]; simp
  rw [← ew1] at hw0 b0
  have hp0 : RowI w1.heap.size (.slice (some ⟨w1.heap.size, 0, none⟩) 0 0) [] (w1.alloc (.cells #[] 3)) := World.ownsRow_lit w1 #[] 0 (Nat.le_refl _) (by unfold maxLen; omega) rfl
  have hw1 : RowI w.heap.size (.slice (some ⟨w.heap.size, 0, none⟩) 0 0) [] (w1.alloc (.cells #[] 3)) := World.ownsRow.alloc hw0 _
  have b1 : Below w.heap.size w (w1.alloc (.cells #[] 3)) := b0.alloc b0.size _
  rw [← hs1] at hp0
  have HW0 := Lib.hid hw1
  have HP0 := Lib.hid (lowI hp0 (Nat.le_succ _))
  have HB0 := Lib.hid b1
  have EW1 := Lib.hid ew1
  clear hw0 hw1 hp0 b0 b1 ew1 hs1
  go_loopw [3, 4, 5, 6] (P1Rel w0 f hs w) (fun _ _ _ i _ => f.xs.length - (intOf i).toNat)
  case atStart => exact ⟨0, Nat.zero_le _, rfl, rfl, by rw [← EW1.out]; exact HW0.out, by rw [← EW1.out]; exact HP0.out, Or.inr (by simp [Value.ownBlock]), by rw [← EW1.out]; exact HB0.out⟩
  case round =>
    clear HW0 HP0 HB0 EW1
    obtain ⟨k, hk, rfl, rfl, hW, hP, hap, hb⟩ := hrel
    have HW := Lib.hid hW
    have HP := Lib.hid hP
    have HAP := Lib.hid hap
    have HB := Lib.hid hb
    have MM := HM.out.below hb
    have HMM := Lib.hid MM
    have hal := Fx.part_in (hs := hs) hok hk
    have hP0 := Lib.hid hP
    clear hW hP hap
    by_cases hlt : k < f.xs.length
    · have hlo : (0 : Int) ≤ (k : Int) := Int.natCast_nonneg _
      have hhi : (k : Int) < (f.xs.length : Int) := by omega
      obtain ⟨c0, c1, c2, c3, c4, c5, c6⟩ := MM.cells
      obtain ⟨ha, hcp, ehv, hhk⟩ := MM.rh.slice
      obtain ⟨hbk, eha, hck, _⟩ := hhk k (by rw [HLH.out]; exact hlt)
      subst eha
      rw [HLH.out] at ehv
      subst ehv
      have hal2 := Fx.part_in (hs := hs) hok (show k + 1 ≤ f.xs.length by omega)
      have hsu : wsum (f.wL hs) (k + 1) = wsum (f.wL hs) k + f.wv hs k := by rw [← Fx.wL_at hlt]; rfl
      have hokx : itOk (f.x k) = true := Fx.okx hok hlt
      obtain ⟨hd, ehd⟩ : ∃ q, q = hs.getD k true := ⟨_, rfl⟩
      rw [← ehd] at hck
      clear MM hb hhk c1 c2 c5 c6
      cases hd with
      | true =>
        have HK := Lib.hid (show wsum (f.wL hs) (k + 1) = wsum (f.wL hs) k by rw [hsu, Fx.wv_held ehd.symm, Int.add_zero])
        have HPL := Lib.hid (plc_held (hs := hs) (k := k) ehd.symm)
        clear hsu hal2 ehd
        obtain ⟨al, eal⟩ : ∃ q, q = wsum (f.wL hs) k := ⟨_, rfl⟩
        rw [← eal] at hal HK ⊢
        clear eal
        go_wp2
        go_roundw
        case rel => exact ⟨k + 1, by omega, by go_num, by rw [HK.out], by unfold wtK; rw [HPL.out]; exact HW.out, by unfold idK; rw [HPL.out]; exact HP.out, HAP.out, HB.out⟩
        case measure => simp [intOf]; omega
      | false =>
        have HWV := Lib.hid (show f.wv hs k = wtV f.gr (f.x k) from Fx.wv_free ehd.symm)
        have HPL := Lib.hid (plc_free (hs := hs) (k := k) ehd.symm)
        rw [HWV.out] at hsu
        obtain ⟨al, eal⟩ : ∃ q, q = wsum (f.wL hs) k := ⟨_, rfl⟩
        rw [← eal] at hal hsu ⊢
        have HK := Lib.hid hsu
        have hwi := wtV_in hokx f.gr
        have hpn : (idK hs k).length ≤ 12 := by unfold idK; rw [List.length_map]; have := plc_len (hs := hs) k; omega
        have hwn : (wtK f hs k).length ≤ 12 := by unfold wtK; rw [List.length_map]; have := plc_len (hs := hs) k; omega
        have hszr := HB.out.size
        clear ehd eal hal2 hsu
        go_wp2_with (at_builtin; refine Go.wpList_append_own_at _ rfl _ _ 24 rfl w.heap.size 3 i0 (.int .i64 0) 1 8 Try.underlying24 hi hz0 hz1 hz2 rfl (by decide) _ _ _ rfl (World.ownsRow.alloc HP.out _) ⟨wr.heap.size, 0, none⟩ 1 1 [.int .i64 k] rfl rfl (one_intP _ _ _) ?c21 ?c31 ?c41 ?c51 ?_)
        case c21 => intro u hu; simp at hu; subst hu; rfl
        case c31 => unfold maxLen; omega
        case c41 => omega
        case c51 => have := hszr; simp; omega
        intro pv1 w3 hown hgr _ hloc
        have hB3 := (HB.out.alloc HB.out.size (.cells #[Value.int .i64 (k : Int)] 3)).grown hgr (by have := hszr; simp; omega) (fun g hg => (World.ownsRow.lt HP.out g hg).1)
        have W3 := RowI.kept (show RowI _ _ _ _ from World.ownsRow.alloc HW.out (.cells #[Value.int .i64 (k : Int)] 3)) hgr HAP.out
        have hIK : idK hs (k + 1) = idK hs k ++ [(k : Int)] := by unfold idK; rw [HPL.out, List.map_append]; rfl
        have P3 : RowI w.heap.size pv1 (idK hs (k + 1)) w3 := by rw [hIK]; exact row_app hown
        have AP3 := ap_loc HAP.out hloc (fun g hg => by have := (World.ownsRow.lt HW.out g hg).2; simp; omega)
        have M3 := HM.out.below hB3
        have HB3 := Lib.hid hB3
        have HW3 := Lib.hid W3
        have HP3 := Lib.hid P3
        have HAP3 := Lib.hid AP3
        obtain ⟨e0, _, _, e3, _, _, _⟩ := M3.cells
        have ks := sweight f.gr fb a cap f.xs k w3 M3.itsN hlt (by omega) hokx e0 e3
        clear hown hgr hloc hB3 W3 hIK P3 AP3 M3 c0 c3 c4 hck HW HP HAP e0 e3 hszr
        go_wp2_with (fail)
        refine ks.mono ?_
        rintro e w4 ⟨rfl, b4⟩
        have hB4 := HB3.out.trans (b4.mono HB3.out.size)
        have HB4 := Lib.hid hB4
        have HW4 := Lib.hid (HW3.out.below b4)
        have HP4 := Lib.hid (HP3.out.below b4)
        have hsz4 := hB4.size
        obtain ⟨wt, ewt⟩ : ∃ q, q = wtV f.gr (itD f.xs k) := ⟨_, rfl⟩
        have EWT := Lib.hid (show wt = wtV f.gr (f.x k) from ewt)
        rw [← ewt]
        clear b4 hB4 ks ewt
        (try dsimp only)
        go_wp2_with (at_builtin; refine Go.wpList_append_own_at _ rfl _ _ 24 rfl w.heap.size 3 i0 (.int .i64 0) 1 8 Try.underlying24 hi hz0 hz1 hz2 rfl (by decide) _ _ _ rfl (World.ownsRow.alloc HW4.out _) ⟨w4.heap.size, 0, none⟩ 1 1 [.int .i64 wt] rfl rfl (one_intP _ _ _) ?c22 ?c32 ?c42 ?c52 ?_)
        case c22 => intro u hu; simp at hu; subst hu; rfl
        case c32 => unfold maxLen; omega
        case c42 => omega
        case c52 => have := hsz4; simp; omega
        intro wv1 w5 hown hgr _ hloc
        have hB5 := (HB4.out.alloc HB4.out.size (.cells #[Value.int .i64 wt] 3)).grown hgr (by have := hsz4; simp; omega) (fun g hg => (World.ownsRow.lt HW4.out g hg).1)
        have P5 := RowI.kept (show RowI _ _ _ _ from World.ownsRow.alloc HP4.out (.cells #[Value.int .i64 wt] 3)) hgr (apart_sym HAP3.out)
        have hWK : wtK f hs (k + 1) = wtK f hs k ++ [wt] := by unfold wtK; rw [HPL.out, List.map_append, EWT.out]; rfl
        have W5 : RowI w.heap.size wv1 (wtK f hs (k + 1)) w5 := by rw [hWK]; exact row_app hown
        have AP5 := apart_sym (ap_loc (apart_sym HAP3.out) hloc (fun g hg => by have := (World.ownsRow.lt HP4.out g hg).2; simp; omega))
        have M5 := HM.out.below hB5
        have HB5 := Lib.hid hB5
        have HW5 := Lib.hid W5
        have HP5 := Lib.hid P5
        have HAP5 := Lib.hid AP5
        obtain ⟨e0, _, _, e3, _, _, _⟩ := M5.cells
        have ks := sweight f.gr fb a cap f.xs k w5 M5.itsN hlt (by omega) hokx e0 e3
        clear hown hgr hloc hB5 P5 hWK W5 AP5 M5 HB3 HB4 HW3 HP3 HW4 HP4 HAP3 e0 e3 hsz4 hokx
        go_wp2_with (fail)
        refine ks.mono ?_
        rintro e w6 ⟨rfl, b6⟩
        have HB6 := Lib.hid (HB5.out.trans (b6.mono HB5.out.size))
        have HW6 := Lib.hid (HW5.out.below b6)
        have HP6 := Lib.hid (HP5.out.below b6)
        have hwt : wtV f.gr (itD f.xs k) = wt := EWT.out.symm
        rw [hwt]
        rw [← EWT.out] at hwi
        have HK2 := Lib.hid (show wsum (f.wL hs) (k + 1) = al + wt by rw [HK.out, EWT.out])
        have hwa : IntKind.i64.wrap (al + wt) = al + wt := IntWalk.i64_in _ (by omega)
        clear b6 ks hwt HK EWT
        (try dsimp only)
        go_wp2
        go_roundw
        case rel => exact ⟨k + 1, by omega, by go_num, by rw [HK2.out], HW6.out, HP6.out, HAP5.out, HB6.out⟩
        case measure => simp [intOf]; omega
    · obtain rfl : k = f.xs.length := by omega
      have c0 := MM.cells.1
      clear MM
      have hlen : (plc hs f.xs.length).length ≤ 12 := by have := plc_len (hs := hs) f.xs.length; omega
      have hpl : (idK hs f.xs.length).length = (plc hs f.xs.length).length := by simp [idK]
      have hall : hs.all id = true ↔ (plc hs f.xs.length).length = 0 := by
        constructor
        · intro h
          cases hq : plc hs f.xs.length with
          | nil => rfl
          | cons j l =>
            have hj : j ∈ plc hs f.xs.length := by rw [hq]; simp
            have h1 := plc_lt hj
            rw [List.all_eq_true] at h
            have hjl : j < hs.length := by rw [HLH.out]; exact h1.1
            have h2 := h hs[j] (List.getElem_mem hjl)
            have h3 := h1.2
            simp [List.getD, hjl] at h3
            simp [h3] at h2
        · intro h
          rw [List.all_eq_true]
          intro b hb
          obtain ⟨j, hj, e⟩ := List.getElem_of_mem hb
          cases hbb : b with
          | true => rfl
          | false =>
            exfalso
            have : j ∈ plc hs f.xs.length := plc_mem (by rw [← HLH.out]; exact hj) (by simp [List.getD, hj, e, hbb])
            rw [List.length_eq_zero_iff.1 h] at this
            cases this
      obtain ⟨pa, pc, epv, hPI⟩ := RowI.slice hP0.out (by
        intro z hz
        obtain ⟨j, hj, rfl⟩ := List.mem_map.1 hz
        have := (plc_lt hj).1
        omega)
      rw [hpl] at epv
      subst epv
      obtain ⟨m, em⟩ : ∃ q, q = (plc hs f.xs.length).length := ⟨_, rfl⟩
      rw [← em] at hall hlen ⊢
      have HALL := Lib.hid hall
      have EM := Lib.hid em
      clear hall em hPI hpl
      have hal0 : wsum (f.wL hs) f.xs.length = f.al hs := rfl
      rw [hal0]
      have HALI := Lib.hid (Fx.al_in (hs := hs) hok)
      obtain ⟨A, eA⟩ : ∃ q, q = f.al hs := ⟨_, rfl⟩
      rw [← eA]
      have EA := Lib.hid eA
      clear eA hal0 hal
      have hm : m = 0 := HALL.out.1 HC.out
      subst hm
      go_wp2
      go_ret
      exact ⟨rfl, HMM.out⟩
set_option maxHeartbeats 8000000 in
theorem spass_go (w0 : World) (f : Fx) (a : Option Addr) (cap fb : Nat) (hv zv : Value) (hs : List Bool) (zs : List Int) (p : Nat) (w : World) (hok : itsOk f.xs = true) (hlh : hs.length = f.xs.length) (hp : p < 1000000)
    (hc : hs.all id = false ∧ f.St hs zs) (M : SxM w0 f a cap fb hv zv hs zs p w) :
    Calls Try.prog 101 #[.pointer (some ⟨fb, 0, none⟩)] w fun e w' => e = .returned (.bool true) ∧ ∃ hs' zs', SxM w0 f a cap fb hv zv hs' zs' (p + 1) w' ∧ PsOut f hs zs hs' zs' := by
  obtain ⟨i0, hi, hz0, hz1, hz2⟩ := info_parts info_intP
  have h12 := Fx.n12 hok
  have HM := Lib.hid M
  have HC := Lib.hid hc
  have HLH := Lib.hid hlh
  clear M hc hlh
  go_enter Try.func101, Try.ntmps101
  go_wp2
  have hw0 : RowI w.heap.size (.slice (some ⟨w.heap.size, 0, none⟩) 0 0) [] (w.alloc (.cells #[] 3)) := World.ownsRow_lit w #[] 0 (Nat.le_refl _) (by unfold maxLen; omega) rfl
  have b0 : Below w.heap.size w (w.alloc (.cells #[] 3)) := Go.Joins.below_alloc1 ..
  obtain ⟨w1, ew1⟩ : ∃ q, q = w.alloc (.cells #[] 3) := ⟨_, rfl⟩
  have hs1 : w.heap.size + 1 = w1.heap.size := by rw [ew1]; simp
  rw [← ew1] at hw0 b0
  have hp0 : RowI w1.heap.size (.slice (some ⟨w1.heap.size, 0, none⟩) 0 0) [] (w1.alloc (.cells #[] 3)) := World.ownsRow_lit w1 #[] 0 (Nat.le_refl _) (by unfold maxLen; omega) rfl
  have hw1 : RowI w.heap.size (.slice (some ⟨w.heap.size, 0, none⟩) 0 0) [] (w1.alloc (.cells #[] 3)) := World.ownsRow.alloc hw0 _
  have b1 : Below w.heap.size w (w1.alloc (.cells #[] 3)) := b0.alloc b0.size _
  rw [← hs1] at hp0
  have HW0 := Lib.hid hw1
  have HP0 := Lib.hid (lowI hp0 (Nat.le_succ _))
  have HB0 := Lib.hid b1
  have EW1 := Lib.hid ew1
  clear hw0 hw1 hp0 b0 b1 ew1 hs1
  go_loopw [3, 4, 5, 6] (P1Rel w0 f hs w) (fun _ _ _ i _ => f.xs.length - (intOf i).toNat)
  case atStart => exact ⟨0, Nat.zero_le _, rfl, rfl, by rw [← EW1.out]; exact HW0.out, by rw [← EW1.out]; exact HP0.out, Or.inr (by simp [Value.ownBlock]), by rw [← EW1.out]; exact HB0.out⟩
  case round =>
    clear HW0 HP0 HB0 EW1
    obtain ⟨k, hk, rfl, rfl, hW, hP, hap, hb⟩ := hrel
    have HW := Lib.hid hW
    have HP := Lib.hid hP
    have HAP := Lib.hid hap
    have HB := Lib.hid hb
    have MM := HM.out.below hb
    have HMM := Lib.hid MM
    have hal := Fx.part_in (hs := hs) hok hk
    have hP0 := Lib.hid hP
    clear hW hP hap
    by_cases hlt : k < f.xs.length
    · have hlo : (0 : Int) ≤ (k : Int) := Int.natCast_nonneg _
      have hhi : (k : Int) < (f.xs.length : Int) := by omega
      obtain ⟨c0, c1, c2, c3, c4, c5, c6⟩ := MM.cells
      obtain ⟨ha, hcp, ehv, hhk⟩ := MM.rh.slice
      obtain ⟨hbk, eha, hck, _⟩ := hhk k (by rw [HLH.out]; exact hlt)
      subst eha
      rw [HLH.out] at ehv
      subst ehv
      have hal2 := Fx.part_in (hs := hs) hok (show k + 1 ≤ f.xs.length by omega)
      have hsu : wsum (f.wL hs) (k + 1) = wsum (f.wL hs) k + f.wv hs k := by rw [← Fx.wL_at hlt]; rfl
      have hokx : itOk (f.x k) = true := Fx.okx hok hlt
      obtain ⟨hd, ehd⟩ : ∃ q, q = hs.getD k true := ⟨_, rfl⟩
      rw [← ehd] at hck
      clear MM hb hhk c1 c2 c5 c6
      cases hd with
      | true =>
        have HK := Lib.hid (show wsum (f.wL hs) (k + 1) = wsum (f.wL hs) k by rw [hsu, Fx.wv_held ehd.symm, Int.add_zero])
        have HPL := Lib.hid (plc_held (hs := hs) (k := k) ehd.symm)
        clear hsu hal2 ehd
        obtain ⟨al, eal⟩ : ∃ q, q = wsum (f.wL hs) k := ⟨_, rfl⟩
        rw [← eal] at hal HK ⊢
        clear eal
        go_wp2
        go_roundw
        case rel => exact ⟨k + 1, by omega, by go_num, by rw [HK.out], by unfold wtK; rw [HPL.out]; exact HW.out, by unfold idK; rw [HPL.out]; exact HP.out, HAP.out, HB.out⟩
        case measure => simp [intOf]; omega
      | false =>
        have HWV := Lib.hid (show f.wv hs k = wtV f.gr (f.x k) from Fx.wv_free ehd.symm)
        have HPL := Lib.hid (plc_free (hs := hs) (k := k) ehd.symm)
        rw [HWV.out] at hsu
        obtain ⟨al, eal⟩ : ∃ q, q = wsum (f.wL hs) k := ⟨_, rfl⟩
        rw [← eal] at hal hsu ⊢
        have HK := Lib.hid hsu
        have hwi := wtV_in hokx f.gr
        have hpn : (idK hs k).length ≤ 12 := by unfold idK; rw [List.length_map]; have := plc_len (hs := hs) k; omega
        have hwn : (wtK f hs k).length ≤ 12 := by unfold wtK; rw [List.length_map]; have := plc_len (hs := hs) k; omega
        have hszr := HB.out.size
        clear ehd eal hal2 hsu
        go_wp2_with (at_builtin; refine Go.wpList_append_own_at _ rfl _ _ 24 rfl w.heap.size 3 i0 (.int .i64 0) 1 8 Try.underlying24 hi hz0 hz1 hz2 rfl (by decide) _ _ _ rfl (World.ownsRow.alloc HP.out _) ⟨wr.heap.size, 0, none⟩ 1 1 [.int .i64 k] rfl rfl (one_intP _ _ _) ?c23 ?c33 ?c43 ?c53 ?_)
        case c23 => intro u hu; simp at hu; subst hu; rfl
        case c33 => unfold maxLen; omega
        case c43 => omega
        case c53 => have := hszr; simp; omega
        intro pv1 w3 hown hgr _ hloc
        have hB3 := (HB.out.alloc HB.out.size (.cells #[Value.int .i64 (k : Int)] 3)).grown hgr (by have := hszr; simp; omega) (fun g hg => (World.ownsRow.lt HP.out g hg).1)
        have W3 := RowI.kept (show RowI _ _ _ _ from World.ownsRow.alloc HW.out (.cells #[Value.int .i64 (k : Int)] 3)) hgr HAP.out
        have hIK : idK hs (k + 1) = idK hs k ++ [(k : Int)] := by unfold idK; rw [HPL.out, List.map_append]; rfl
        have P3 : RowI w.heap.size pv1 (idK hs (k + 1)) w3 := by rw [hIK]; exact row_app hown
        have AP3 := ap_loc HAP.out hloc (fun g hg => by have := (World.ownsRow.lt HW.out g hg).2; simp; omega)
        have M3 := HM.out.below hB3
        have HB3 := Lib.hid hB3
        have HW3 := Lib.hid W3
        have HP3 := Lib.hid P3
        have HAP3 := Lib.hid AP3
        obtain ⟨e0, _, _, e3, _, _, _⟩ := M3.cells
        have ks := sweight f.gr fb a cap f.xs k w3 M3.itsN hlt (by omega) hokx e0 e3
        clear hown hgr hloc hB3 W3 hIK P3 AP3 M3 c0 c3 c4 hck HW HP HAP e0 e3 hszr
        go_wp2_with (fail)
        refine ks.mono ?_
        rintro e w4 ⟨rfl, b4⟩
        have hB4 := HB3.out.trans (b4.mono HB3.out.size)
        have HB4 := Lib.hid hB4
        have HW4 := Lib.hid (HW3.out.below b4)
        have HP4 := Lib.hid (HP3.out.below b4)
        have hsz4 := hB4.size
        obtain ⟨wt, ewt⟩ : ∃ q, q = wtV f.gr (itD f.xs k) := ⟨_, rfl⟩
        have EWT := Lib.hid (show wt = wtV f.gr (f.x k) from ewt)
        rw [← ewt]
        clear b4 hB4 ks ewt
        (try dsimp only)
        go_wp2_with (at_builtin; refine Go.wpList_append_own_at _ rfl _ _ 24 rfl w.heap.size 3 i0 (.int .i64 0) 1 8 Try.underlying24 hi hz0 hz1 hz2 rfl (by decide) _ _ _ rfl (World.ownsRow.alloc HW4.out _) ⟨w4.heap.size, 0, none⟩ 1 1 [.int .i64 wt] rfl rfl (one_intP _ _ _) ?c24 ?c34 ?c44 ?c54 ?_)
        case c24 => intro u hu; simp at hu; subst hu; rfl
        case c34 => unfold maxLen; omega
        case c44 => omega
        case c54 => have := hsz4; simp; omega
        intro wv1 w5 hown hgr _ hloc
        have hB5 := (HB4.out.alloc HB4.out.size (.cells #[Value.int .i64 wt] 3)).grown hgr (by have := hsz4; simp; omega) (fun g hg => (World.ownsRow.lt HW4.out g hg).1)
        have P5 := RowI.kept (show RowI _ _ _ _ from World.ownsRow.alloc HP4.out (.cells #[Value.int .i64 wt] 3)) hgr (apart_sym HAP3.out)
        have hWK : wtK f hs (k + 1) = wtK f hs k ++ [wt] := by unfold wtK; rw [HPL.out, List.map_append, EWT.out]; rfl
        have W5 : RowI w.heap.size wv1 (wtK f hs (k + 1)) w5 := by rw [hWK]; exact row_app hown
        have AP5 := apart_sym (ap_loc (apart_sym HAP3.out) hloc (fun g hg => by have := (World.ownsRow.lt HP4.out g hg).2; simp; omega))
        have M5 := HM.out.below hB5
        have HB5 := Lib.hid hB5
        have HW5 := Lib.hid W5
        have HP5 := Lib.hid P5
        have HAP5 := Lib.hid AP5
        obtain ⟨e0, _, _, e3, _, _, _⟩ := M5.cells
        have ks := sweight f.gr fb a cap f.xs k w5 M5.itsN hlt (by omega) hokx e0 e3
        clear hown hgr hloc hB5 P5 hWK W5 AP5 M5 HB3 HB4 HW3 HP3 HW4 HP4 HAP3 e0 e3 hsz4 hokx
        go_wp2_with (fail)
        refine ks.mono ?_
        rintro e w6 ⟨rfl, b6⟩
        have HB6 := Lib.hid (HB5.out.trans (b6.mono HB5.out.size))
        have HW6 := Lib.hid (HW5.out.below b6)
        have HP6 := Lib.hid (HP5.out.below b6)
        have hwt : wtV f.gr (itD f.xs k) = wt := EWT.out.symm
        rw [hwt]
        rw [← EWT.out] at hwi
        have HK2 := Lib.hid (show wsum (f.wL hs) (k + 1) = al + wt by rw [HK.out, EWT.out])
        have hwa : IntKind.i64.wrap (al + wt) = al + wt := IntWalk.i64_in _ (by omega)
        clear b6 ks hwt HK EWT
        (try dsimp only)
        go_wp2
        go_roundw
        case rel => exact ⟨k + 1, by omega, by go_num, by rw [HK2.out], HW6.out, HP6.out, HAP5.out, HB6.out⟩
        case measure => simp [intOf]; omega
    · obtain rfl : k = f.xs.length := by omega
      have c0 := MM.cells.1
      clear MM
      have hlen : (plc hs f.xs.length).length ≤ 12 := by have := plc_len (hs := hs) f.xs.length; omega
      have hpl : (idK hs f.xs.length).length = (plc hs f.xs.length).length := by simp [idK]
      have hall : hs.all id = true ↔ (plc hs f.xs.length).length = 0 := by
        constructor
        · intro h
          cases hq : plc hs f.xs.length with
          | nil => rfl
          | cons j l =>
            have hj : j ∈ plc hs f.xs.length := by rw [hq]; simp
            have h1 := plc_lt hj
            rw [List.all_eq_true] at h
            have hjl : j < hs.length := by rw [HLH.out]; exact h1.1
            have h2 := h hs[j] (List.getElem_mem hjl)
            have h3 := h1.2
            simp [List.getD, hjl] at h3
            simp [h3] at h2
        · intro h
          rw [List.all_eq_true]
          intro b hb
          obtain ⟨j, hj, e⟩ := List.getElem_of_mem hb
          cases hbb : b with
          | true => rfl
          | false =>
            exfalso
            have : j ∈ plc hs f.xs.length := plc_mem (by rw [← HLH.out]; exact hj) (by simp [List.getD, hj, e, hbb])
            rw [List.length_eq_zero_iff.1 h] at this
            cases this
      obtain ⟨pa, pc, epv, hPI⟩ := RowI.slice hP0.out (by
        intro z hz
        obtain ⟨j, hj, rfl⟩ := List.mem_map.1 hz
        have := (plc_lt hj).1
        omega)
      rw [hpl] at epv
      subst epv
      obtain ⟨m, em⟩ : ∃ q, q = (plc hs f.xs.length).length := ⟨_, rfl⟩
      rw [← em] at hall hlen ⊢
      have HALL := Lib.hid hall
      have EM := Lib.hid em
      clear hall em hPI hpl
      have hal0 : wsum (f.wL hs) f.xs.length = f.al hs := rfl
      rw [hal0]
      have HALI := Lib.hid (Fx.al_in (hs := hs) hok)
      obtain ⟨A, eA⟩ : ∃ q, q = f.al hs := ⟨_, rfl⟩
      rw [← eA]
      have EA := Lib.hid eA
      clear eA hal0 hal
      have hm : ¬ m = 0 := fun h => by have := HALL.out.2 h; rw [HC.out.1] at this; cases this
      have hst : f.St hs zs := HC.out.2
      have HST := Lib.hid hst
      have hwp : IntKind.i64.wrap ((p : Int) + 1) = (p : Int) + 1 := IntWalk.i64_in _ (by omega)
      obtain ⟨fz6, M1'⟩ := HMM.out.putP
      obtain ⟨v1, ev1⟩ : ∃ q, q = wr.setCell ⟨fb, 6, none⟩ (.int .i64 ((p : Int) + 1)) := ⟨_, rfl⟩
      have M1 : SxM w0 f a cap fb hv zv hs zs (p + 1) v1 := ev1 ▸ M1'
      have W1 : RowI w.heap.size _ (wtK f hs f.xs.length) v1 := ev1 ▸ FxM.put_row HW.out (Or.inr fun e => by have h1 := (World.ownsRow.lt HW.out fb e).1; have := HM.out.fblt; omega)
      have P1 : RowI w.heap.size _ (idK hs f.xs.length) v1 := ev1 ▸ FxM.put_row HP.out (Or.inr fun e => by have h1 := (World.ownsRow.lt HP.out fb e).1; have := HM.out.fblt; omega)
      have EV1 := Lib.hid ev1
      have HM1 := Lib.hid M1
      have HW1 := Lib.hid W1
      have HP1 := Lib.hid P1
      have c6 := HMM.out.cells.2.2.2.2.2.2
      have hmi : ¬ (m : Int) = 0 := by omega
      have kf := sfree w0 f a cap fb hv zv hs zs (p + 1) v1 hok hst.2.1 (Fx.zs_all hst) M1
      clear M1' M1 W1 P1 ev1 hst HMM HW HP hb hm
      go_wp2_with (rw [← EV1.out])
      refine kf.mono ?_
      rintro e w2 ⟨rfl, b2⟩
      have HM2 := Lib.hid (HM1.out.below b2)
      have HW2 := Lib.hid (HW1.out.below b2)
      have HP2 := Lib.hid (HP1.out.below b2)
      clear kf b2 HM1 HW1 HP1 fz6 c6
      obtain ⟨sp, esp⟩ : ∃ q, q = f.fr zs := ⟨_, rfl⟩
      have ESP := Lib.hid esp
      rw [← esp]
      clear esp
      (try dsimp only)
      go_wp2_with (first
        | (at_make; refine wpList_make_full _ rfl _ _ 24 rfl w2.heap.size 3 i0 (.int .i64 0) 1 Try.underlying24 hi hz0 hz1 .i64 .i64 _ _ m rfl rfl rfl rfl (by rw [hz2]; omega) (by unfold maxLen; omega) (Nat.le_refl _) ?_))
      intro w3 hown3 hgrow3
      have R3 : RowI w2.heap.size (.slice (some ⟨w2.heap.size, 0, none⟩) m m) (List.replicate m 0) w3 := by
        rw [toList_madeCells_one] at hown3
        unfold RowI
        simpa using hown3
      have B3 : Below w2.heap.size w2 w3 := (Below.refl _ _).grown hgrow3 (Nat.le_refl _) (fun g hg => by cases hg)
      clear hown3 hgrow3
      go_step
      go_step
      go_step
      go_step
      go_step
      go_step
      go_step
      go_step
      go_step
      go_step
      go_step
      go_step
      go_step
      go_step
      go_step
      go_step
      go_step
      go_step
      go_step
      go_step
      go_step
      go_step
      have em := EM.out
      have ea := EA.out
      have ep := ESP.out
      have hP2 := HP2.out
      have hW2 := HW2.out
      have hM2 := HM2.out
      have hS2 := HST.out
      have hM := HM.out
      clear EM EA ESP HP2 HW2 HM2 HST HM HALL HALI HC HAP HB hP0
      subst em ea ep
      exact pass2 w0 f a cap fb hv zv _ _ w.heap.size w.heap.size w2.heap.size hs zs (p + 1) w2 w3 _ _ _ _ _ _ _ _ _ _ _ _ _ _ _ _ _ _ _ _ _ _ _ _ _ _ _ _ _ _ _ _ _ _ _ _ _ _ _ _ _ _ _ _ _ _ _ _ _ _ _ _ _ _ _ _ _ _ _ _ _ _ _ _ _ _ _ _ _ _ _ _ _ _ _ _ _ _ _ _ _ _ _ _ _ _ _ _ _ _ _ _ _ _ _ _ _ _ _ _ _ _ _ _ _ _ _ _ _ _ _ _ _ _ _ _ _ _ _ _ _ _ _ _ _ _ _ _ _ _ _ _ _ _ _ _ _ _ _ _ _ _ _ _ _ _ _ _ _ _ _ _ _ _ _ _ _ _ _ _ _ _ _ _ _ _ _ _ _ _ _ _ _ _ _ _ _ _ _ _ _ _ _ _ _ _ _ _ _ _ _ _ _ _ _ _ _ _ _ _ _ _ _ _ _ _ _ _ _ _ _ _ _ _ _ _ _ _ _ _ _ _ _ _ _ _ _ _ _ _ _ _ _ _ _ _ hok hS2 hM2 hP2 hW2 (apart_lt (B := w.heap.size) (fun g hg => (World.ownsRow.lt hP2 g hg).1) (fun g hg => (World.ownsRow.lt hM.rh g hg).2)) (apart_lt (B := w.heap.size) (fun g hg => (World.ownsRow.lt hP2 g hg).1) (fun g hg => (World.ownsRow.lt hM.rz g hg).2)) B3 R3
end Go.Proofs.Ytnncdpkmhpjmbaa
end

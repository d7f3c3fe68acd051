import Derived.BigRegion
import Derived.RegionTactic
import Derived.Deep.QuietTactic
import Derived.BigQuiet
import Derived.Test.YtiogjbdaaplhpaaZfAA
import Derived.Test.YtiogjbdaaplhpaaZfAR
section
namespace Go.Proofs.Ytiogjbdaaplhpaa
open Go.ChangeShapes Go.WideShapes Go.ChangeAt Go.RowKit
set_option linter.unusedVariables false
set_option linter.unusedSimpArgs false
set_option maxRecDepth 8000

theorem iisnan (x : Int) (w : World) :
    Calls Try.prog 150 #[.int .i64 x] w fun e w' => e = .returned (.bool false) ∧ w' = w := by
  go_enter Try.func150, Try.ntmps150
  go_wp2
  go_ret
  exact ⟨rfl, rfl⟩
def cmpZ (x y : Int) : Int := if x < y then -1 else if y < x then 1 else 0
theorem cmpZ_lt {x y : Int} : cmpZ x y < 0 ↔ x < y := by unfold cmpZ; split <;> (try split) <;> constructor <;> intro h <;> omega
theorem icompare (x y : Int) (w : World) :
    Calls Try.prog 133 #[.int .i64 x, .int .i64 y] w fun e w' => e = .returned (.int .i64 (cmpZ x y)) ∧ w' = w := by
  by_cases h1 : x < y
  · have e : cmpZ x y = -1 := by unfold cmpZ; rw [if_pos h1]
    rw [e]
    go_enter Try.func133, Try.ntmps133
    go_wp2_with (go_at_call 150; refine (iisnan _ _).mono ?_; rintro e w1 ⟨rfl, rfl⟩)
    go_ret
    exact ⟨rfl, rfl⟩
  · by_cases h2 : y < x
    · have e : cmpZ x y = 1 := by unfold cmpZ; rw [if_neg h1, if_pos h2]
      rw [e]
      have h1' : y ≤ x := by omega
      go_enter Try.func133, Try.ntmps133
      go_wp2_with (go_at_call 150; refine (iisnan _ _).mono ?_; rintro e w1 ⟨rfl, rfl⟩)
      go_ret
      exact ⟨rfl, rfl⟩
    · have e : cmpZ x y = 0 := by unfold cmpZ; rw [if_neg h1, if_neg h2]
      rw [e]
      have h1' : y ≤ x := by omega
      have h2' : x ≤ y := by omega
      go_enter Try.func133, Try.ntmps133
      go_wp2_with (go_at_call 150; refine (iisnan _ _).mono ?_; rintro e w1 ⟨rfl, rfl⟩)
      go_ret
      exact ⟨rfl, rfl⟩
theorem pK_look {w : World} {G b off : Nat} {ns : List PN} {a : Option Addr} (hL : Linked w G b off (linksOf ns)) (hz : Nds w a ns) (ha : a = some ⟨b, off, none⟩) {k : Int} (hin : nIn ns.length k = true) :
    ∃ q : Nat, w.cell? ⟨G + k.toNat, 1, none⟩ = some (.pointer (some ⟨b, off + q * 64, none⟩)) ∧ w.cell? ⟨b, off + q * 64 + 2 + 8, none⟩ = some (.int .i64 (ordK ns k)) := by
  have hp : PtrTo w G ns.length k (pK G k) := by
    have h1 := nIn_iff.1 hin
    exact ⟨G + k.toNat, rfl, Or.inl ⟨hin, by omega⟩⟩
  obtain ⟨q, upv, va, vc, _, _, _, _, c1, _, _, _, _, hnd⟩ := hL.look hz ha hp hin
  obtain ⟨kv', tv, hrg, _, _⟩ := hnd
  refine ⟨q, c1, ?_⟩
  have h := hrg (2 + 8) _ (nL_sty 8 (by omega))
  rw [sCell_int _ (by omega)] at h
  rw [show off + q * 64 + 2 + 8 = off + q * 64 + (2 + 8) by omega]
  exact h
theorem ibyorder (G b off : Nat) (ns : List PN) (a : Option Addr) (k1 k2 : Int) (w : World) (hL : Linked w G b off (linksOf ns)) (hz : Nds w a ns) (ha : a = some ⟨b, off, none⟩) (h1 : nIn ns.length k1 = true) (h2 : nIn ns.length k2 = true) :
    Calls Try.prog 93 #[pK G k1, pK G k2] w fun e w' => e = .returned (.int .i64 (cmpZ (ordK ns k1) (ordK ns k2))) ∧ Below w.heap.size w w' := by
  obtain ⟨q1, c1, d1⟩ := pK_look hL hz ha h1
  obtain ⟨q2, c2, d2⟩ := pK_look hL hz ha h2
  generalize ordK ns k1 = x1 at *
  generalize ordK ns k2 = x2 at *
  unfold pK
  generalize G + k1.toNat = s1 at *
  generalize G + k2.toNat = s2 at *
  have d1' : w.cell? ⟨b, off + q1 * 64 + 10, none⟩ = some (.int .i64 x1) := d1
  have d2' : w.cell? ⟨b, off + q2 * 64 + 10, none⟩ = some (.int .i64 x2) := d2
  clear hL hz h1 h2
  go_enter Try.func93, Try.ntmps93
  go_wp2_with (fail)
  go_quiet (first | (go_at_call 133; exact Calls.quiet_of_same (icompare _ _ _)) | fail)
  go_wp2
  go_ret
  exact ⟨rfl, below_drawn _ _⟩
def OuRel (f : Int → Int) (G lo g cap : Nat) (ks : List Int) (w : World) (iv : Value) (wr : World) : Prop :=
  ∃ i : Nat, 1 ≤ i ∧ i ≤ ks.length ∧ iv = .int .i64 i ∧ wr.ownsRow lo 84 1 (.slice (some ⟨g, 0, none⟩) ks.length cap) ks.length ((srt f (ks.take i) ++ ks.drop i).map (pK G)) ∧ Below lo w wr
def InRel (f : Int → Int) (G lo g cap i : Nat) (P : List Int) (x : Int) (ks : List Int) (w : World) (jv : Value) (wr : World) : Prop :=
  ∃ j : Nat, j ≤ i ∧ jv = .int .i64 j ∧ insJ f P x i = insJ f P x j ∧ wr.ownsRow lo 84 1 (.slice (some ⟨g, 0, none⟩) ks.length cap) ks.length ((insA P x j ++ ks.drop (i + 1)).map (pK G)) ∧ Below lo w wr
theorem pk_cell {w : World} {lo g n cap G : Nat} {L : List Int} (h : w.ownsRow lo 84 1 (.slice (some ⟨g, 0, none⟩) n cap) n (L.map (pK G))) {j : Nat} (hj : j < n) {k : Int} (hk : L[j]? = some k) : w.cell? ⟨g, j, none⟩ = some (pK G k) := by
  rw [h.cellAt j (by omega), List.getElem?_map, hk]; rfl
set_option maxHeartbeats 4000000 in
theorem iinsort (G b off : Nat) (ns : List PN) (a : Option Addr) (ks : List Int) (g cap : Nat) (W0 w : World) (hL : Linked W0 G b off (linksOf ns)) (hz : Nds W0 a ns) (ha : a = some ⟨b, off, none⟩) (hk : ∀ k ∈ ks, nIn ns.length k = true) (hn : ks.length ≤ 1048576) (hB : Below W0.heap.size W0 w) (h0 : 0 < ks.length)
    (hr : w.ownsRow W0.heap.size 84 1 (.slice (some ⟨g, 0, none⟩) ks.length cap) ks.length (ks.map (pK G))) :
    Calls Try.prog 148 #[.slice (some ⟨g, 0, none⟩) ks.length cap, .int .i64 0, .int .i64 ks.length, .func (.func 93) #[] #[]] w
      fun e w' => (∃ r, e = .returned r) ∧ w'.ownsRow W0.heap.size 84 1 (.slice (some ⟨g, 0, none⟩) ks.length cap) ks.length ((srt (ordK ns) ks).map (pK G)) ∧ Below W0.heap.size W0 w' := by
  have HL := Lib.hid hL
  have HZ := Lib.hid hz
  have HK := Lib.hid hk
  have HR := Lib.hid hr
  have HB := Lib.hid hB
  clear hL hz hk hr hB
  go_enter Try.func148, Try.ntmps148
  go_wp2_with (fail)
  go_loopw [8, 9] (fun iv _ wr => OuRel (ordK ns) G W0.heap.size g cap ks W0 iv wr) (fun iv _ _ => ks.length - (intOf iv).toNat)
  case atStart => exact ⟨1, Nat.le_refl _, h0, rfl, by rw [srt_one, List.take_append_drop]; exact HR.out, HB.out⟩
  case round =>
    obtain ⟨i, hi1, hi, rfl, hrow, hb⟩ := hrel
    have HRO := Lib.hid hrow
    have HBr := Lib.hid hb
    clear hrow hb
    have hlo : (0 : Int) ≤ (i : Int) := Int.natCast_nonneg _
    by_cases hlt : i < ks.length
    · have hhi : (i : Int) < (ks.length : Int) := by omega
      have hst := srt_take (f := ordK ns) hlt
      have hPl : (srt (ordK ns) (ks.take i)).length = i := by rw [srt_len]; simp; omega
      have hPm : ∀ k ∈ srt (ordK ns) (ks.take i), nIn ns.length k = true := fun k h => HK.out k (List.mem_of_mem_take (srt_mem _ _ k h))
      have hg : ks.getD i 0 = ks[i] := by rw [List.getD_eq_getElem?_getD, List.getElem?_eq_getElem hlt]; rfl
      have hxm : nIn ns.length (ks.getD i 0) = true := by rw [hg]; exact HK.out _ (List.getElem_mem hlt)
      have hst0 : srt (ordK ns) (ks.take i) ++ ks.drop i = insA (srt (ordK ns) (ks.take i)) (ks.getD i 0) i ++ ks.drop (i + 1) := by
        have : insA (srt (ordK ns) (ks.take i)) (ks.getD i 0) i = srt (ordK ns) (ks.take i) ++ [ks.getD i 0] := by
          have h := insA_end (srt (ordK ns) (ks.take i)) (ks.getD i 0)
          rwa [hPl] at h
        rw [this, hg, List.append_assoc, List.drop_eq_getElem_cons hlt]
        rfl
      rw [hst0] at HRO
      clear hst0 hg
      have HST := Lib.hid hst
      have HPM := Lib.hid hPm
      generalize srt (ordK ns) (ks.take i) = P at *
      generalize ks.getD i 0 = x at *
      clear hst hPm
      go_wp2_with (fail)
      go_loopw [9] (fun jv wr => InRel (ordK ns) G W0.heap.size g cap i P x ks W0 jv wr) (fun jv _ => (intOf jv).toNat)
      case atStart => exact ⟨i, Nat.le_refl _, rfl, rfl, HRO.out, HBr.out⟩
      case round =>
        obtain ⟨j, hj, rfl, hins, hrow, hb⟩ := hrel
        have HIN := Lib.hid hins
        have HROW := Lib.hid hrow
        have HBB := Lib.hid hb
        clear hins hrow hb
        have hOuter : insJ (ordK ns) P x i = j → ∃ i' : Nat, 1 ≤ i' ∧ i' ≤ ks.length ∧ ((i : Int) + 1) = (i' : Int) ∧ srt (ordK ns) (ks.take i') ++ ks.drop i' = insA P x j ++ ks.drop (i + 1) := fun e => ⟨i + 1, by omega, by omega, by omega, by rw [HST.out, e]⟩
        have HOU := Lib.hid hOuter
        clear hOuter
        rcases Nat.eq_zero_or_pos j with rfl | hjp
        · obtain ⟨i', h1, h2, h3, h4⟩ := HOU.out (by rw [HIN.out]; rfl)
          have H4 := Lib.hid h4
          have hd : decide ((0 : Int) < 0) = false := by decide
          clear h4
          simp only [Int.natCast_zero]
          go_wp2_with (fail)
          go_quiet (fail)
          go_wp2
          go_roundw
          case rel =>
            refine ⟨i', h1, h2, rfl, ?_, HBB.out.trans ((below_drawn _ _).mono HBB.out.size)⟩
            rw [H4.out]
            exact ownsRow_from HROW.out (From.of_below (below_drawn _ _))
          case measure => simp [intOf]; omega
        · obtain ⟨q, rfl⟩ : ∃ q, j = q + 1 := ⟨j - 1, by omega⟩
          have hqP : q < P.length := by omega
          have cx := pk_cell HROW.out (j := q + 1) (by omega) (insA_at P (ks.drop (i + 1)) x (by omega))
          have cy := pk_cell HROW.out (j := q) (by omega) (insA_left P (ks.drop (i + 1)) x hqP)
          have hyin : nIn ns.length (P.getD q 0) = true := by
            rw [List.getD_eq_getElem?_getD, List.getElem?_eq_getElem hqP]
            exact HPM.out _ (List.getElem_mem hqP)
          have hsw := insA_swap P (ks.drop (i + 1)) x hqP
          have hJ : insJ (ordK ns) P x (q + 1) = if ordK ns x < ordK ns (P.getD q 0) then insJ (ordK ns) P x q else q + 1 := rfl
          generalize P.getD q 0 = y at *
          have HSW := Lib.hid hsw
          have HJ := Lib.hid hJ
          have KB := Lib.hid (fun w' (h : Below wr.heap.size wr w') => ibyorder G b off ns a x y w' (HL.out.below (HBB.out.trans (h.mono HBB.out.size))) (HZ.out.below (HBB.out.trans (h.mono HBB.out.size))) ha hxm hyin)
          have hq0 : (0 : Int) ≤ (q : Int) := Int.natCast_nonneg _
          have hq1 : (q : Int) + 1 < (ks.length : Int) := by omega
          have hq2 : (q : Int) < (ks.length : Int) := by omega
          have hq3 : (0 : Int) < (q : Int) + 1 := by omega
          have hq4 : (0 : Int) ≤ (q : Int) + 1 := by omega
          have r0 := fun d os => cell_regrown cx d os
          have r1 := fun d os => cell_regrown cy d os
          clear hsw hJ
          simp only [Int.natCast_add, Int.natCast_one]
          have hcz := cmpZ_lt (x := ordK ns x) (y := ordK ns y)
          have HCZ := Lib.hid hcz
          clear hcz
          generalize cmpZ (ordK ns x) (ordK ns y) = c at *
          by_cases hc : c < 0
          · have hlt1 := HCZ.out.1 hc
            have hJ2 := HJ.out
            rw [if_pos hlt1] at hJ2
            have HJ2 := Lib.hid hJ2
            clear hJ2 hlt1
            go_wp2_with (fail)
            refine wp_region_quiet_below (by kernel_rfl) (by kernel_rfl) ?_
            (try simp only [List.append_eq, List.cons_append, List.nil_append])
            repeat (go_big_quiet_step (first
              | (go_at_call 93; exact Calls.regrown_of (KB.out _ (below_regrown wr _ _)))
              | fail))
            refine wpQuiet_nil ?_
            intro _ hw'
            obtain ⟨⟨dq, osq⟩, hw''⟩ := hw'
            subst hw''
            have hbq := below_regrown wr dq osq
            have HRQ := Lib.hid (ownsRow_from HROW.out (From.of_below hbq))
            have HBQ := Lib.hid (HBB.out.trans (hbq.mono HBB.out.size))
            replace cx := r0 dq osq
            replace cy := r1 dq osq
            generalize Sort.grow (redrawn wr dq) osq = w5 at *
            clear hbq r0 r1
            have f1 := HRQ.out.frozenAt (q + 1)
            have f0 := HRQ.out.frozenAt q
            have h1s := (HRQ.out.stored (q + 1) (pK G y)).1
            have h2s := (h1s.stored q (pK G x)).1
            rw [← List.map_set, ← List.map_set, HSW.out] at h2s
            have HS2 := Lib.hid h2s
            have hb2 := (HBQ.out.setCell (p := ⟨g, q + 1, none⟩) (HRQ.out.lt g rfl).1 (pK G y)).setCell (p := ⟨g, q, none⟩) (HRQ.out.lt g rfl).1 (pK G x)
            have HB2 := Lib.hid hb2
            clear h1s h2s hb2
            unfold pK at cx cy
            go_wp2_with (fail)
            go_region
            obtain ⟨w6, e6⟩ : ∃ w6, w6 = ((w5.setCell ⟨g, q + 1, none⟩ (pK G y)).setCell ⟨g, q, none⟩ (pK G x)).drew := ⟨_, rfl⟩
            have R6 := Lib.hid (show w6.ownsRow W0.heap.size 84 1 (.slice (some ⟨g, 0, none⟩) ks.length cap) ks.length ((insA P x q ++ ks.drop (i + 1)).map (pK G)) by rw [e6]; exact ownsRow_from HS2.out (From.of_below (Below.refl _ _).drew))
            have B6 := Lib.hid (show Below W0.heap.size W0 w6 by rw [e6]; exact HB2.out.drew)
            unfold pK at e6
            rw [← e6]
            clear e6 cx cy f0 f1
            go_wp2
            go_roundw
            case rel => exact ⟨q, by omega, by go_num, by rw [HIN.out]; exact HJ2.out, R6.out, B6.out⟩
            case measure => simp [intOf] <;> omega
          · have hle : ¬ ordK ns x < ordK ns y := fun h => hc (HCZ.out.2 h)
            have hJ2 := HJ.out
            rw [if_neg hle] at hJ2
            obtain ⟨i', h1, h2, h3, h4⟩ := HOU.out (by rw [HIN.out]; exact hJ2)
            have H4 := Lib.hid h4
            have hc' : 0 ≤ c := by omega
            clear hJ2 hle h4
            go_wp2_with (fail)
            refine wp_region_quiet_below (by kernel_rfl) (by kernel_rfl) ?_
            (try simp only [List.append_eq, List.cons_append, List.nil_append])
            repeat (go_big_quiet_step (first
              | (go_at_call 93; exact Calls.regrown_of (KB.out _ (below_regrown wr _ _)))
              | fail))
            refine wpQuiet_nil ?_
            intro _ hw'
            obtain ⟨⟨dq, osq⟩, hw''⟩ := hw'
            subst hw''
            have hbq := below_regrown wr dq osq
            have HRQ := Lib.hid (ownsRow_from HROW.out (From.of_below hbq))
            have HBQ := Lib.hid (HBB.out.trans (hbq.mono HBB.out.size))
            generalize Sort.grow (redrawn wr dq) osq = w5 at *
            clear hbq r0 r1 cx cy
            go_wp2
            go_roundw
            case rel =>
              refine ⟨i', h1, h2, rfl, ?_, HBQ.out⟩
              rw [H4.out]
              exact HRQ.out
            case measure => simp [intOf]; omega
    · obtain rfl : i = ks.length := by omega
      have hro := HRO.out
      rw [List.take_length, List.drop_length, List.append_nil] at hro
      have HRR := Lib.hid hro
      clear hro
      go_wp2
      go_end0
      exact ⟨⟨_, rfl⟩, HRR.out, HBr.out⟩
theorem iinsort0 (G : Nat) (ks : List Int) (va : Option Addr) (cap : Nat) (w : World) (h0 : ks = []) :
    Calls Try.prog 148 #[.slice va ks.length cap, .int .i64 0, .int .i64 ks.length, .func (.func 93) #[] #[]] w
      fun e w' => (∃ r, e = .returned r) ∧ w' = w := by
  subst h0
  simp only [List.length_nil, Int.natCast_zero]
  go_enter Try.func148, Try.ntmps148
  go_wp2_with (fail)
  go_loopw [8, 9] (fun iv _ wr => iv = .int .i64 1 ∧ wr = w) (fun _ _ _ => 0)
  case atStart => exact ⟨rfl, rfl⟩
  case round =>
    obtain ⟨rfl, rfl⟩ := hrel
    go_wp2
    go_end0
    exact ⟨⟨_, rfl⟩, rfl⟩
theorem RowP.form {b0 : Nat} {v : Value} {G : Nat} {ks : List Int} {w : World} (h : RowP b0 v G ks w) : ∃ va cap, v = .slice va ks.length cap := by
  rcases h.2 with ⟨e1, e2⟩ | ⟨g, cap, cur, e1, _⟩
  · exact ⟨none, 0, by rw [e1, e2]⟩
  · exact ⟨_, cap, e1⟩
/-- Sorting a row of the call's own. -/
theorem iinsortR (G b off : Nat) (ns : List PN) (a : Option Addr) (ks : List Int) (v : Value) (W0 w : World) (hL : Linked W0 G b off (linksOf ns)) (hz : Nds W0 a ns) (ha : a = some ⟨b, off, none⟩) (hk : ∀ k ∈ ks, nIn ns.length k = true) (hn : ks.length ≤ 1048576) (hB : Below W0.heap.size W0 w)
    (hr : RowP W0.heap.size v G ks w) :
    Calls Try.prog 148 #[v, .int .i64 0, .int .i64 ks.length, .func (.func 93) #[] #[]] w
      fun e w' => (∃ r, e = .returned r) ∧ RowP W0.heap.size v G (srt (ordK ns) ks) w' ∧ Below W0.heap.size W0 w' := by
  by_cases h0 : ks = []
  · obtain ⟨va, cap, rfl⟩ := RowP.form hr
    refine (iinsort0 G ks va cap w h0).mono ?_
    rintro e w' ⟨he, rfl⟩
    refine ⟨he, ?_, hB⟩
    subst h0
    exact hr
  · have hpos : 0 < ks.length := by cases ks with
      | nil => exact absurd rfl h0
      | cons k ks => simp
    rcases hr.2 with ⟨_, e2⟩ | ⟨g, cap, cur, e1, _⟩
    · omega
    · subst e1
      refine (iinsort G b off ns a ks g cap W0 w hL hz ha hk hn hB hpos hr).mono ?_
      rintro e w' ⟨he, h1, h2⟩
      refine ⟨he, ?_, h2⟩
      unfold RowP
      rw [srt_len]
      exact h1
set_option maxHeartbeats 1000000 in
theorem isort (G b off : Nat) (ns : List PN) (a : Option Addr) (ks : List Int) (v : Value) (W0 w : World) (hL : Linked W0 G b off (linksOf ns)) (hz : Nds W0 a ns) (ha : a = some ⟨b, off, none⟩) (hk : ∀ k ∈ ks, nIn ns.length k = true) (hn : ks.length ≤ 12) (hB : Below W0.heap.size W0 w)
    (hr : RowP W0.heap.size v G ks w) :
    Calls Try.prog 92 #[v, .func (.func 93) #[] #[]] w
      fun e w' => (∃ r, e = .returned r) ∧ RowP W0.heap.size v G (srt (ordK ns) ks) w' ∧ Below W0.heap.size W0 w' := by
  have K := Lib.hid (iinsortR G b off ns a ks v W0 w hL hz ha hk (by omega) hB hr)
  obtain ⟨va, cap, rfl⟩ := RowP.form hr
  have h20 : ((ks.length : Nat) : Int) < 20 := by omega
  have h20' : ¬ (20 : Int) ≤ (ks.length : Int) := by omega
  clear hL hz ha hk hB hr
  have KS : Calls Try.prog 132 #[.slice va ks.length cap, .int .i64 ks.length, .func (.func 93) #[] #[]] w
      fun e w' => (∃ r, e = .returned r) ∧ RowP W0.heap.size (.slice va ks.length cap) G (srt (ordK ns) ks) w' ∧ Below W0.heap.size W0 w' := by
    go_enter Try.func132, Try.ntmps132
    go_wp2_with (fail)
    go_loopw [7, 8] (fun av bv wr => av = .int .i64 0 ∧ bv = .int .i64 20 ∧ wr = w) (fun _ _ _ => 0)
    case atStart => exact ⟨rfl, rfl, rfl⟩
    case round =>
      obtain ⟨rfl, rfl, rfl⟩ := hrel
      go_wp2_with (fail)
      refine K.out.mono ?_
      rintro e w1 ⟨⟨r, rfl⟩, h1, h2⟩
      have H1 := Lib.hid h1
      have H2 := Lib.hid h2
      clear h1 h2
      dsimp only
      go_wp2_with (fail)
      go_loopw [6, 7, 8, 9] (fun sv _ _ _ wr => sv = .int .i64 20 ∧ wr = w1) (fun _ _ _ _ _ => 0)
      case atStart => exact ⟨rfl, rfl⟩
      case round =>
        obtain ⟨rfl, rfl⟩ := hrel
        go_wp2
        go_end0
        exact ⟨⟨_, rfl⟩, H1.out, H2.out⟩
  have KS := Lib.hid KS
  go_enter Try.func92, Try.ntmps92
  go_wp2_with (fail)
  refine KS.out.mono ?_
  rintro e w1 ⟨⟨r, rfl⟩, h1, h2⟩
  dsimp only
  go_wp2_with (fail)
  go_end0
  exact ⟨⟨_, rfl⟩, h1, h2⟩
end Go.Proofs.Ytiogjbdaaplhpaa
end

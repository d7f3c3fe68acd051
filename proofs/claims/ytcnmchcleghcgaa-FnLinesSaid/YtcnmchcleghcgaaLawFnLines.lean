/-
  For every code of bytes, laws.FnLines returns true: every item is on exactly one line, in order; a line of several items fits where lines are broken; the code reads as before. Conditions: none.
-/
import Derived.Test.YtcnmchcleghcgaaCodeIn
import Derived.Test.YtcnmchcleghcgaaLnE
import Derived.Test.YtcnmchcleghcgaaLnF
import Derived.Test.YtcnmchcleghcgaaLnL
import Derived.Test.YtcnmchcleghcgaaSmI
import Derived.Test.YtcnmchcleghcgaaSame
import Derived.BigQuiet
import Derived.Lib.QuietBelow
namespace Go.Proofs.Ytcnmchcleghcgaa.fnLines
open Go.ChangeShapes Go.WideShapes Go.ChangeAt Go.RowKit
set_option linter.unusedVariables false
set_option linter.unusedSimpArgs false
set_option maxRecDepth 20000

/-- Where line j begins. -/
def stL (ps : List (Nat × Nat)) : Nat → Nat
  | 0 => 0
  | j + 1 => (pD ps j).2
theorem st_chain {ps : List (Nat × Nat)} {n : Nat} (h : Chain 0 ps n) : ∀ j, j ≤ ps.length → Chain (stL ps j) (ps.drop j) n
  | 0, _ => h
  | j + 1, hj => by
    obtain ⟨p, hp, h1, h2, h3⟩ := chain_drop (st_chain h j (by omega)) (by omega)
    have : pD ps j = p := Option.some.inj ((pD_eq (by omega)).symm.trans hp)
    show Chain (pD ps j).2 _ _
    rw [this]; exact h3
theorem st_begin {ps : List (Nat × Nat)} {n j : Nat} (h : Chain 0 ps n) (hj : j < ps.length) : (pD ps j).1 = stL ps j ∧ stL ps j < (pD ps j).2 := by
  obtain ⟨p, hp, h1, h2, h3⟩ := chain_drop (st_chain h j (by omega)) hj
  have : pD ps j = p := Option.some.inj ((pD_eq hj).symm.trans hp)
  rw [this]; exact ⟨h1, h2⟩
theorem st_last {ps : List (Nat × Nat)} {n : Nat} (h : Chain 0 ps n) : stL ps ps.length = n := by
  have := st_chain h ps.length (Nat.le_refl _)
  rwa [List.drop_length] at this
theorem cell_lowL {w w' : World} {p : Addr} {v : Value} (h : w.cell? p = some v) (hb : Below w.heap.size w w') : w'.cell? p = some v := (hb.cell (World.block_lt_of_cell? w _ h)).trans h
theorem lit_ss2_below (w : World) : Below w.heap.size w (((w.alloc (.cells #[.int .i64 0] 3)).alloc (.cells #[.int .i64 1] 3)).alloc (.cells #[.slice (some ⟨w.heap.size, 0, none⟩) 1 1, .slice (some ⟨w.heap.size + 1, 0, none⟩) 1 1] 25)) :=
  (((Below.refl _ _).alloc (Nat.le_refl _) _).alloc (by simp) _).alloc (by simp; omega) _
theorem lit_ss2 (w : World) : Ss (((w.alloc (.cells #[.int .i64 0] 3)).alloc (.cells #[.int .i64 1] 3)).alloc (.cells #[.slice (some ⟨w.heap.size, 0, none⟩) 1 1, .slice (some ⟨w.heap.size + 1, 0, none⟩) 1 1] 25)) (some ⟨w.heap.size + 2, 0, none⟩) [[0], [1]] := by
  obtain ⟨w1, e1⟩ : ∃ q, q = w.alloc (.cells #[.int .i64 0] 3) := ⟨_, rfl⟩
  have s1 : w1.heap.size = w.heap.size + 1 := by rw [e1]; simp
  have r0 : RowI w.heap.size (.slice (some ⟨w.heap.size, 0, none⟩) 1 1) [0] w1 := e1 ▸ World.ownsRow_lit w #[.int .i64 0] 1 (Nat.le_refl _) (by unfold maxLen; omega) rfl
  obtain ⟨w2, e2⟩ : ∃ q, q = w1.alloc (.cells #[.int .i64 1] 3) := ⟨_, rfl⟩
  have s2 : w2.heap.size = w.heap.size + 2 := by rw [e2]; simp; omega
  have b2 : Below w1.heap.size w1 w2 := e2 ▸ (Below.refl _ _).alloc (Nat.le_refl _) _
  have r1 : RowI w1.heap.size (.slice (some ⟨w1.heap.size, 0, none⟩) 1 1) [1] w2 := e2 ▸ World.ownsRow_lit w1 #[.int .i64 1] 1 (Nat.le_refl _) (by unfold maxLen; omega) rfl
  rw [← e1, ← e2]
  obtain ⟨w3, e3⟩ : ∃ q, q = w2.alloc (.cells #[.slice (some ⟨w.heap.size, 0, none⟩) 1 1, .slice (some ⟨w.heap.size + 1, 0, none⟩) 1 1] 25) := ⟨_, rfl⟩
  have b3 : Below w2.heap.size w2 w3 := e3 ▸ (Below.refl _ _).alloc (Nat.le_refl _) _
  have h3 := hp_new w2 (.cells #[.slice (some ⟨w.heap.size, 0, none⟩) 1 1, .slice (some ⟨w.heap.size + 1, 0, none⟩) 1 1] 25)
  rw [← e3] at h3 ⊢
  rw [s2] at h3
  have i0 := (r0.below (b2.trans (b3.mono b2.size))).ints rfl (by intro z hz; simp at hz; omega)
  have i1 := (r1.below b3).ints rfl (by intro z hz; simp at hz; omega)
  rw [s1] at i1
  refine ⟨fun l hl z hz => ?_, Or.inr ⟨w.heap.size + 2, 0, rfl, by have := b3.size; have h4 := hp_lt h3; omega, fun k l hk => ?_⟩⟩
  · simp at hl
    rcases hl with rfl | rfl <;> (simp at hz; omega)
  · match k, hk with
    | 0, hk => obtain rfl : [0] = l := Option.some.inj hk; exact ⟨_, 1, Go.Joins.cell_of_block h3 0, i0⟩
    | 1, hk => obtain rfl : [1] = l := Option.some.inj hk; exact ⟨_, 1, Go.Joins.cell_of_block h3 1, i1⟩
    | k + 2, hk => cases hk
def HyRelL (w w0 : World) (xs : List It) (v i : Value) (wr : World) : Prop :=
  ∃ k : Nat, k ≤ xs.length ∧ i = .int .i64 k ∧ RowI w0.heap.size v ((hypL xs).take k) wr ∧ Below w0.heap.size w0 wr
set_option maxRecDepth 100000 in
set_option maxHeartbeats 8000000 in
theorem walk (a : Option Addr) (len cap : Nat) (w : World) (hl : len ≤ 1048576) (hc : Code w a len) :
    Calls Try.prog 11 #[.slice a len cap] w fun e w' => e = .returned (.bool true) ∧ Below w.heap.size w w' := by
  obtain ⟨i0, hi, hz0, hz1, hz2⟩ := info_parts info_intP
  have HC := Lib.hid hc
  go_enter Try.func11, Try.ntmps11
  go_wp2_with (first | (go_at_call 37; refine (draw_linesof a len cap w hl hc).mono ?_; rintro e w1 ⟨v1, xs, gap, room, wraps, rfl, hxl, hx, hr1, hgap, hroom, b1⟩) | (go_at_call 12; go_in))
  have HXI := Lib.hid (fun x hm => (hx x hm).inr : ∀ x ∈ xs, x.inr)
  have hcap0 := row_cap hr1
  obtain ⟨az, cz, rfl, hz⟩ := hr1.slice HXI.out
  have hcap : xs.length ≤ cz := hcap0 _ _ _ rfl
  have HZ1 := Lib.hid hz
  have B1 := Lib.hid b1
  have hl13 : xs.length ≤ 1048576 := by omega
  clear hz hr1 b1 hc hx hgap hroom hcap0
  have KI := Lib.hid (ilines az cz xs gap room wraps w1 HZ1.out hl13 hcap)
  have KS := Lib.hid (fun w' (h : Below w1.heap.size w1 w') => slines az cz xs gap room wraps w' (HZ1.out.below h) hl13)
  have KGI := Lib.hid (fun w' (h : Below w1.heap.size w1 w') => ilongest az cz xs gap room wraps w' (HZ1.out.below h) hl13 hcap)
  have KGS := Lib.hid (fun w' (h : Below w1.heap.size w1 w') => slongest az cz xs gap room wraps w' (HZ1.out.below h) hl13)
  have KOK := Lib.hid (fun w' (h : Below w1.heap.size w1 w') => sitsok az cz xs w' (HZ1.out.below h) (by omega))
  have HPOS := Lib.hid (lnK_pos (xs := xs) (gap := gap) (room := room) (wraps := wraps) xs.length)
  have HCH := Lib.hid (lnK_chain (xs := xs) (gap := gap) (room := room) (wraps := wraps) xs.length)
  have hpl : (lnK xs gap room wraps xs.length).length ≤ xs.length := lnK_len _
  have HFIT := Lib.hid (fun (hb : brk xs room wraps = true) p hp => lnK_fit (xs := xs) (gap := gap) (room := room) (wraps := wraps) hb xs.length p hp)
  unfold lnL at KS
  obtain ⟨LG, eLG⟩ : ∃ q, q = lgP xs gap (lnK xs gap room wraps xs.length) (lnK xs gap room wraps xs.length).length := ⟨_, rfl⟩
  rw [← eLG] at KGI KGS
  clear eLG
  generalize lnK xs gap room wraps xs.length = PS at *
  (try dsimp only)
  go_wp2_with (fail)
  refine KI.out.mono ?_
  rintro e w2 ⟨v2, q2, rfl, r2, b2⟩
  obtain ⟨a9, c9, e9, hss⟩ := (r2.read HPOS.out hl13).readB
  rw [List.length_map] at e9
  subst e9
  have HSS := Lib.hid hss.ss
  have C2 := Lib.hid b2
  clear r2 b2 hss KI
  have hb1 : ∀ l ∈ PS.map lineI, l.length ≤ 1048576 := fun l hl => by
    obtain ⟨p, hp, rfl⟩ := List.mem_map.1 hl
    have := HPOS.out p hp
    rw [lineI_len]; omega
  have KLO := Lib.hid (fun (x : Int) w' (h : Below w2.heap.size w2 w') => ilineof a9 c9 (PS.map lineI) x w' (HSS.out.below h) (by rw [List.length_map]; omega) hb1)
  rw [List.length_map] at KLO
  clear hb1
  (try dsimp only)
  go_wp2
  go_loopw [8, 9] (fun n i wr => ∃ j : Nat, j ≤ PS.length ∧ i = .int .i64 j ∧ n = .int .i64 (stL PS j) ∧ Below w2.heap.size w2 wr) (fun _ i _ => PS.length - (intOf i).toNat)
  case atStart => exact ⟨0, Nat.zero_le _, rfl, rfl, Below.refl _ _⟩
  case round =>
    obtain ⟨wo, ewo⟩ : ∃ q, q = wr := ⟨_, rfl⟩
    subst ewo
    obtain ⟨j, hj, rfl, rfl, hb⟩ := hrel
    have HB := Lib.hid hb
    by_cases hlt : j < PS.length
    · have hlo : (0 : Int) ≤ (j : Int) := Int.natCast_nonneg _
      have hhi : (j : Int) < (PS.length : Int) := by omega
      have hj13 : (j : Int) ≤ 13 := by omega
      obtain ⟨b, off, ak, ck, rfl, hbl, hcell, hin⟩ := (HSS.out.below hb).look (k := j) (by rw [List.length_map]; exact hlt)
      rw [lnD_map hlt] at hcell hin
      rw [lineI_len] at hcell hin
      obtain ⟨hbeg, hbeg2⟩ := st_begin HCH.out hlt
      have hpm := HPOS.out _ (pD_mem hlt)
      have HLO := Lib.hid (fun i (h1 : (pD PS j).1 ≤ i) (h2 : i < (pD PS j).2) => lo_line HCH.out hlt h1 h2)
      have HFT := Lib.hid (fun hb => HFIT.out hb _ (pD_mem hlt))
      have HNXT := Lib.hid (show stL PS (j + 1) = (pD PS j).2 from rfl)
      have HLD := Lib.hid (lnD_map hlt)
      rw [← hbeg] at hbeg2 ⊢
      obtain ⟨p, ep⟩ : ∃ q, q = pD PS j := ⟨_, rfl⟩
      rw [← ep] at hcell hin hbeg2 hpm HLO HFT HNXT HLD ⊢
      have HIN := Lib.hid hin
      have HCE := Lib.hid hcell
      obtain ⟨d, ed⟩ : ∃ q, q = p.2 - p.1 := ⟨_, rfl⟩
      rw [← ed] at hcell HCE HIN
      have hd0 : (0 : Int) < (d : Int) := by omega
      have hd1 : ¬ (d : Int) = 0 := by omega
      have HD := Lib.hid ed
      clear hin ep hbeg ed hb
      go_wp2
      go_loopw [8, 10] (fun n i w3 => ∃ k : Nat, k ≤ d ∧ i = .int .i64 k ∧ n = .int .i64 ((p.1 : Int) + k) ∧ Below w2.heap.size w2 w3 ∧ Below wo.heap.size wo w3) (fun _ i _ => d - (intOf i).toNat)
      case atStart => exact ⟨0, Nat.zero_le _, rfl, by simp, HB.out, Below.refl _ _⟩
      case round =>
        obtain ⟨k, hk, rfl, rfl, hb3, hb4⟩ := hrel
        have HB3 := Lib.hid hb3
        have HB4 := Lib.hid hb4
        have hc1 := cell_lowL HCE.out hb4
        by_cases hlt3 : k < d
        · have hin4 := HIN.out.below hb4
          obtain ⟨bk, ok, rfl, _, ci⟩ := hin4.look hlt3
          have hlk : (lineI p).getD k 0 = (p.1 : Int) + k := by
            have := lineI_at (s := p.1) (t := p.2) (k := k) (by have := HD.out; omega)
            rw [Int.natCast_add] at this
            exact this
          rw [hlk] at ci
          have hlo3 : (0 : Int) ≤ (k : Int) := Int.natCast_nonneg _
          have hhi3 : (k : Int) < (d : Int) := by omega
          have hp14 : (p.1 : Int) ≤ 13 := by omega
          have hk14 : (k : Int) ≤ 13 := by have := HD.out; omega
          have hp10 : (0 : Int) ≤ (p.1 : Int) := Int.natCast_nonneg _
          have hv := HLO.out (p.1 + k) (by omega) (by have := HD.out; omega)
          rw [Int.natCast_add] at hv
          have K4 := Lib.hid (KLO.out ((p.1 : Int) + k) wr HB3.out)
          rw [hv] at K4
          clear hin4 hlk hv hb3 hb4
          go_wp2_with (fail)
          refine K4.out.mono ?_
          rintro e w4 ⟨rfl, b4⟩
          have HB5 := Lib.hid (HB3.out.trans (b4.mono HB3.out.size))
          have HB6 := Lib.hid (HB4.out.trans (b4.mono HB4.out.size))
          clear b4 K4 ci hc1
          (try dsimp only)
          go_wp2
          go_roundw
          case rel => exact ⟨k + 1, by omega, by go_num, by go_num, HB5.out, HB6.out⟩
          case measure => simp [intOf]; omega
        · obtain rfl : k = d := by omega
          have hkk : ¬ (k : Int) < (k : Int) := by omega
          have K5 := Lib.hid (KS.out wr (C2.out.trans (HB3.out.mono C2.out.size)))
          clear hb3 hb4
          go_wp2_with (fail)
          refine K5.out.mono ?_
          rintro e w5 ⟨v5, rfl, r5, b5⟩
          obtain ⟨a5, c5, e5, hss5⟩ := r5.readP
          rw [List.length_map] at e5
          subst e5
          have HB5 := Lib.hid (HB3.out.trans (b5.mono HB3.out.size))
          have HB6 := Lib.hid (HB4.out.trans (b5.mono HB4.out.size))
          obtain ⟨b6, o6, ak6, ck6, rfl, _, hc6, hi6⟩ := hss5.ss.look (k := j) (by rw [List.length_map]; exact hlt)
          rw [HLD.out, lineI_len, ← HD.out] at hc6 hi6
          have hc7 := cell_lowL hc1 b5
          have hi7 := (HIN.out.below HB4.out).below b5
          have kk := fun W (h : Below w5.heap.size w5 W) => same_any ak6 ak k ck6 ck (lineI p) W (hi6.below h) (hi7.below h) (by have := HD.out; omega)
          have KK := Lib.hid kk
          have D1 := fun d os => cell_regrown hc6 d os
          have D2 := fun d os => cell_regrown hc7 d os
          clear r5 b5 K5 hss5 hc6 hc7 hi6 hi7 kk hc1
          (try dsimp only)
          go_wp2_with (fail)
          refine wp_region_quiet_below (by kernel_rfl) (by kernel_rfl) ?_
          repeat (go_big_quiet_step (first | (go_at_call 16; exact Calls.regrown_of (KK.out _ (below_regrown w5 _ _))) | fail))
          refine wpQuiet_nil ?_
          intro _ hw'
          obtain ⟨⟨dq, osq⟩, hw''⟩ := hw'
          obtain ⟨w6, ew6⟩ : ∃ q, q = «Sort».grow (redrawn w5 dq) osq := ⟨_, rfl⟩
          have b6' : Below w5.heap.size w5 w6 := ew6 ▸ below_regrown w5 dq osq
          rw [← ew6] at hw''
          rw [hw'']
          clear hw''
          have HB7 := Lib.hid (HB5.out.trans (b6'.mono HB5.out.size))
          have HB8 := Lib.hid (HB6.out.trans (b6'.mono HB6.out.size))
          clear D1 D2 KK ew6 b6'
          have HNEXT := Lib.hid (show (p.1 : Int) + (k : Int) = ((stL PS (j + 1) : Nat) : Int) by rw [HNXT.out]; have := HD.out; omega)
          (try dsimp only)
          cases wraps with
          | false =>
            go_wp2
            go_roundw
            case rel => exact ⟨j + 1, by omega, by go_num, congrArg (Value.int .i64) HNEXT.out, HB7.out⟩
            case measure => simp [intOf]; omega
          | true =>
            by_cases hrm : room < 0
            · go_wp2
              go_roundw
              case rel => exact ⟨j + 1, by omega, by go_num, congrArg (Value.int .i64) HNEXT.out, HB7.out⟩
              case measure => simp [intOf]; omega
            · have K7 := Lib.hid (KOK.out w6 (C2.out.trans (HB7.out.mono C2.out.size)))
              have HBRK := Lib.hid (show ∀ q, q = itsOk xs → q = true → brk xs room true = true from fun q e e2 => by unfold brk; rw [← e, e2, decide_eq_true (show 0 ≤ room by omega)]; rfl)
              obtain ⟨Q, eQ⟩ : ∃ q, q = itsOk xs := ⟨_, rfl⟩
              have HBRK2 := Lib.hid (HBRK.out Q eQ)
              rw [← eQ] at K7
              clear HBRK eQ
              go_wp2_with (fail)
              refine K7.out.mono ?_
              rintro e w7 ⟨rfl, b7⟩
              have HB9 := Lib.hid (HB7.out.trans (b7.mono HB7.out.size))
              have HB10 := Lib.hid (HB8.out.trans (b7.mono HB8.out.size))
              clear b7 K7 HB7 HB8
              (try dsimp only)
              cases Q with
              | false =>
                go_wp2
                go_roundw
                case rel => exact ⟨j + 1, by omega, by go_num, congrArg (Value.int .i64) HNEXT.out, HB9.out⟩
                case measure => simp [intOf]; omega
              | true =>
                have HBK := Lib.hid (HBRK2.out rfl)
                have hc8 := cell_lowL HCE.out HB10.out
                have kl := slit az cz xs ak k ck (lineI p) w7 (HZ1.out.below (C2.out.trans (HB9.out.mono C2.out.size))) hl13 (HIN.out.below HB10.out) (by have := HD.out; omega)
                rw [show lineI p = lineI (p.1, p.2) from rfl, liV_line (s := p.1) (t := p.2) (by omega) (by omega)] at kl
                have hsi : ∀ x ∈ segT xs p.1 p.2, x.inr := fun x hx => HXI.out x (segT_mem x hx)
                have hsl : (segT xs p.1 p.2).length = k := by rw [segT_len (by omega)]; exact HD.out.symm
                have HFT2 := Lib.hid (show p.1 + 1 < p.2 → ouV (segT xs p.1 p.2) (hypL (segT xs p.1 p.2)) gap ≤ room from fun h => HFT.out HBK.out h)
                have HYA := Lib.hid (hypL_all hsi)
                have HYL := Lib.hid (hypL_len (segT xs p.1 p.2))
                generalize segT xs p.1 p.2 = SG at *
                have KL := Lib.hid kl
                have HSI := Lib.hid hsi
                have HSL := Lib.hid hsl
                clear kl hsi hsl
                (try dsimp only)
                go_wp2_with (fail)
                refine KL.out.mono ?_
                rintro e w8 ⟨v8, rfl, r8, b8⟩
                obtain ⟨a8, c8, rfl, hz8⟩ := r8.slice HSI.out
                rw [HSL.out]
                have HZ8 := Lib.hid hz8
                have hsz8 := b8.size
                have HB11 := Lib.hid (HB9.out.trans (b8.mono HB9.out.size))
                clear KL r8 b8 hz8 hc8
                have hlit : RowI w8.heap.size (.slice (some ⟨w8.heap.size, 0, none⟩) 0 0) [] (w8.alloc (.cells #[] 3)) := World.ownsRow_lit w8 #[] 0 (Nat.le_refl _) (by unfold maxLen; omega) rfl
                have bu : Below w8.heap.size w8 (w8.alloc (.cells #[] 3)) := (Below.refl _ _).alloc (Nat.le_refl _) _
                obtain ⟨u, eu⟩ : ∃ q, q = w8.alloc (.cells #[] 3) := ⟨_, rfl⟩
                rw [← eu] at hlit bu
                have EU := Lib.hid eu
                have HLIT := Lib.hid hlit
                have BU := Lib.hid bu
                clear eu hlit bu
                (try dsimp only)
                go_wp2_with (rw [← EU.out])
                clear EU
                go_loopw [13, 14] (fun v i wz => ∃ q : Nat, q ≤ k ∧ i = .int .i64 q ∧ RowI w8.heap.size v ((hypL SG).take q) wz ∧ Below w8.heap.size w8 wz) (fun _ i _ => k - (intOf i).toNat)
                case atStart => exact ⟨0, Nat.zero_le _, rfl, by rw [List.take_zero]; exact HLIT.out, BU.out⟩
                case round =>
                  clear HLIT BU
                  obtain ⟨q, hq, rfl, ho, hbz⟩ := hrel
                  have HO := Lib.hid ho
                  have HBZ := Lib.hid hbz
                  by_cases hltq : q < k
                  · obtain ⟨bi, oi, rfl, _, hrg⟩ := (HZ8.out.below hbz).look (k := q) (by rw [HSL.out]; exact hltq)
                    have hq0 : (0 : Int) ≤ (q : Int) := Int.natCast_nonneg _
                    have hq1 : (q : Int) < (k : Int) := by omega
                    have hq2 : (q : Int) ≤ 13 := by have := HD.out; omega
                    have HSN := Lib.hid (show (hypL SG).take q ++ [hypV (itD SG q)] = (hypL SG).take (q + 1) by rw [← hypL_at (by rw [HSL.out]; exact hltq)]; exact (take_snoc (by rw [HYL.out, HSL.out]; exact hltq)).symm)
                    have hllq : ((hypL SG).take q).length = q := by rw [List.length_take, HYL.out, HSL.out]; omega
                    have HLQ := Lib.hid hllq
                    generalize itD SG q = x at *
                    have RG := Lib.hid hrg
                    clear hrg ho hbz hllq
                    go_wp2_with (first
                      | ((with_reducible apply list_load_it (x := x)); exact rfl; exact rfl; exact rfl; (with_reducible exact RG.out); simp only [Act.put, List.setIfInBounds_toArray, List.set_cons_succ, List.set_cons_zero])
                      | fail)
                    refine (shyp x wr).mono ?_
                    rintro e w9 ⟨rfl, b9⟩
                    have hb9 := HBZ.out.trans (b9.mono HBZ.out.size)
                    have HR1 := Lib.hid (HO.out.below b9)
                    clear b9
                    generalize hypV x = h at *
                    have hs1 := Lib.hid hb9.size
                    (try dsimp only)
                    go_wp2_with (at_builtin; refine wpList_append_own _ rfl _ _ 25 rfl w8.heap.size 3 i0 (.int .i64 0) 1 8 Try.underlying25 hi hz0 hz1 hz2 rfl (by decide) _ _ _ rfl (World.ownsRow.alloc HR1.out _) ⟨w9.heap.size, 0, none⟩ 1 1 [.int .i64 h] rfl rfl (one_intP _ _ _) ?c2 ?c3 ?c4 ?c5 ?_)
                    case c2 => intro u hu; simp at hu; subst hu; rfl
                    case c3 => unfold maxLen; rw [HLQ.out]; omega
                    case c4 => rw [HLQ.out]; omega
                    case c5 => have := hs1.out; simp; omega
                    intro v' w10 hown hgr _
                    have R3 := Lib.hid (show RowI w8.heap.size v' ((hypL SG).take (q + 1)) w10 by
                      rw [← HSN.out]; unfold RowI; rw [List.length_append, HLQ.out]
                      have hmin : min q (hypL SG).length = q := by (rw [HYL.out, HSL.out]; omega)
                      simpa [hmin] using hown)
                    have B3 := Lib.hid ((hb9.alloc hb9.size (.cells #[Value.int .i64 h] 3)).grown hgr (by have := hb9.size; simp; omega) (fun g hg => (World.ownsRow.lt HR1.out g hg).1))
                    clear hown hgr hb9
                    (try dsimp only)
                    go_wp2
                    go_roundw
                    case rel => exact ⟨q + 1, by omega, by go_num, R3.out, B3.out⟩
                    case measure => simp [intOf]; omega
                  · obtain rfl : q = k := by omega
                    have HO2 := Lib.hid (show RowI w8.heap.size _ (hypL SG) wr by have h := HO.out; rwa [List.take_of_length_le (by rw [HYL.out, HSL.out]; omega)] at h)
                    obtain ⟨ah, ch, rfl, hih⟩ := HO2.out.slice HYA.out
                    have ko := souter_any a8 c8 SG ah (hypL SG).length ch (hypL SG) gap wr (HZ8.out.below HBZ.out) (by rw [HSL.out]; have := HD.out; omega) hih (by rw [HYL.out, HSL.out]; have := HD.out; omega)
                    rw [HSL.out] at ko
                    have HFT3 := Lib.hid (show (1 : Int) < (q : Int) → ouV SG (hypL SG) gap ≤ room from fun h => HFT2.out (by have := HD.out; omega))
                    generalize ouV SG (hypL SG) gap = OV at *
                    have KO := Lib.hid ko
                    have HBX := Lib.hid (HB11.out.trans (HBZ.out.mono HB11.out.size))
                    rw [HYL.out, HSL.out] at *
                    clear ho hbz ko hih
                    by_cases hk1 : (1 : Int) < (q : Int)
                    · have hov := HFT3.out hk1
                      have hov2 : ¬ room < OV := by omega
                      go_wp2_with (fail)
                      refine KO.out.mono ?_
                      rintro e w11 ⟨rfl, b11⟩
                      have HBY := Lib.hid (HBX.out.trans (b11.mono HBX.out.size))
                      clear b11 KO
                      (try dsimp only)
                      go_wp2
                      go_roundw
                      case rel => exact ⟨j + 1, by omega, by go_num, congrArg (Value.int .i64) HNEXT.out, HBY.out⟩
                      case measure => simp [intOf]; omega
                    · go_wp2
                      go_roundw
                      case rel => exact ⟨j + 1, by omega, by go_num, congrArg (Value.int .i64) HNEXT.out, HBX.out⟩
                      case measure => simp [intOf]; omega
    · obtain rfl : j = PS.length := by omega
      have HST := Lib.hid (st_last HCH.out)
      have HBo := Lib.hid (C2.out.trans (hb.mono C2.out.size))
      clear hb
      rw [HST.out]
      go_wp2_with (fail)
      refine (draw_lineitems a len cap wo hl (HC.out.below (B1.out.trans (HBo.out.mono B1.out.size)))).mono ?_
      rintro e x1 ⟨v3, ys, u3, zs, rfl, hyl, hyd, hry, hzl, hza, hrz, bx1⟩
      have HYI := Lib.hid (fun x hm => (hyd x hm).inr : ∀ x ∈ ys, x.inr)
      obtain ⟨ay, cy, rfl, hzy⟩ := hry.slice HYI.out
      obtain ⟨az2, cz2, rfl, hzz⟩ := hrz.slice hza
      have HY1 := Lib.hid hzy
      have HS1 := Lib.hid hzz
      have E1 := Lib.hid (HBo.out.trans (bx1.mono HBo.out.size))
      have HLR := Lib.hid (liV_inr HYI.out zs)
      have HLL := Lib.hid (liV_len ys zs)
      clear hyd hry hza hrz hzy hzz bx1
      (try dsimp only)
      go_wp2_with (fail)
      refine (KGI.out x1 E1.out).mono ?_
      rintro e x2 ⟨rfl, bx2⟩
      have HY2 := Lib.hid (HY1.out.below bx2)
      have HS2 := Lib.hid (HS1.out.below bx2)
      have E2 := Lib.hid (E1.out.trans (bx2.mono E1.out.size))
      clear bx2 HY1 HS1 E1
      (try dsimp only)
      go_wp2_with (fail)
      refine (KGS.out x2 E2.out).mono ?_
      rintro e x3 ⟨rfl, bx3⟩
      have HY3 := Lib.hid (HY2.out.below bx3)
      have HS3 := Lib.hid (HS2.out.below bx3)
      have E3 := Lib.hid (E2.out.trans (bx3.mono E2.out.size))
      clear bx3 HY2 HS2 E2
      (try dsimp only)
      go_wp2_with (fail)
      refine (ilit ay cy ys az2 zs.length cz2 zs x3 HY3.out (by omega) HS3.out (by omega)).mono ?_
      rintro e x4 ⟨v4, rfl, r4, bx4⟩
      have R4 := Lib.hid r4
      have HY4 := Lib.hid (HY3.out.below bx4)
      have HS4 := Lib.hid (HS3.out.below bx4)
      have E4 := Lib.hid (E3.out.trans (bx4.mono E3.out.size))
      clear r4 bx4 HY3 HS3 E3
      (try dsimp only)
      go_wp2_with (fail)
      refine (slit ay cy ys az2 zs.length cz2 zs x4 HY4.out (by omega) HS4.out (by omega)).mono ?_
      rintro e x5 ⟨v5, rfl, r5, bx5⟩
      have R5 := Lib.hid (R4.out.below bx5)
      have S5 := Lib.hid r5
      have E5 := Lib.hid (E4.out.trans (bx5.mono E4.out.size))
      clear r5 bx5 HY4 HS4 E4 R4
      obtain ⟨ap, cp, rfl, hzp⟩ := R5.out.slice HLR.out
      obtain ⟨aq, cq, rfl, hzq⟩ := S5.out.slice HLR.out
      have KSM := Lib.hid (sameIt ap aq cp cq (liV ys zs) x5 hzp hzq (by have := HLL.out; omega))
      clear hzp hzq
      (try dsimp only)
      go_wp2_with (fail)
      refine KSM.out.mono ?_
      rintro e x6 ⟨rfl, bx6⟩
      have E6 := Lib.hid (E5.out.trans (bx6.mono E5.out.size))
      clear bx6 E5 KSM
      have KLL := Lib.hid (ilineof _ 2 [[0], [1]] 5 _ (lit_ss2 x6) (by decide) (by decide))
      have hlo5 : loV [[0], [1]] 5 = -1 := by decide
      rw [hlo5] at KLL
      have E7 := Lib.hid (E6.out.trans ((lit_ss2_below x6).mono E6.out.size))
      clear hlo5
      (try dsimp only)
      go_wp2_with (fail)
      refine KLL.out.mono ?_
      rintro e x7 ⟨rfl, bx7⟩
      have E8 := Lib.hid (B1.out.trans ((E7.out.trans (bx7.mono E7.out.size)).mono B1.out.size))
      clear bx7 KLL
      (try dsimp only)
      go_wp2
      go_ret
      exact ⟨rfl, E8.out⟩

set_option maxRecDepth 100000 in
theorem walk_big (a : Option Addr) (len cap : Nat) (w : World) (hl : 1048576 < len) (hm : len ≤ 9223372036854775807) :
    Calls Try.prog 11 #[.slice a len cap] w fun e w' => e = .returned (.bool true) ∧ Below w.heap.size w w' := by
  go_enter Try.func11, Try.ntmps11
  go_wp2
  go_ret
  exact ⟨rfl, Below.refl _ _⟩

theorem laidOut : laidOutB Try.prog = true := by kernel_rfl

theorem contract (H : Type) (enc : TypeId × Value → H) (W : World) (base : Nat) (args : Array Value) (ds gs : List (DataW H)) (before : List MemPlace)
    (hval : ∀ (j : Nat) t v, Try.f11.params[j]? = some t → args[j]? = some v → Value.okWide Try.prog W .any base t v)
    (hW : DataW.Whole enc Try.prog Try.f11.params.toList Rows.fnLinesSpec.vars false W args.toList ds gs before) :
    Calls Try.prog 11 args W fun e W' => ∃ v, e = .returned v ∧ Rows.fnLinesSpec.post enc Try.prog Try.f11 false true false false W args v W' := by
  have hW' := hW
  obtain ⟨p, q, hA0, hV, rfl, hfz, hnd⟩ := hW
  have hA : DataW.TrodAll enc Try.prog W 0 (fun _ => true) true Try.f11.params.toList args.toList ds p := hA0
  rw [Try.params11] at hA hval
  obtain ⟨v0, vs0, d0, ds0, p0, q0, hargs, rfl, rfl, h0, r0⟩ := trodAll_cons hA
  obtain ⟨rfl, rfl, rfl⟩ := trodAll_nil r0
  obtain rfl : args = #[v0] := by cases args; simp_all
  obtain ⟨rfl, rfl⟩ := trodVars_none hV
  obtain ⟨a, len, cap, rfl⟩ := okWide_slice Try.underlying22 (hval 0 22 v0 rfl rfl)
  have lt0 : ∀ x ∈ p0, x.block < W.heap.size := by obtain ⟨m, hm⟩ := h0; exact DataW.trod_lt m _ _ _ hm
  obtain ⟨hc, hm⟩ := code_of h0
  have all : Calls Try.prog 11 #[.slice a len cap] W fun e w' => e = .returned (.bool true) ∧ Below W.heap.size W w' := by
    by_cases hl : len ≤ 1048576
    · exact walk a len cap W hl hc
    · exact walk_big a len cap W (by omega) hm
  refine all.mono fun e W' ⟨he, bel⟩ => ?_
  subst he
  exact ⟨_, rfl, law_post (pa := _) (pv := []) hW' (trodAll_cons_mk (shut_bool Try.underlying4 _) trodAll_mk0) (trodAll_cons_mk (Below.trod laidOut (by kernel_rfl) (of_decide_eq_true (by kernel_rfl)) h0 bel lt0) trodAll_mk0) rfl rfl bel⟩


set_option maxRecDepth 100000 in
theorem lifted (os : Os) (started : os.Started) (H : Type) (enc : TypeId × Value → H) :
    ReturnsInHanded {} Try.checked os 11 .any (Rows.fnLinesSpec.pre6 enc Try.prog Try.f11 Rows.fnLinesRow.domain false) (Rows.fnLinesSpec.post enc Try.prog Try.f11 false true false false) := by
  refine returnsInHanded_of_change (C := Try.checked) own started (by kernel_rfl) Try.func11
    (ChangeSpec.witness6 (enc := enc) (C := Try.checked) false ⟨#[], #[.slice none 0 0], []⟩ 8 (by kernel_rfl) (by kernel_rfl) (by kernel_rfl) (by kernel_rfl)) ?_
  intro W base args ds gs before hval hW _ _
  exact contract H enc W base args ds gs before hval hW

/-- The given statement. -/
theorem proved : Rows.FnLinesSaid :=
  OpenClaim.holds_of_wide 11 Try.f11 rfl rfl rfl rfl rfl rfl rfl ⟨rfl, rfl, rfl, rfl, rfl⟩ rfl rfl rfl rfl rfl (by kernel_rfl) Try.func11 (by kernel_rfl)
    (of_decide_eq_true (by kernel_rfl)) (by unfold Func.isWrapper; first | (rw [if_pos (by decide +kernel)]; kernel_rfl) | (rw [if_neg (by decide +kernel)]; exact ⟨rfl, rfl⟩))
    (fun os started H enc _ => lifted os started H enc)
#print axioms proved
end Go.Proofs.Ytcnmchcleghcgaa.fnLines

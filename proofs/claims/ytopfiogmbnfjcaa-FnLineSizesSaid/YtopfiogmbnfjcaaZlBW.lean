import Derived.Maps.AppendAt
import Derived.Test.YtopfiogmbnfjcaaZlBF
import Derived.Test.YtopfiogmbnfjcaaZlBG
import Derived.Test.YtopfiogmbnfjcaaZlBN
import Derived.Test.YtopfiogmbnfjcaaZlBV
section
namespace Go.Proofs.Ytopfiogmbnfjcaa
open Go.ChangeShapes Go.WideShapes Go.ChangeAt Go.RowKit
set_option linter.unusedVariables false
set_option linter.unusedSimpArgs false
set_option maxRecDepth 20000

/-- The sizes of the items of the first lines. -/
def szP (xs : List It) (gap inner : Int) (ps : List (Nat × Nat)) : Nat → List Int
  | 0 => []
  | j + 1 => szP xs gap inner ps j ++ (fxV (segT xs (pD ps j).1 (pD ps j).2) gap inner).1
theorem szP_len {xs : List It} {gap inner : Int} {ps : List (Nat × Nat)} (hch : Chain 0 ps xs.length) : ∀ j, j ≤ ps.length → Chain (szP xs gap inner ps j).length (ps.drop j) xs.length
  | 0, _ => hch
  | j + 1, h => by
    have ih := szP_len (xs := xs) (gap := gap) (inner := inner) hch j (by omega)
    obtain ⟨p, hp, h1, h2, h3⟩ := chain_drop ih (by omega)
    have e : pD ps j = p := Option.some.inj ((pD_eq (by omega)).symm.trans hp)
    have hn := chain_le h3
    have hl : (szP xs gap inner ps (j + 1)).length = p.2 := by
      show (szP xs gap inner ps j ++ _).length = p.2
      rw [List.length_append, fxV_len, e, segT_len hn]
      omega
    rw [hl]
    exact h3
theorem szP_le {xs : List It} {gap inner : Int} {ps : List (Nat × Nat)} (hch : Chain 0 ps xs.length) {j : Nat} (hj : j ≤ ps.length) : (szP xs gap inner ps j).length ≤ xs.length := chain_le (szP_len hch j hj)
theorem szP_all {xs : List It} {gap inner : Int} {ps : List (Nat × Nat)} (hx : ∀ x ∈ xs, x.inr) : ∀ j, AllI (szP xs gap inner ps j)
  | 0 => fun z hz => by cases hz
  | j + 1 => fun z hz => by
    rcases List.mem_append.1 (show z ∈ szP xs gap inner ps j ++ _ from hz) with hz | hz
    · exact szP_all hx j z hz
    · exact fxV_all gap inner (fun x h => hx x (segT_mem x h)) z hz
def LnzRel (xs : List It) (gap inner : Int) (PS : List (Nat × Nat)) (a1 : Option Addr) (LO HI : Nat) (w : World) (q i : Value) (wr : World) : Prop :=
  ∃ j : Nat, j ≤ PS.length ∧ i = .int .i64 j ∧ RowI w.heap.size q (szP xs gap inner PS j) wr ∧ (∀ b, q.ownBlock = some b → b < LO ∨ HI ≤ b) ∧ Below w.heap.size w wr ∧ SsP (fun b => LO ≤ b ∧ b < HI) wr a1 (PS.map lineI) ∧ HI ≤ wr.heap.size
/-- The sizes of all. -/
def szA (xs : List It) (gap room : Int) (wraps : Bool) (inner : Int) : List Int := szP xs gap inner (lnK xs gap room wraps xs.length) (lnK xs gap room wraps xs.length).length
theorem szA_len (xs : List It) (gap room : Int) (wraps : Bool) (inner : Int) : (szA xs gap room wraps inner).length = xs.length := by
  have h := szP_len (gap := gap) (inner := inner) (lnK_chain (xs := xs) (gap := gap) (room := room) (wraps := wraps) xs.length) _ (Nat.le_refl _)
  rw [List.drop_length] at h
  exact h
theorem szA_all {xs : List It} (gap room : Int) (wraps : Bool) (inner : Int) (hx : ∀ x ∈ xs, x.inr) : AllI (szA xs gap room wraps inner) := szP_all hx _
theorem news_of {w : World} {b o n : Nat} {zs : List Int} (h : Ints w (some ⟨b, o, none⟩) n zs) (hn : zs.length = n) : ∀ j u, (zs.map (Value.int .i64))[j]? = some u → w.cell? ((⟨b, o, none⟩ : Addr).add j) = some u := lin_news h hn
set_option maxHeartbeats 4000000 in
theorem isizes (a : Option Addr) (cap : Nat) (xs : List It) (gap room : Int) (wraps : Bool) (inner : Int) (w : World) (hz : Its w a xs) (hl : xs.length ≤ 1048576) (hcap : xs.length ≤ cap) :
    Calls Try.prog 43 #[.slice a xs.length cap, .int .i64 gap, .int .i64 room, .bool wraps, .int .i64 inner] w (OutPost (szA xs gap room wraps inner) w) := by
  obtain ⟨i0, hi0, hz0, hz1, hz2⟩ := info_parts info_intP
  have kl := ilines a cap xs gap room wraps w hz hl hcap
  have hpos := lnK_pos (xs := xs) (gap := gap) (room := room) (wraps := wraps) xs.length
  have hch := lnK_chain (xs := xs) (gap := gap) (room := room) (wraps := wraps) xs.length
  have hpl : (lnK xs gap room wraps xs.length).length ≤ 1048576 := Nat.le_trans (lnK_len _) hl
  unfold szA
  (try unfold lnL at kl)
  generalize lnK xs gap room wraps xs.length = PS at *
  have HPOS := Lib.hid hpos
  have HCH := Lib.hid hch
  have HZ := Lib.hid hz
  clear hz hpos hch
  go_enter Try.func43, Try.ntmps43
  go_wp2_with (fail)
  refine kl.mono ?_
  rintro e w1 ⟨v1, g1, rfl, r1, b1⟩
  obtain ⟨a1, c1, e1, hss⟩ := (r1.read HPOS.out hl).readP
  rw [List.length_map] at e1
  subst e1
  have HSS := Lib.hid hss
  have B1 := Lib.hid b1
  clear r1 b1 hss
  (try clear kl)
  (try dsimp only)
  go_wp2_with (fail)
  go_loopw [11, 20] (LnzRel xs gap inner PS a1 w.heap.size w1.heap.size w) (fun _ i _ => PS.length - (intOf i).toNat)
  case atStart => exact ⟨0, Nat.zero_le _, rfl, World.ownsRow_nil _ _ _ _, (fun b hb => by cases hb), B1.out, HSS.out, Nat.le_refl _⟩
  case round =>
    (try clear HLIT1)
    obtain ⟨j, hj, rfl, ho, hap, hb0, hsp, hge⟩ := hrel
    have HO := Lib.hid ho
    have HAP := Lib.hid hap
    have HSP := Lib.hid hsp
    clear hap
    have HB0 := Lib.hid hb0
    by_cases hlt : j < PS.length
    · have hlo : (0 : Int) ≤ (j : Int) := Int.natCast_nonneg _
      have hhi : (j : Int) < (PS.length : Int) := by omega
      obtain ⟨b, off, ak, ck, rfl, hbl, hcell, hi⟩ := hsp.ss.look (k := j) (by rw [List.length_map]; exact hlt)
      rw [lnD_map hlt] at hcell hi
      have hpos := HPOS.out _ (pD_mem hlt)
      obtain ⟨p, ep⟩ : ∃ q, q = pD PS j := ⟨_, rfl⟩
      have HNX := Lib.hid (show szP xs gap inner PS (j + 1) = szP xs gap inner PS j ++ (fxV (segT xs p.1 p.2) gap inner).1 by rw [ep]; rfl)
      have hlj := szP_le (gap := gap) (inner := inner) HCH.out (show j ≤ PS.length by omega)
      have hlj1 := szP_le (gap := gap) (inner := inner) HCH.out (show j + 1 ≤ PS.length by omega)
      rw [← ep] at hcell hi hpos
      rw [lineI_len] at hcell hi
      rw [HNX.out, List.length_append] at hlj1
      have HLJ := Lib.hid hlj1
      clear ep hsp ho hlj1
      go_wp2_with (fail)
      refine (ilit a cap xs ak (p.2 - p.1) ck (lineI p) wr (HZ.out.below hb0) hl hi (by omega)).mono ?_
      rintro e w2 ⟨v2, rfl, r2, b2⟩
      rw [liV_line (s := p.1) (t := p.2) (by omega) (by omega)] at r2
      have hsi : ∀ x ∈ segT xs p.1 p.2, x.inr := fun x hx => HZ.out.1 x (segT_mem x hx)
      obtain ⟨a2, c2, rfl, hz2'⟩ := r2.slice hsi
      have hsl : (segT xs p.1 p.2).length = p.2 - p.1 := segT_len (by omega)
      have kf := iflexline a2 c2 (segT xs p.1 p.2) gap inner w2 hz2' (by rw [hsl]; omega)
      have hfl := fxV_len (segT xs p.1 p.2) gap inner
      have HFA := Lib.hid (fxV_all gap inner hsi)
      rw [hsl] at hfl kf
      rw [hsl]
      generalize (fxV (segT xs p.1 p.2) gap inner).1 = FS at *
      have B2 := Lib.hid (HSP.out.below b2)
      have hge2 := Nat.le_trans hge b2.size
      have C2 := Lib.hid (HB0.out.trans (b2.mono HB0.out.size))
      have O2 := Lib.hid (HO.out.below b2)
      have KF := Lib.hid kf
      have HFL := Lib.hid hfl
      clear r2 b2 hz2' kf hfl hsi hsl hi HO
      (try dsimp only)
      go_wp2_with (fail)
      refine KF.out.mono ?_
      rintro e w3 ⟨v3, rfl, r3, b3⟩
      obtain ⟨a3, c3, rfl, hi3⟩ := r3.slice HFA.out
      rw [HFL.out] at hi3 ⊢
      obtain ⟨b3', o3, rfl, hbl3, _⟩ := hi3.look (k := 0) (by omega)
      have HNW := Lib.hid (news_of hi3 HFL.out)
      have B3 := Lib.hid (B2.out.below b3)
      have hge3 := Nat.le_trans hge2 b3.size
      have C3 := Lib.hid (C2.out.trans (b3.mono C2.out.size))
      have O3 := Lib.hid (O2.out.below b3)
      have hll := HLJ.out
      rw [HFL.out] at hll
      clear KF b3 hcell B2 C2 O2 r3 hi3
      go_wp2_with (at_builtin; refine wpList_append_own_at _ rfl _ _ 27 rfl w.heap.size 3 i0 (.int .i64 0) 1 8 Try.underlying27 hi0 hz0 hz1 hz2 rfl (by decide) _ _ _ rfl O3.out ⟨b3', o3, none⟩ (p.2 - p.1) c3 (FS.map (Value.int .i64)) rfl ?c1 HNW.out ?c2 ?c3 ?c4 ?c5 ?_)
      case c1 => rw [List.length_map, HFL.out]; omega
      case c2 =>
        intro u hu
        obtain ⟨z, _, rfl⟩ := List.mem_map.1 hu
        rfl
      case c3 => unfold maxLen; omega
      case c4 => omega
      case c5 => exact C3.out.size
      intro v' w4 hown4 hgr _ hloc
      have R4 := Lib.hid (show RowI w.heap.size v' (szP xs gap inner PS (j + 1)) w4 by rw [HNX.out]; unfold RowI; rw [List.length_append, List.map_append, HFL.out]; exact hown4)
      have C4 := Lib.hid (C3.out.grown hgr C3.out.size (fun g hg => (World.ownsRow.lt O3.out g hg).1))
      have B4 := Lib.hid (B3.out.kept hgr (fun b hb h => by have := HAP.out b hb; omega))
      have A4 := Lib.hid (show ∀ b, v'.ownBlock = some b → b < w.heap.size ∨ w1.heap.size ≤ b from fun b hb => by
        rcases hloc with e | e
        · exact HAP.out b (e.symm.trans hb)
        · rw [e] at hb; injection hb with hb; omega)
      have hge4 := Nat.le_trans hge3 hgr.size
      clear hown4 hgr hloc
      go_wp2
      go_roundw
      case rel => exact ⟨j + 1, by omega, by go_num, R4.out, A4.out, C4.out, B4.out, hge4⟩
      case measure => simp [intOf]; omega
    · obtain rfl : j = PS.length := by omega
      clear hsp ho
      go_wp2
      go_ret
      exact ⟨_, rfl, HO.out, hb0⟩
end Go.Proofs.Ytopfiogmbnfjcaa
end

import Derived.Test.YtiogjbdaaplhpaaZfAS
section
namespace Go.Proofs.Ytiogjbdaaplhpaa
open Go.ChangeShapes Go.WideShapes Go.ChangeAt Go.RowKit
set_option linter.unusedVariables false
set_option linter.unusedSimpArgs false
set_option maxRecDepth 8000

theorem fK_in {ns : List PN} {r z k : Int} (ht : treeB ns = true) (h : k ∈ fK ns r (kidsZ ns z)) : nIn ns.length k = true := (kid_of ht (List.mem_filter.1 h).1).1
theorem kids_tr {ns : List PN} (ht : treeB ns = true) (r z : Int) : (fK ns r (kidsZ ns z)).length ≤ 12 := Nat.le_trans (fK_le ns r _) (kids_len ht z)
set_option maxHeartbeats 1000000 in
theorem iapartkids (a : Option Addr) (cap : Nat) (ns : List PN) (z0 : Int) (w : World) (hz : Nds w a ns) (hl : szS ns ≤ 1048576) (hz0 : I64 z0) :
    Calls Try.prog 36 #[.agg #[.slice a ns.length cap], .int .i64 z0] w (OutPost (apV ns z0) w) := by
  have B0 := bel_alloc w (.cells #[.slice a ns.length cap] 26)
  obtain ⟨u, eu⟩ : ∃ u, u = w.alloc (.cells #[.slice a ns.length cap] 26) := ⟨_, rfl⟩
  rw [← eu] at B0
  have EU := Lib.hid eu
  have HZ := Lib.hid (hz.below B0)
  have HB := Lib.hid B0
  have KN := Lib.hid (inodeof a cap ns z0 u HZ.out hl hz0)
  have h0 := hp_new w (.cells #[.slice a ns.length cap] 26)
  rw [← eu] at h0
  have c0 := Go.Joins.cell_of_block h0 0
  simp at c0
  clear B0 hz eu h0
  by_cases hh : (nIn ns.length z0 && treeB ns) = true
  · have hv : apV ns z0 = fK ns 1 (kidsZ ns z0) := by unfold apV; rw [if_pos hh]
    have h1 : nIn ns.length z0 = true ∧ treeB ns = true := by simpa using hh
    have HV := Lib.hid hv
    have HT := Lib.hid h1.2
    have HIN := Lib.hid h1.1
    have HH := Lib.hid hh
    clear hv h1 hh
    go_enter Try.func36, Try.ntmps36
    go_wp2_with (rw [← EU.out])
    refine KN.out.mono ?_
    rintro e w1 ⟨b1, h1⟩
    rw [if_pos HH.out] at h1
    obtain ⟨G, b, off, s0, rfl, ha, _, hL, hp⟩ := h1
    have heq0 : (binOp .eql 84 (.pointer (some ⟨s0, 0, none⟩)) (.pointer none)).run Try.prog w1 = .ok (.bool false) w1 := by kernel_rfl
    have HL := Lib.hid hL
    have HP := Lib.hid hp
    have HZ1 := Lib.hid (HZ.out.below b1)
    have HB1 := Lib.hid (HB.out.trans (b1.mono HB.out.size))
    clear b1 hL hp c0
    dsimp only
    go_wp2_with (fail)
    refine (ikidsin 1 G b off s0 a ns z0 w1 HL.out HZ1.out ha HP.out HIN.out HT.out).mono ?_
    rintro e w2 ⟨v, rfl, hrow, b2⟩
    obtain ⟨va, vc, rfl, hn⟩ := hrow.num (HL.out.below b2) (fun k hk => fK_in HT.out hk)
    have HN := Lib.hid hn
    have HB2 := Lib.hid (HB1.out.trans (b2.mono HB1.out.size))
    have hkt := kids_tr HT.out 1 z0
    clear hrow b2 hn heq0
    generalize fK ns 1 (kidsZ ns z0) = ks at *
    dsimp only
    go_wp2_with (fail)
    refine (inumbersof va vc ks w2 (by omega) HN.out).mono ?_
    rintro e w3 ⟨v, rfl, ho, b3⟩
    have HO := Lib.hid ho
    have HB3 := Lib.hid (HB2.out.trans (b3.mono HB2.out.size))
    have hs := HB2.out.size
    clear ho b3
    dsimp only
    go_wp2_with (fail)
    go_ret
    exact ⟨_, rfl, by rw [HV.out]; exact ownsRow_le HO.out hs, HB3.out⟩
  · have hv : apV ns z0 = [] := by unfold apV; rw [if_neg hh]
    have HV := Lib.hid hv
    have HH := Lib.hid hh
    clear hv hh
    go_enter Try.func36, Try.ntmps36
    go_wp2_with (rw [← EU.out])
    refine KN.out.mono ?_
    rintro e w1 ⟨b1, h1⟩
    rw [if_neg HH.out] at h1
    subst h1
    have HB1 := Lib.hid (HB.out.trans (b1.mono HB.out.size))
    clear b1 c0
    dsimp only
    go_wp2_with (fail)
    go_ret
    exact ⟨_, rfl, by rw [HV.out]; exact World.ownsRow_nil _ _ _ _, HB1.out⟩
set_option maxHeartbeats 1000000 in
theorem iflowkids (a : Option Addr) (cap : Nat) (ns : List PN) (z0 : Int) (w : World) (hz : Nds w a ns) (hl : szS ns ≤ 1048576) (hz0 : I64 z0) :
    Calls Try.prog 35 #[.agg #[.slice a ns.length cap], .int .i64 z0] w (OutPost (flV ns z0) w) := by
  have B0 := bel_alloc w (.cells #[.slice a ns.length cap] 26)
  obtain ⟨u, eu⟩ : ∃ u, u = w.alloc (.cells #[.slice a ns.length cap] 26) := ⟨_, rfl⟩
  rw [← eu] at B0
  have EU := Lib.hid eu
  have HZ := Lib.hid (hz.below B0)
  have HB := Lib.hid B0
  have KN := Lib.hid (inodeof a cap ns z0 u HZ.out hl hz0)
  have h0 := hp_new w (.cells #[.slice a ns.length cap] 26)
  rw [← eu] at h0
  have c0 := Go.Joins.cell_of_block h0 0
  simp at c0
  clear B0 hz eu h0
  by_cases hh : (nIn ns.length z0 && treeB ns) = true
  · have hv : flV ns z0 = srt (ordK ns) (fK ns 0 (kidsZ ns z0)) := by unfold flV; rw [if_pos hh]
    have h1 : nIn ns.length z0 = true ∧ treeB ns = true := by simpa using hh
    have HV := Lib.hid hv
    have HT := Lib.hid h1.2
    have HIN := Lib.hid h1.1
    have HH := Lib.hid hh
    clear hv h1 hh
    go_enter Try.func35, Try.ntmps35
    go_wp2_with (rw [← EU.out])
    refine KN.out.mono ?_
    rintro e w1 ⟨b1, h1⟩
    rw [if_pos HH.out] at h1
    obtain ⟨G, b, off, s0, rfl, ha, _, hL, hp⟩ := h1
    have heq0 : (binOp .eql 84 (.pointer (some ⟨s0, 0, none⟩)) (.pointer none)).run Try.prog w1 = .ok (.bool false) w1 := by kernel_rfl
    have HL := Lib.hid hL
    have HP := Lib.hid hp
    have HZ1 := Lib.hid (HZ.out.below b1)
    have HB1 := Lib.hid (HB.out.trans (b1.mono HB.out.size))
    clear b1 hL hp c0
    dsimp only
    go_wp2_with (fail)
    refine (ikidsin 0 G b off s0 a ns z0 w1 HL.out HZ1.out ha HP.out HIN.out HT.out).mono ?_
    rintro e w2 ⟨v, rfl, hrow, b2⟩
    have hfin := fun k hk => fK_in (r := 0) (z := z0) (k := k) HT.out hk
    have hkt := kids_tr HT.out 0 z0
    have HFI := Lib.hid hfin
    have HRW := Lib.hid hrow
    have HB2 := Lib.hid b2
    clear hrow b2 heq0 hfin
    generalize fK ns 0 (kidsZ ns z0) = ks at *
    have KSR := Lib.hid (isort G b off ns a ks v w1 w2 HL.out HZ1.out ha HFI.out hkt HB2.out HRW.out)
    obtain ⟨va, vc, rfl⟩ := RowP.form HRW.out
    dsimp only
    go_wp2_with (fail)
    refine KSR.out.mono ?_
    rintro e w3 ⟨⟨r, rfl⟩, hrow3, b3⟩
    obtain ⟨va', vc', ev, hn⟩ := hrow3.num (HL.out.below b3) (fun k hk => HFI.out k (srt_mem _ _ k hk))
    have hsl := srt_len (ordK ns) ks
    rw [hsl] at ev
    simp at ev
    obtain ⟨rfl, rfl⟩ := ev
    have HN := Lib.hid hn
    have HB3 := Lib.hid (HB1.out.trans (b3.mono HB1.out.size))
    clear hrow3 b3 hn
    have KN2 := Lib.hid (inumbersof va vc (srt (ordK ns) ks) w3 (by rw [hsl]; omega) HN.out)
    rw [hsl] at KN2
    dsimp only
    go_wp2_with (fail)
    refine KN2.out.mono ?_
    rintro e w4 ⟨v, rfl, ho, b4⟩
    have HO := Lib.hid ho
    have HB4 := Lib.hid (HB3.out.trans (b4.mono HB3.out.size))
    have hs := HB3.out.size
    clear ho b4
    dsimp only
    go_wp2_with (fail)
    go_ret
    exact ⟨_, rfl, by rw [HV.out]; exact ownsRow_le HO.out hs, HB4.out⟩
  · have hv : flV ns z0 = [] := by unfold flV; rw [if_neg hh]
    have HV := Lib.hid hv
    have HH := Lib.hid hh
    clear hv hh
    go_enter Try.func35, Try.ntmps35
    go_wp2_with (rw [← EU.out])
    refine KN.out.mono ?_
    rintro e w1 ⟨b1, h1⟩
    rw [if_neg HH.out] at h1
    subst h1
    have HB1 := Lib.hid (HB.out.trans (b1.mono HB.out.size))
    clear b1 c0
    dsimp only
    go_wp2_with (fail)
    go_ret
    exact ⟨_, rfl, by rw [HV.out]; exact World.ownsRow_nil _ _ _ _, HB1.out⟩
end Go.Proofs.Ytiogjbdaaplhpaa
end

import Derived.BigQuiet
import Derived.Lib.QuietBelow
import Derived.Test.YtckpjldenkjddaaZtAB
import Derived.Test.YtckpjldenkjddaaZtBF
import Derived.Test.YtckpjldenkjddaaZtBG
import Derived.Test.YtckpjldenkjddaaZtBU
import Derived.Test.YtckpjldenkjddaaZtBV
import Derived.Test.YtckpjldenkjddaaZtBW
section
namespace Go.Proofs.Ytckpjldenkjddaa.fnTrees
open Go.ChangeShapes Go.WideShapes Go.ChangeAt Go.RowKit
set_option linter.unusedVariables false
set_option linter.unusedSimpArgs false
set_option maxRecDepth 20000

theorem hp_second (w : World) (x y : Obj) : ((w.alloc x).alloc y).heap[w.heap.size + 1]? = some y := by have := hp_new (w.alloc x) y; simpa using this
theorem quiet_tr {K : Act → Prop} {a : Act} {o : Oper} {g : Nat} {v : Value} {w : World} {x : Operand} (ho : o.op = .load 26 x) (hx : a.eval x = .pointer (some ⟨g, 0, none⟩)) (hg : w.cell? ⟨g, 0, none⟩ = some v) (h : K (a.put o.dst (.agg #[v]))) :
    o.quiet Try.prog a (fun w' => ∃ p : Regrown, w' = Sort.grow (redrawn w p.d) p.os) K :=
  ⟨.agg #[v], fun w' hw => by
    obtain ⟨p, rfl⟩ := hw
    unfold Oper.quietAt execOp
    simp only [ho, hx, Instr.loadAt, Instr.sureAddr, Sem.run_bind, Sem.run_pure, Result.andThen_ok, load_tr (cell_regrown hg p.d p.os)]
    exact ⟨rfl, rfl⟩, h⟩
/-- What a call that hands back a tree and a code leaves, and the box that the tree is put into. -/
theorem ch_open {L : List PN} {c : Int} {w w' : World} {e : Ending} (h : ChPost L c w e w') : ∃ (ad : Option Addr) (cap : Nat), e = .returned (.tuple #[.agg #[.slice ad L.length cap], .int .i64 c]) ∧ Nds w' ad L ∧ Below w.heap.size w w' := by
  obtain ⟨v, ms, rfl, rfl, ho, hb⟩ := h
  obtain ⟨ad, cap, rfl, hn⟩ := ho.nds
  exact ⟨ad, cap, by rw [List.length_map], hn, hb⟩
set_option maxRecDepth 100000 in
set_option maxHeartbeats 64000000 in
theorem walk (a : Option Addr) (len cap : Nat) (w : World) (hl : len ≤ 1048576) (hc : Code w a len) :
    Calls Try.prog 3 #[.slice a len cap] w fun e w' => e = .returned (.bool true) ∧ Below w.heap.size w w' := by
  have HC := Lib.hid hc
  go_enter Try.func3, Try.ntmps3
  have BB := Lib.hid (Below.refl w.heap.size w)
  go_wp2_with (first | (go_at_call 12; go_in) | fail)
  refine (draw_insertkid a len cap w hl hc).mono ?_
  rintro e w1 ⟨va, vc, ms, n, kid, at3, rfl, ho, hm1, hs, hnI, hkI, haI, bc⟩
  obtain ⟨ad, cp, e1, hn⟩ := ho.nds
  simp only [Value.slice.injEq] at e1
  rw [← e1.1] at hn
  clear e1
  obtain ⟨ns, ens⟩ : ∃ q, q = ms.map ND.n := ⟨_, rfl⟩
  have HNLns := Lib.hid (show ms.length = ns.length by rw [ens]; simp)
  rw [← ens] at hn hs
  have ENS := Lib.hid ens
  obtain ⟨u1, eu1⟩ : ∃ q, q = w1.alloc (.cells #[.slice va ms.length vc] 26) := ⟨_, rfl⟩
  have bwu : Below w1.heap.size w1 u1 := by rw [eu1]; exact bel_alloc _ _
  have bcu : Below w.heap.size w u1 := bc.trans (bwu.mono bc.size)
  replace BB := Lib.hid (BB.out.trans (bcu.mono BB.out.size))
  have H3 := Lib.hid (show u1.heap[w1.heap.size]? = some (.cells #[.slice va ms.length vc] 26) by rw [eu1]; exact hp_new w1 _)
  have N1 := Lib.hid (hn.below bwu)
  have O1 := Lib.hid (ho.below bwu)
  have hsz : szS ns ≤ 1048576 := by omega
  clear hn ho ens hs
  have Eu1 := Lib.hid eu1
  clear eu1 bwu bcu bc
  have cH3 := c_of H3.out
  (try dsimp only)
  go_wp2_with (first | (rw [← Eu1.out]) | fail)
  clear cH3
  have K1 := Lib.hid (show Calls Try.prog 14 #[.agg #[.slice va ms.length vc], .int .i64 n, .int .i64 kid, .int .i64 at3] u1 (ChPost (ikN ns n kid at3) (ikC ns n kid at3) u1) by rw [HNLns.out]; exact iinsertkid va vc ns n kid at3 u1 N1.out hsz hnI hkI haI)
  refine K1.out.mono ?_
  intro e w2 hch
  obtain ⟨adw2, cpw2, rfl, hn, bc⟩ := ch_open hch
  clear hch K1
  obtain ⟨u2, eu2⟩ : ∃ q, q = w2.alloc (.cells #[.slice adw2 (ikN ns n kid at3).length cpw2] 26) := ⟨_, rfl⟩
  have bwu : Below w2.heap.size w2 u2 := by rw [eu2]; exact bel_alloc _ _
  have bcu : Below u1.heap.size u1 u2 := bc.trans (bwu.mono bc.size)
  replace H3 := Lib.hid (hp_below H3.out bcu)
  replace N1 := Lib.hid (N1.out.below bcu)
  replace O1 := Lib.hid (O1.out.below bcu)
  replace BB := Lib.hid (BB.out.trans (bcu.mono BB.out.size))
  have H7 := Lib.hid (show u2.heap[w2.heap.size]? = some (.cells #[.slice adw2 (ikN ns n kid at3).length cpw2] 26) by rw [eu2]; exact hp_new w2 _)
  have N2 := Lib.hid (hn.below bwu)
  clear hn
  have Eu2 := Lib.hid eu2
  clear eu2 bwu bcu bc
  have cH3 := c_of H3.out
  (try dsimp only)
  go_wp2_with (first | (rw [← Eu2.out]) | fail)
  clear cH3
  have K1 := Lib.hid (show Calls Try.prog 15 #[.agg #[.slice va ms.length vc], .int .i64 n, .int .i64 kid, .int .i64 at3] u2 (ChPost (ikN ns n kid at3) (ikC ns n kid at3) u2) by rw [HNLns.out]; exact sinsertkid va vc ns n kid at3 u2 N1.out hsz hnI hkI haI (by have := O1.out.kcap; rwa [← ENS.out] at this))
  refine K1.out.mono ?_
  intro e w3 hch
  obtain ⟨adw3, cpw3, rfl, hn, bc⟩ := ch_open hch
  clear hch K1
  obtain ⟨u3, eu3⟩ : ∃ q, q = w3.alloc (.cells #[.slice adw3 (ikN ns n kid at3).length cpw3] 26) := ⟨_, rfl⟩
  have bwu : Below w3.heap.size w3 u3 := by rw [eu3]; exact bel_alloc _ _
  have bcu : Below u2.heap.size u2 u3 := bc.trans (bwu.mono bc.size)
  replace H3 := Lib.hid (hp_below H3.out bcu)
  replace H7 := Lib.hid (hp_below H7.out bcu)
  replace N1 := Lib.hid (N1.out.below bcu)
  replace O1 := Lib.hid (O1.out.below bcu)
  replace N2 := Lib.hid (N2.out.below bcu)
  replace BB := Lib.hid (BB.out.trans (bcu.mono BB.out.size))
  have H9 := Lib.hid (show u3.heap[w3.heap.size]? = some (.cells #[.slice adw3 (ikN ns n kid at3).length cpw3] 26) by rw [eu3]; exact hp_new w3 _)
  have N3 := Lib.hid (hn.below bwu)
  clear hn
  have Eu3 := Lib.hid eu3
  clear eu3 bwu bcu bc
  have hszX : szS (ikN ns n kid at3) ≤ 1048576 := by
    rcases (ikN_facts ns n kid at3).2 with h | h <;> omega
  have KS := Lib.hid (fun w' (h : Below u3.heap.size u3 w') => sametr_any adw2 adw3 cpw2 cpw3 (ikN ns n kid at3) w' (N2.out.below h) (N3.out.below h) (Nat.le_trans hszX (by decide)))
  have KI := Lib.hid (fun w' (h : Below u3.heap.size u3 w') => (show Calls Try.prog 17 #[.agg #[.slice va ms.length vc]] w' fun e w'' => e = .returned (.bool (treeB ns)) ∧ Below w'.heap.size w' w'' by rw [HNLns.out]; exact itreeok va vc ns w' (N1.out.below h) hsz))
  have KT := Lib.hid (fun w' (h : Below u3.heap.size u3 w') => (show Calls Try.prog 18 #[.agg #[.slice va ms.length vc]] w' fun e w'' => e = .returned (.bool (treeB ns)) ∧ Below w'.heap.size w' w'' by rw [HNLns.out]; exact streeok va vc ns w' (N1.out.below h) hsz))
  have HDONE := Lib.hid (fun h => ik_all (ns := ns) (z := n) (y := kid) (a := at3) h)
  have HSAME := Lib.hid (fun h => ik_same (ns := ns) (z := n) (y := kid) (a := at3) h)
  obtain ⟨CI, eCI⟩ : ∃ q, q = ikC ns n kid at3 := ⟨_, rfl⟩
  rw [← eCI] at HDONE HSAME ⊢
  obtain ⟨TB, eTB⟩ : ∃ q, q = treeB ns := ⟨_, rfl⟩
  rw [← eTB] at KI KT
  clear eCI eTB
  (try dsimp only)
  go_wp2_with (first | (rw [← Eu3.out]) | fail)
  have qH7 := c_of H7.out
  have qH9 := c_of H9.out
  have qH3 := c_of H3.out
  refine wp_region_quiet_below (by kernel_rfl) (by kernel_rfl) ?_
  (try simp only [List.append_eq, List.cons_append, List.nil_append])
  repeat (first
    | (go_big_quiet_want; (with_reducible apply quiet_tr); exact rfl; exact rfl; (with_reducible exact qH7); simp only [World.size_alloc, Act.put, List.setIfInBounds_toArray, List.set_cons_succ, List.set_cons_zero]; go_big_quiet_on)
    | (go_big_quiet_want; (with_reducible apply quiet_tr); exact rfl; exact rfl; (with_reducible exact qH9); simp only [World.size_alloc, Act.put, List.setIfInBounds_toArray, List.set_cons_succ, List.set_cons_zero]; go_big_quiet_on)
    | (go_big_quiet_want; (with_reducible apply quiet_tr); exact rfl; exact rfl; (with_reducible exact qH3); simp only [World.size_alloc, Act.put, List.setIfInBounds_toArray, List.set_cons_succ, List.set_cons_zero]; go_big_quiet_on)
    | go_big_quiet_step (first | (go_at_call 16; exact Calls.regrown_of (KS.out _ (below_regrown u3 _ _))) | (go_at_call 17; exact Calls.regrown_of (KI.out _ (below_regrown u3 _ _))) | (go_at_call 18; exact Calls.regrown_of (KT.out _ (below_regrown u3 _ _))) | fail))
  refine wpQuiet_nil ?_
  intro wq hw'
  obtain ⟨⟨dq, osq⟩, hw''⟩ := hw'
  clear qH7
  clear qH9
  clear qH3
  have bc : Below u3.heap.size u3 wq := by rw [hw'']; exact below_regrown u3 dq osq
  clear hw'' KS KI KT
  obtain ⟨u4, eu4⟩ : ∃ q, q = wq := ⟨_, rfl⟩
  have bwu : Below wq.heap.size wq u4 := by rw [eu4]; exact Below.refl _ _
  have bcu : Below u3.heap.size u3 u4 := bc.trans (bwu.mono bc.size)
  replace H3 := Lib.hid (hp_below H3.out bcu)
  replace H7 := Lib.hid (hp_below H7.out bcu)
  replace H9 := Lib.hid (hp_below H9.out bcu)
  replace N1 := Lib.hid (N1.out.below bcu)
  replace O1 := Lib.hid (O1.out.below bcu)
  replace N2 := Lib.hid (N2.out.below bcu)
  replace N3 := Lib.hid (N3.out.below bcu)
  replace BB := Lib.hid (BB.out.trans (bcu.mono BB.out.size))
  have Eu4 := Lib.hid eu4
  clear eu4 bwu bcu bc
  by_cases h0 : CI = 0
  · skip
    have hx := HDONE.out h0
    subst h0
    clear HDONE HSAME
    have HX1 := Lib.hid hx.1
    have HX2 := Lib.hid hx.2.1
    have HX3 := Lib.hid hx.2.2.1
    have HX4 := Lib.hid hx.2.2.2.1
    have HX5 := Lib.hid hx.2.2.2.2.1
    obtain ⟨d, hd12, hdn, hdk⟩ := hx.2.2.2.2.2
    have HXN := Lib.hid hdn
    have HXK := Lib.hid hdk
    clear hx hdn hdk
    have cH7 := c_of H7.out
    (try dsimp only)
    go_wp2_with (first | (rw [← Eu4.out]) | fail)
    clear cH7
    have K1 := Lib.hid (show Calls Try.prog 21 #[.agg #[.slice adw2 (ikN ns n kid at3).length cpw2], .int .i64 n, .int .i64 kid] u4 (ChPost (ns) (0) u4) by have := iremovekid adw2 cpw2 (ikN ns n kid at3) n kid u4 N2.out hszX hnI hkI; rw [HX2.out, HX3.out] at this; exact this)
    refine K1.out.mono ?_
    intro e w5 hch
    obtain ⟨adw5, cpw5, rfl, hn, bc⟩ := ch_open hch
    clear hch K1
    obtain ⟨u5, eu5⟩ : ∃ q, q = w5.alloc (.cells #[.slice adw5 (ns).length cpw5] 26) := ⟨_, rfl⟩
    have bwu : Below w5.heap.size w5 u5 := by rw [eu5]; exact bel_alloc _ _
    have bcu : Below u4.heap.size u4 u5 := bc.trans (bwu.mono bc.size)
    replace H3 := Lib.hid (hp_below H3.out bcu)
    replace H7 := Lib.hid (hp_below H7.out bcu)
    replace H9 := Lib.hid (hp_below H9.out bcu)
    replace N1 := Lib.hid (N1.out.below bcu)
    replace O1 := Lib.hid (O1.out.below bcu)
    replace N2 := Lib.hid (N2.out.below bcu)
    replace N3 := Lib.hid (N3.out.below bcu)
    replace BB := Lib.hid (BB.out.trans (bcu.mono BB.out.size))
    have H15 := Lib.hid (show u5.heap[w5.heap.size]? = some (.cells #[.slice adw5 (ns).length cpw5] 26) by rw [eu5]; exact hp_new w5 _)
    have N5 := Lib.hid (hn.below bwu)
    clear hn
    have Eu5 := Lib.hid eu5
    clear eu5 bwu bcu bc
    have cH7 := c_of H7.out
    (try dsimp only)
    go_wp2_with (first | (rw [← Eu5.out]) | fail)
    clear cH7
    have K1 := Lib.hid (show Calls Try.prog 14 #[.agg #[.slice adw2 (ikN ns n kid at3).length cpw2], .int .i64 kid, .int .i64 n, .int .i64 0] u5 (ChPost (ikN (ikN ns n kid at3) kid n 0) (2) u5) by have := iinsertkid adw2 cpw2 (ikN ns n kid at3) kid n 0 u5 N2.out hszX hkI hnI ⟨by decide, by decide⟩; rw [HX4.out] at this; exact this)
    refine K1.out.mono ?_
    intro e w6 hch
    obtain ⟨adw6, cpw6, rfl, hn, bc⟩ := ch_open hch
    clear hch K1
    obtain ⟨u6, eu6⟩ : ∃ q, q = w6.alloc (.cells #[.slice adw6 (ikN (ikN ns n kid at3) kid n 0).length cpw6] 26) := ⟨_, rfl⟩
    have bwu : Below w6.heap.size w6 u6 := by rw [eu6]; exact bel_alloc _ _
    have bcu : Below u5.heap.size u5 u6 := bc.trans (bwu.mono bc.size)
    replace H3 := Lib.hid (hp_below H3.out bcu)
    replace H7 := Lib.hid (hp_below H7.out bcu)
    replace H9 := Lib.hid (hp_below H9.out bcu)
    replace H15 := Lib.hid (hp_below H15.out bcu)
    replace N1 := Lib.hid (N1.out.below bcu)
    replace O1 := Lib.hid (O1.out.below bcu)
    replace N2 := Lib.hid (N2.out.below bcu)
    replace N3 := Lib.hid (N3.out.below bcu)
    replace N5 := Lib.hid (N5.out.below bcu)
    replace BB := Lib.hid (BB.out.trans (bcu.mono BB.out.size))
    have H17 := Lib.hid (show u6.heap[w6.heap.size]? = some (.cells #[.slice adw6 (ikN (ikN ns n kid at3) kid n 0).length cpw6] 26) by rw [eu6]; exact hp_new w6 _)
    have N6 := Lib.hid (hn.below bwu)
    clear hn
    have Eu6 := Lib.hid eu6
    clear eu6 bwu bcu bc
    have KS := Lib.hid (fun w' (h : Below u6.heap.size u6 w') => (show Calls Try.prog 16 #[.agg #[.slice adw5 ns.length cpw5], .agg #[.slice va ms.length vc]] w' fun e w'' => e = .returned (.bool true) ∧ Below w'.heap.size w' w'' by rw [HNLns.out]; exact sametr_any adw5 va cpw5 vc ns w' (N5.out.below h) (N1.out.below h) (Nat.le_trans hsz (by decide))))
    have KT := Lib.hid (fun w' (h : Below u6.heap.size u6 w') => (show Calls Try.prog 18 #[.agg #[.slice adw2 (ikN ns n kid at3).length cpw2]] w' fun e w'' => e = .returned (.bool true) ∧ Below w'.heap.size w' w'' by have := streeok adw2 cpw2 (ikN ns n kid at3) w' (N2.out.below h) hszX; rwa [HX1.out] at this))
    have KU := Lib.hid (fun w' (h : Below u6.heap.size u6 w') => (show Calls Try.prog 22 #[.agg #[.slice adw2 (ikN ns n kid at3).length cpw2], .int .i64 kid, .int .i64 n] w' fun e w'' => e = .returned (.bool true) ∧ Below w'.heap.size w' w'' by have := iisUnder adw2 cpw2 (ikN ns n kid at3) kid n w' (N2.out.below h) hszX hkI hnI; rwa [HX5.out] at this))
    have KD1 := Lib.hid (fun w' (h : Below u6.heap.size u6 w') => (show Calls Try.prog 23 #[.agg #[.slice adw2 (ikN ns n kid at3).length cpw2], .int .i64 kid] w' fun e w'' => e = .returned (.int .i64 ((d : Int) + 1)) ∧ Below w'.heap.size w' w'' by have := idepthOf adw2 cpw2 (ikN ns n kid at3) kid w' (N2.out.below h) hszX hkI; rwa [HXK.out] at this))
    have KD2 := Lib.hid (fun w' (h : Below u6.heap.size u6 w') => (show Calls Try.prog 23 #[.agg #[.slice adw2 (ikN ns n kid at3).length cpw2], .int .i64 n] w' fun e w'' => e = .returned (.int .i64 (d : Int)) ∧ Below w'.heap.size w' w'' by have := idepthOf adw2 cpw2 (ikN ns n kid at3) n w' (N2.out.below h) hszX hnI; rwa [HXN.out] at this))
    have hwd : IntKind.i64.wrap ((d : Int) + 1) = (d : Int) + 1 := IntWalk.i64_in _ (by omega)
    (try dsimp only)
    go_wp2_with (first | (rw [← Eu6.out]) | fail)
    generalize (ikN ns n kid at3).length = LX at *
    have qH15 := c_of H15.out
    have qH3 := c_of H3.out
    have qH7 := c_of H7.out
    refine wp_region_quiet_below (by kernel_rfl) (by kernel_rfl) ?_
    (try simp only [List.append_eq, List.cons_append, List.nil_append])
    repeat (first
      | (go_big_quiet_want; (with_reducible apply quiet_tr); exact rfl; exact rfl; (with_reducible exact qH15); simp only [World.size_alloc, Act.put, List.setIfInBounds_toArray, List.set_cons_succ, List.set_cons_zero]; go_big_quiet_on)
      | (go_big_quiet_want; (with_reducible apply quiet_tr); exact rfl; exact rfl; (with_reducible exact qH3); simp only [World.size_alloc, Act.put, List.setIfInBounds_toArray, List.set_cons_succ, List.set_cons_zero]; go_big_quiet_on)
      | (go_big_quiet_want; (with_reducible apply quiet_tr); exact rfl; exact rfl; (with_reducible exact qH7); simp only [World.size_alloc, Act.put, List.setIfInBounds_toArray, List.set_cons_succ, List.set_cons_zero]; go_big_quiet_on)
      | go_big_quiet_step (first | (go_at_call 16; exact Calls.regrown_of (KS.out _ (below_regrown u6 _ _))) | (go_at_call 18; exact Calls.regrown_of (KT.out _ (below_regrown u6 _ _))) | (go_at_call 22; exact Calls.regrown_of (KU.out _ (below_regrown u6 _ _))) | (go_at_call_of 23 kid; exact Calls.regrown_of (KD1.out _ (below_regrown u6 _ _))) | (go_at_call_of 23 n; exact Calls.regrown_of (KD2.out _ (below_regrown u6 _ _))) | fail))
    refine wpQuiet_nil ?_
    intro wq hw'
    obtain ⟨⟨dq, osq⟩, hw''⟩ := hw'
    clear qH15
    clear qH3
    clear qH7
    subst hw''
    have B9 := Lib.hid (BB.out.trans ((below_regrown u6 dq osq).mono BB.out.size))
    (try dsimp only)
    go_wp2
    go_ret
    exact ⟨rfl, B9.out⟩
  · skip
    have hb0 : (CI == 0) = false := beq_eq_false_iff_ne.2 h0
    have hd0 : decide (CI = 0) = false := decide_eq_false h0
    have hn0 : (CI != 0) = true := bne_iff_ne.2 h0
    have HSQ := Lib.hid (HSAME.out h0)
    clear HDONE HSAME
    have hone := one_node pl_ok
    obtain ⟨LP, eLP⟩ : ∃ q, q = [newN plF] := ⟨_, rfl⟩
    have hszP : szS LP ≤ 1048576 := by rw [eLP]; simp [szS, szL, szK, newN]
    rw [← eLP] at hone
    clear eLP
    have HO1 := Lib.hid hone.1
    have HO2 := Lib.hid hone.2.1
    have HO3 := Lib.hid hone.2.2
    clear hone
    (try dsimp only)
    go_wp2_with (first | (rw [← Eu4.out]) | fail)
    refine (plain_any u4).mono ?_
    rintro e w5 ⟨rfl, bc⟩
    obtain ⟨u5, eu5⟩ : ∃ q, q = w5 := ⟨_, rfl⟩
    have bwu : Below w5.heap.size w5 u5 := by rw [eu5]; exact Below.refl _ _
    have bcu : Below u4.heap.size u4 u5 := bc.trans (bwu.mono bc.size)
    replace H3 := Lib.hid (hp_below H3.out bcu)
    replace H7 := Lib.hid (hp_below H7.out bcu)
    replace H9 := Lib.hid (hp_below H9.out bcu)
    replace N1 := Lib.hid (N1.out.below bcu)
    replace O1 := Lib.hid (O1.out.below bcu)
    replace N2 := Lib.hid (N2.out.below bcu)
    replace N3 := Lib.hid (N3.out.below bcu)
    replace BB := Lib.hid (BB.out.trans (bcu.mono BB.out.size))
    have Eu5 := Lib.hid eu5
    clear eu5 bwu bcu bc
    (try dsimp only)
    go_wp2_with (first | (rw [← Eu5.out]) | fail)
    have K1 := Lib.hid (show Calls Try.prog 19 #[.agg #[.slice none 0 0], .agg (sCells plF)] u5 (ChPost (LP) (1) u5) by have := iaddnode none 0 [] plF u5 (nds_nil u5 none) (by decide) pl_inr; rw [HO1.out, HO2.out] at this; exact this)
    refine K1.out.mono ?_
    intro e w6 hch
    obtain ⟨adw6, cpw6, rfl, hn, bc⟩ := ch_open hch
    clear hch K1
    obtain ⟨u6, eu6⟩ : ∃ q, q = w6.alloc (.cells #[.slice adw6 (LP).length cpw6] 26) := ⟨_, rfl⟩
    have bwu : Below w6.heap.size w6 u6 := by rw [eu6]; exact bel_alloc _ _
    have bcu : Below u5.heap.size u5 u6 := bc.trans (bwu.mono bc.size)
    replace H3 := Lib.hid (hp_below H3.out bcu)
    replace H7 := Lib.hid (hp_below H7.out bcu)
    replace H9 := Lib.hid (hp_below H9.out bcu)
    replace N1 := Lib.hid (N1.out.below bcu)
    replace O1 := Lib.hid (O1.out.below bcu)
    replace N2 := Lib.hid (N2.out.below bcu)
    replace N3 := Lib.hid (N3.out.below bcu)
    replace BB := Lib.hid (BB.out.trans (bcu.mono BB.out.size))
    have H11 := Lib.hid (show u6.heap[w6.heap.size]? = some (.cells #[.slice adw6 (LP).length cpw6] 26) by rw [eu6]; exact hp_new w6 _)
    have N6 := Lib.hid (hn.below bwu)
    clear hn
    have Eu6 := Lib.hid eu6
    clear eu6 bwu bcu bc
    have cH11 := c_of H11.out
    (try dsimp only)
    go_wp2_with (first | (rw [← Eu6.out]) | fail)
    clear cH11
    have K1 := Lib.hid (show Calls Try.prog 14 #[.agg #[.slice adw6 LP.length cpw6], .int .i64 1, .int .i64 1, .int .i64 0] u6 (ChPost (ikN LP 1 1 0) (2) u6) by have := iinsertkid adw6 cpw6 LP 1 1 0 u6 N6.out hszP ⟨by decide, by decide⟩ ⟨by decide, by decide⟩ ⟨by decide, by decide⟩; rw [HO3.out] at this; exact this)
    refine K1.out.mono ?_
    intro e w7 hch
    obtain ⟨adw7, cpw7, rfl, hn, bc⟩ := ch_open hch
    clear hch K1
    obtain ⟨u7, eu7⟩ : ∃ q, q = w7.alloc (.cells #[.slice adw7 (ikN LP 1 1 0).length cpw7] 26) := ⟨_, rfl⟩
    have bwu : Below w7.heap.size w7 u7 := by rw [eu7]; exact bel_alloc _ _
    have bcu : Below u6.heap.size u6 u7 := bc.trans (bwu.mono bc.size)
    replace H3 := Lib.hid (hp_below H3.out bcu)
    replace H7 := Lib.hid (hp_below H7.out bcu)
    replace H9 := Lib.hid (hp_below H9.out bcu)
    replace H11 := Lib.hid (hp_below H11.out bcu)
    replace N1 := Lib.hid (N1.out.below bcu)
    replace O1 := Lib.hid (O1.out.below bcu)
    replace N2 := Lib.hid (N2.out.below bcu)
    replace N3 := Lib.hid (N3.out.below bcu)
    replace N6 := Lib.hid (N6.out.below bcu)
    replace BB := Lib.hid (BB.out.trans (bcu.mono BB.out.size))
    have H13 := Lib.hid (show u7.heap[w7.heap.size]? = some (.cells #[.slice adw7 (ikN LP 1 1 0).length cpw7] 26) by rw [eu7]; exact hp_new w7 _)
    have N7 := Lib.hid (hn.below bwu)
    clear hn
    have Eu7 := Lib.hid eu7
    clear eu7 bwu bcu bc
    have KX := Lib.hid (show Calls Try.prog 16 #[.agg #[.slice adw2 (ikN ns n kid at3).length cpw2], .agg #[.slice va ms.length vc]] u7 fun e w'' => e = .returned (.bool true) ∧ Below u7.heap.size u7 w'' by rw [HNLns.out, HSQ.out]; exact sametr_any adw2 va cpw2 vc ns u7 (by have := N2.out; rwa [HSQ.out] at this) N1.out (Nat.le_trans hsz (by decide)))
    have cH7 := c_of H7.out
    have cH3 := c_of H3.out
    (try dsimp only)
    go_wp2_with (first | (rw [← Eu7.out]) | fail)
    refine KX.out.mono ?_
    rintro e w8 ⟨rfl, b8⟩
    have B9 := Lib.hid (BB.out.trans (b8.mono BB.out.size))
    clear b8 KX cH7 cH3
    (try dsimp only)
    go_wp2
    go_ret
    exact ⟨rfl, B9.out⟩

set_option maxRecDepth 100000 in
theorem walk_big (a : Option Addr) (len cap : Nat) (w : World) (hl : 1048576 < len) (hm : len ≤ 9223372036854775807) :
    Calls Try.prog 3 #[.slice a len cap] w fun e w' => e = .returned (.bool true) ∧ Below w.heap.size w w' := by
  go_enter Try.func3, Try.ntmps3
  go_wp2
  go_ret
  exact ⟨rfl, Below.refl _ _⟩

theorem laidOut : laidOutB Try.prog = true := by kernel_rfl

theorem contract (H : Type) (enc : TypeId × Value → H) (W : World) (base : Nat) (args : Array Value) (ds gs : List (DataW H)) (before : List MemPlace)
    (hval : ∀ (j : Nat) t v, Try.f3.params[j]? = some t → args[j]? = some v → Value.okWide Try.prog W .any base t v)
    (hW : DataW.Whole enc Try.prog Try.f3.params.toList Rows.fnTreesSpec.vars false W args.toList ds gs before) :
    Calls Try.prog 3 args W fun e W' => ∃ v, e = .returned v ∧ Rows.fnTreesSpec.post enc Try.prog Try.f3 false true false false W args v W' := by
  have hW' := hW
  obtain ⟨p, q, hA0, hV, rfl, hfz, hnd⟩ := hW
  have hA : DataW.TrodAll enc Try.prog W 0 (fun _ => true) true Try.f3.params.toList args.toList ds p := hA0
  rw [Try.params3] at hA hval
  obtain ⟨v0, vs0, d0, ds0, p0, q0, hargs, rfl, rfl, h0, r0⟩ := trodAll_cons hA
  obtain ⟨rfl, rfl, rfl⟩ := trodAll_nil r0
  obtain rfl : args = #[v0] := by cases args; simp_all
  obtain ⟨rfl, rfl⟩ := trodVars_none hV
  obtain ⟨a, len, cap, rfl⟩ := okWide_slice Try.underlying22 (hval 0 22 v0 rfl rfl)
  have lt0 : ∀ x ∈ p0, x.block < W.heap.size := by obtain ⟨m, hm⟩ := h0; exact DataW.trod_lt m _ _ _ hm
  obtain ⟨hc, hm⟩ := code_of h0
  have all : Calls Try.prog 3 #[.slice a len cap] W fun e w' => e = .returned (.bool true) ∧ Below W.heap.size W w' := by
    by_cases hl : len ≤ 1048576
    · exact walk a len cap W hl hc
    · exact walk_big a len cap W (by omega) hm
  refine all.mono fun e W' ⟨he, bel⟩ => ?_
  subst he
  exact ⟨_, rfl, law_post (pa := _) (pv := []) hW' (trodAll_cons_mk (shut_bool Try.underlying4 _) trodAll_mk0) (trodAll_cons_mk (Below.trod laidOut (by kernel_rfl) (of_decide_eq_true (by kernel_rfl)) h0 bel lt0) trodAll_mk0) rfl rfl bel⟩


set_option maxRecDepth 100000 in
theorem lifted (os : Os) (started : os.Started) (H : Type) (enc : TypeId × Value → H) :
    ReturnsInHanded {} Try.checked os 3 .any (Rows.fnTreesSpec.pre6 enc Try.prog Try.f3 Rows.fnTreesRow.domain false) (Rows.fnTreesSpec.post enc Try.prog Try.f3 false true false false) := by
  refine returnsInHanded_of_change (C := Try.checked) own started (by kernel_rfl) Try.func3
    (ChangeSpec.witness6 (enc := enc) (C := Try.checked) false ⟨#[], #[.slice none 0 0], []⟩ 8 (by kernel_rfl) (by kernel_rfl) (by kernel_rfl) (by kernel_rfl)) ?_
  intro W base args ds gs before hval hW _ _
  exact contract H enc W base args ds gs before hval hW

/-- The given statement. -/
theorem proved : Rows.FnTreesSaid :=
  OpenClaim.holds_of_wide 3 Try.f3 rfl rfl rfl rfl rfl rfl rfl ⟨rfl, rfl, rfl, rfl, rfl⟩ rfl rfl rfl rfl rfl (by kernel_rfl) Try.func3 (by kernel_rfl)
    (of_decide_eq_true (by kernel_rfl)) (by unfold Func.isWrapper; first | (rw [if_pos (by decide +kernel)]; kernel_rfl) | (rw [if_neg (by decide +kernel)]; exact ⟨rfl, rfl⟩))
    (fun os started H enc _ => lifted os started H enc)
#print axioms proved
end Go.Proofs.Ytckpjldenkjddaa.fnTrees
end

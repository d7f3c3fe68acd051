import Derived.BigQuiet
import Derived.Lib.QuietBelow
import Derived.Test.YtckpjldenkjddaaZcBA
import Derived.Test.YtckpjldenkjddaaZcBB
import Derived.Test.YtckpjldenkjddaaZcBD
import Derived.Test.YtckpjldenkjddaaZcBW
section
namespace Go.Proofs.Ytckpjldenkjddaa.fnChanged
open Go.ChangeShapes Go.WideShapes Go.ChangeAt Go.RowKit
set_option linter.unusedVariables false
set_option linter.unusedSimpArgs false
set_option maxRecDepth 20000

theorem hp_second (w : World) (x y : Obj) : ((w.alloc x).alloc y).heap[w.heap.size + 1]? = some y := by have := hp_new (w.alloc x) y; simpa using this
theorem quiet_tr {K : Act → Prop} {a : Act} {o : Oper} {g : Nat} {v : Value} {w : World} {x : Operand} (ho : o.op = .load 26 x) (hx : a.eval x = .pointer (some ⟨g, 0, none⟩)) (hg : w.cell? ⟨g, 0, none⟩ = some v) (h : K (a.put o.dst (.agg #[v]))) :
    o.quiet Try.prog a (fun w' => ∃ p : Regrown, w' = Sort.grow (redrawn w p.d) p.os) K :=
  ⟨.agg #[v], fun w' hw => by
    obtain ⟨p, rfl⟩ := hw
    unfold Oper.quietAt execOp
    simp only [ho, hx, Instr.loadAt, Instr.sureAddr, Sem.run_bind, Sem.run_pure, Result.andThen_ok, load_tr (cell_regrown hg p.d p.os)]
    exact ⟨rfl, rfl⟩, h⟩
/-- What a call that hands back a tree and a code leaves, and the box that the tree is put into. -/
theorem ch_open {L : List PN} {c : Int} {w w' : World} {e : Ending} (h : ChPost L c w e w') : ∃ (ad : Option Addr) (cap : Nat), e = .returned (.tuple #[.agg #[.slice ad L.length cap], .int .i64 c]) ∧ Nds w' ad L ∧ Below w.heap.size w w' := by
  obtain ⟨v, ms, rfl, rfl, ho, hb⟩ := h
  obtain ⟨ad, cap, rfl, hn⟩ := ho.nds
  exact ⟨ad, cap, by rw [List.length_map], hn, hb⟩
set_option maxRecDepth 100000 in
set_option maxHeartbeats 64000000 in
theorem walk (a : Option Addr) (len cap : Nat) (w : World) (hl : len ≤ 1048576) (hc : Code w a len) :
    Calls Try.prog 4 #[.slice a len cap] w fun e w' => e = .returned (.bool true) ∧ Below w.heap.size w w' := by
  have HC := Lib.hid hc
  go_enter Try.func4, Try.ntmps4
  have BB := Lib.hid (Below.refl w.heap.size w)
  go_wp2_with (first | (go_at_call 12; go_in) | fail)
  refine (draw_setstyle a len cap w hl hc).mono ?_
  rintro e w1 ⟨va, vc, ms, z, f, rfl, ho, hm1, hm2, hs, hz, hf, bc⟩
  obtain ⟨ad, cp, e1, hn⟩ := ho.nds
  simp only [Value.slice.injEq] at e1
  rw [← e1.1] at hn
  clear e1
  obtain ⟨ns, ens⟩ : ∃ q, q = ms.map ND.n := ⟨_, rfl⟩
  have HNLns := Lib.hid (show ms.length = ns.length by rw [ens]; simp)
  rw [← ens] at hn hs
  obtain ⟨u1, eu1⟩ : ∃ q, q = ((w1.alloc (.cells #[.slice va ms.length vc] 26)).alloc (.cells (sCells fun _ => 0) 41)).setRow (w1.heap.size + 1) (sCells f) := ⟨_, rfl⟩
  have bwu : Below w1.heap.size w1 u1 := by rw [eu1]; exact below_setRow (Go.Joins.below_alloc2 ..) (by omega) _
  have bcu : Below w.heap.size w u1 := bc.trans (bwu.mono bc.size)
  replace BB := Lib.hid (BB.out.trans (bcu.mono BB.out.size))
  have H3 := Lib.hid (show u1.heap[w1.heap.size]? = some (.cells #[.slice va ms.length vc] 26) by rw [eu1]; exact hp_row (hp_on (hp_new w1 _) _) (by omega) _)
  have H5 := Lib.hid (show u1.heap[w1.heap.size + 1]? = some (.cells (sCells f) 41) by rw [eu1]; exact setRow_heap _ _ _ _ _ _ (hp_second _ _ _))
  have N1 := Lib.hid (hn.below bwu)
  clear hn ho ens
  have Eu1 := Lib.hid eu1
  clear eu1 bwu bcu bc
  have hsz : szS ns ≤ 1048576 := by omega
  clear hs
  have cH3 := c_of H3.out
  go_wp2_with (first | (rw [← Eu1.out]) | ((with_reducible apply list_alloc_sty); exact rfl; exact rfl; simp only [World.size_alloc, Act.put, List.setIfInBounds_toArray, List.set_cons_succ, List.set_cons_zero]) | ((with_reducible apply list_store_sty); exact rfl; exact rfl; exact rfl; exact rfl; (with_reducible exact hp_second _ _ _); simp only [World.size_alloc, Act.put, List.setIfInBounds_toArray, List.set_cons_succ, List.set_cons_zero]; (try rw [← Eu1.out])) | ((with_reducible apply list_load_sty); exact rfl; exact rfl; exact rfl; (with_reducible exact H5.out); simp only [World.size_alloc, Act.put, List.setIfInBounds_toArray, List.set_cons_succ, List.set_cons_zero]) | fail)
  clear cH3
  have K1 := Lib.hid (show Calls Try.prog 25 #[.agg #[.slice va ms.length vc], .int .i64 z, .agg (sCells f)] u1 (ChPost (ssN ns z f) (ssC ns z f) u1) by rw [HNLns.out]; exact isetstyle va vc ns z f u1 N1.out hsz hf ⟨by omega, by omega⟩)
  refine K1.out.mono ?_
  intro e w2 hch
  obtain ⟨adw2, cpw2, rfl, hn, bc⟩ := ch_open hch
  clear hch K1
  obtain ⟨u2, eu2⟩ : ∃ q, q = w2.alloc (.cells #[.slice adw2 (ssN ns z f).length cpw2] 26) := ⟨_, rfl⟩
  have bwu : Below w2.heap.size w2 u2 := by rw [eu2]; exact bel_alloc _ _
  have bcu : Below u1.heap.size u1 u2 := bc.trans (bwu.mono bc.size)
  replace H3 := Lib.hid (hp_below H3.out bcu)
  replace H5 := Lib.hid (hp_below H5.out bcu)
  replace N1 := Lib.hid (N1.out.below bcu)
  replace BB := Lib.hid (BB.out.trans (bcu.mono BB.out.size))
  have H6 := Lib.hid (show u2.heap[w2.heap.size]? = some (.cells #[.slice adw2 (ssN ns z f).length cpw2] 26) by rw [eu2]; exact hp_new w2 _)
  have N2 := Lib.hid (hn.below bwu)
  clear hn
  have Eu2 := Lib.hid eu2
  clear eu2 bwu bcu bc
  have cH3 := c_of H3.out
  (try dsimp only)
  go_wp2_with (first | (rw [← Eu2.out]) | ((with_reducible apply list_load_sty); exact rfl; exact rfl; exact rfl; (with_reducible exact H5.out); simp only [World.size_alloc, Act.put, List.setIfInBounds_toArray, List.set_cons_succ, List.set_cons_zero]) | fail)
  clear cH3
  have K1 := Lib.hid (show Calls Try.prog 26 #[.agg #[.slice va ms.length vc], .int .i64 z, .agg (sCells f)] u2 (ChPost (ssN ns z f) (ssC ns z f) u2) by rw [HNLns.out]; exact ssetstyle va vc ns z f u2 N1.out hsz hf ⟨by omega, by omega⟩)
  refine K1.out.mono ?_
  intro e w3 hch
  obtain ⟨adw3, cpw3, rfl, hn, bc⟩ := ch_open hch
  clear hch K1
  obtain ⟨u3, eu3⟩ : ∃ q, q = w3.alloc (.cells #[.slice adw3 (ssN ns z f).length cpw3] 26) := ⟨_, rfl⟩
  have bwu : Below w3.heap.size w3 u3 := by rw [eu3]; exact bel_alloc _ _
  have bcu : Below u2.heap.size u2 u3 := bc.trans (bwu.mono bc.size)
  replace H3 := Lib.hid (hp_below H3.out bcu)
  replace H5 := Lib.hid (hp_below H5.out bcu)
  replace H6 := Lib.hid (hp_below H6.out bcu)
  replace N1 := Lib.hid (N1.out.below bcu)
  replace N2 := Lib.hid (N2.out.below bcu)
  replace BB := Lib.hid (BB.out.trans (bcu.mono BB.out.size))
  have H8 := Lib.hid (show u3.heap[w3.heap.size]? = some (.cells #[.slice adw3 (ssN ns z f).length cpw3] 26) by rw [eu3]; exact hp_new w3 _)
  have N3 := Lib.hid (hn.below bwu)
  clear hn
  have Eu3 := Lib.hid eu3
  clear eu3 bwu bcu bc
  (try dsimp only)
  go_wp2_with (first | (rw [← Eu3.out]) | ((with_reducible apply list_load_sty); exact rfl; exact rfl; exact rfl; (with_reducible exact H5.out); simp only [World.size_alloc, Act.put, List.setIfInBounds_toArray, List.set_cons_succ, List.set_cons_zero]) | fail)
  refine (draw_settable a len cap u3 hl (HC.out.below BB.out)).mono ?_
  rintro e w4 ⟨va2, vc2, ms2, z2, tb, tn, tc, rs, rfl, ho, hm21, hm22, hs, hz2, htn, hrs, hrow, bc⟩
  obtain ⟨ad, cp, e1, hn⟩ := ho.nds
  simp only [Value.slice.injEq] at e1
  rw [← e1.1] at hn
  clear e1
  obtain ⟨ns2, ens⟩ : ∃ q, q = ms2.map ND.n := ⟨_, rfl⟩
  have HNLns2 := Lib.hid (show ms2.length = ns2.length by rw [ens]; simp)
  rw [← ens] at hn hs
  have hrl := RowR.rls hrow hrs
  obtain ⟨u4, eu4⟩ : ∃ q, q = (w4.alloc (.cells #[.slice va2 ms2.length vc2] 26)).alloc (.cells #[.slice (some ⟨tb, 0, none⟩) tn tc] 51) := ⟨_, rfl⟩
  have bwu : Below w4.heap.size w4 u4 := by rw [eu4]; exact Go.Joins.below_alloc2 ..
  have bcu : Below u3.heap.size u3 u4 := bc.trans (bwu.mono bc.size)
  replace H3 := Lib.hid (hp_below H3.out bcu)
  replace H5 := Lib.hid (hp_below H5.out bcu)
  replace H6 := Lib.hid (hp_below H6.out bcu)
  replace H8 := Lib.hid (hp_below H8.out bcu)
  replace N1 := Lib.hid (N1.out.below bcu)
  replace N2 := Lib.hid (N2.out.below bcu)
  replace N3 := Lib.hid (N3.out.below bcu)
  replace BB := Lib.hid (BB.out.trans (bcu.mono BB.out.size))
  have H10 := Lib.hid (show u4.heap[w4.heap.size]? = some (.cells #[.slice va2 ms2.length vc2] 26) by rw [eu4]; exact hp_on (hp_new w4 _) _)
  have H12 := Lib.hid (show u4.heap[w4.heap.size + 1]? = some (.cells #[.slice (some ⟨tb, 0, none⟩) tn tc] 51) by rw [eu4]; exact hp_second _ _ _)
  have N4 := Lib.hid (hn.below bwu)
  have R4 := Lib.hid (hrl.below bwu)
  have hsz2 : szS ns2 ≤ 1048576 := by omega
  have hsz2b : szS ns2 ≤ 4000 := by omega
  clear hn ho ens hs hrow hrl
  have Eu4 := Lib.hid eu4
  clear eu4 bwu bcu bc
  have cH10 := c_of H10.out
  have cH12 := c_of H12.out
  (try dsimp only)
  go_wp2_with (first | (rw [← Eu4.out]) | ((with_reducible apply list_load_sty); exact rfl; exact rfl; exact rfl; (with_reducible exact H5.out); simp only [World.size_alloc, Act.put, List.setIfInBounds_toArray, List.set_cons_succ, List.set_cons_zero]) | fail)
  clear cH10 cH12
  have K1 := Lib.hid (show Calls Try.prog 28 #[.agg #[.slice va2 ms2.length vc2], .int .i64 z2, .agg #[.slice (some ⟨tb, 0, none⟩) tn tc]] u4 (ChPost (stN ns2 z2 tn rs) (stC ns2 z2 tn rs) u4) by rw [HNLns2.out]; exact isettable va2 vc2 ns2 z2 (some ⟨tb, 0, none⟩) tn tc rs u4 N4.out hsz2 R4.out (by omega) ⟨by omega, by omega⟩)
  refine K1.out.mono ?_
  intro e w5 hch
  obtain ⟨adw5, cpw5, rfl, hn, bc⟩ := ch_open hch
  clear hch K1
  obtain ⟨u5, eu5⟩ : ∃ q, q = w5.alloc (.cells #[.slice adw5 (stN ns2 z2 tn rs).length cpw5] 26) := ⟨_, rfl⟩
  have bwu : Below w5.heap.size w5 u5 := by rw [eu5]; exact bel_alloc _ _
  have bcu : Below u4.heap.size u4 u5 := bc.trans (bwu.mono bc.size)
  replace H3 := Lib.hid (hp_below H3.out bcu)
  replace H5 := Lib.hid (hp_below H5.out bcu)
  replace H6 := Lib.hid (hp_below H6.out bcu)
  replace H8 := Lib.hid (hp_below H8.out bcu)
  replace H10 := Lib.hid (hp_below H10.out bcu)
  replace H12 := Lib.hid (hp_below H12.out bcu)
  replace N1 := Lib.hid (N1.out.below bcu)
  replace N2 := Lib.hid (N2.out.below bcu)
  replace N3 := Lib.hid (N3.out.below bcu)
  replace N4 := Lib.hid (N4.out.below bcu)
  replace R4 := Lib.hid (R4.out.below bcu)
  replace BB := Lib.hid (BB.out.trans (bcu.mono BB.out.size))
  have H13 := Lib.hid (show u5.heap[w5.heap.size]? = some (.cells #[.slice adw5 (stN ns2 z2 tn rs).length cpw5] 26) by rw [eu5]; exact hp_new w5 _)
  have N5 := Lib.hid (hn.below bwu)
  clear hn
  have Eu5 := Lib.hid eu5
  clear eu5 bwu bcu bc
  have cH10 := c_of H10.out
  have cH12 := c_of H12.out
  (try dsimp only)
  go_wp2_with (first | (rw [← Eu5.out]) | ((with_reducible apply list_load_sty); exact rfl; exact rfl; exact rfl; (with_reducible exact H5.out); simp only [World.size_alloc, Act.put, List.setIfInBounds_toArray, List.set_cons_succ, List.set_cons_zero]) | fail)
  clear cH10 cH12
  have K1 := Lib.hid (show Calls Try.prog 29 #[.agg #[.slice va2 ms2.length vc2], .int .i64 z2, .agg #[.slice (some ⟨tb, 0, none⟩) tn tc]] u5 (ChPost (stN ns2 z2 tn rs) (stC ns2 z2 tn rs) u5) by rw [HNLns2.out]; exact ssettable va2 vc2 ns2 z2 (some ⟨tb, 0, none⟩) tn tc rs u5 N4.out hsz2 R4.out (by omega) ⟨by omega, by omega⟩)
  refine K1.out.mono ?_
  intro e w6 hch
  obtain ⟨adw6, cpw6, rfl, hn, bc⟩ := ch_open hch
  clear hch K1
  obtain ⟨u6, eu6⟩ : ∃ q, q = w6.alloc (.cells #[.slice adw6 (stN ns2 z2 tn rs).length cpw6] 26) := ⟨_, rfl⟩
  have bwu : Below w6.heap.size w6 u6 := by rw [eu6]; exact bel_alloc _ _
  have bcu : Below u5.heap.size u5 u6 := bc.trans (bwu.mono bc.size)
  replace H3 := Lib.hid (hp_below H3.out bcu)
  replace H5 := Lib.hid (hp_below H5.out bcu)
  replace H6 := Lib.hid (hp_below H6.out bcu)
  replace H8 := Lib.hid (hp_below H8.out bcu)
  replace H10 := Lib.hid (hp_below H10.out bcu)
  replace H12 := Lib.hid (hp_below H12.out bcu)
  replace H13 := Lib.hid (hp_below H13.out bcu)
  replace N1 := Lib.hid (N1.out.below bcu)
  replace N2 := Lib.hid (N2.out.below bcu)
  replace N3 := Lib.hid (N3.out.below bcu)
  replace N4 := Lib.hid (N4.out.below bcu)
  replace R4 := Lib.hid (R4.out.below bcu)
  replace N5 := Lib.hid (N5.out.below bcu)
  replace BB := Lib.hid (BB.out.trans (bcu.mono BB.out.size))
  have H15 := Lib.hid (show u6.heap[w6.heap.size]? = some (.cells #[.slice adw6 (stN ns2 z2 tn rs).length cpw6] 26) by rw [eu6]; exact hp_new w6 _)
  have N6 := Lib.hid (hn.below bwu)
  clear hn
  have Eu6 := Lib.hid eu6
  clear eu6 bwu bcu bc
  (try dsimp only)
  go_wp2_with (first | (rw [← Eu6.out]) | ((with_reducible apply list_load_sty); exact rfl; exact rfl; exact rfl; (with_reducible exact H5.out); simp only [World.size_alloc, Act.put, List.setIfInBounds_toArray, List.set_cons_succ, List.set_cons_zero]) | fail)
  refine (draw_removekid a len cap u6 hl (HC.out.below BB.out)).mono ?_
  rintro e w7 ⟨va3, vc3, ms3, n3, kid3, rfl, ho, hm31, hm32, hs, hn3, hkid3, bc⟩
  obtain ⟨ad, cp, e1, hn⟩ := ho.nds
  simp only [Value.slice.injEq] at e1
  rw [← e1.1] at hn
  clear e1
  obtain ⟨ns3, ens⟩ : ∃ q, q = ms3.map ND.n := ⟨_, rfl⟩
  have HNLns3 := Lib.hid (show ms3.length = ns3.length by rw [ens]; simp)
  rw [← ens] at hn hs
  obtain ⟨u7, eu7⟩ : ∃ q, q = w7.alloc (.cells #[.slice va3 ms3.length vc3] 26) := ⟨_, rfl⟩
  have bwu : Below w7.heap.size w7 u7 := by rw [eu7]; exact bel_alloc _ _
  have bcu : Below u6.heap.size u6 u7 := bc.trans (bwu.mono bc.size)
  replace H3 := Lib.hid (hp_below H3.out bcu)
  replace H5 := Lib.hid (hp_below H5.out bcu)
  replace H6 := Lib.hid (hp_below H6.out bcu)
  replace H8 := Lib.hid (hp_below H8.out bcu)
  replace H10 := Lib.hid (hp_below H10.out bcu)
  replace H12 := Lib.hid (hp_below H12.out bcu)
  replace H13 := Lib.hid (hp_below H13.out bcu)
  replace H15 := Lib.hid (hp_below H15.out bcu)
  replace N1 := Lib.hid (N1.out.below bcu)
  replace N2 := Lib.hid (N2.out.below bcu)
  replace N3 := Lib.hid (N3.out.below bcu)
  replace N4 := Lib.hid (N4.out.below bcu)
  replace R4 := Lib.hid (R4.out.below bcu)
  replace N5 := Lib.hid (N5.out.below bcu)
  replace N6 := Lib.hid (N6.out.below bcu)
  replace BB := Lib.hid (BB.out.trans (bcu.mono BB.out.size))
  have H17 := Lib.hid (show u7.heap[w7.heap.size]? = some (.cells #[.slice va3 ms3.length vc3] 26) by rw [eu7]; exact hp_new w7 _)
  have N7 := Lib.hid (hn.below bwu)
  have hsz3 : szS ns3 ≤ 1048576 := by omega
  clear hn ho ens hs
  have Eu7 := Lib.hid eu7
  clear eu7 bwu bcu bc
  have cH17 := c_of H17.out
  (try dsimp only)
  go_wp2_with (first | (rw [← Eu7.out]) | ((with_reducible apply list_load_sty); exact rfl; exact rfl; exact rfl; (with_reducible exact H5.out); simp only [World.size_alloc, Act.put, List.setIfInBounds_toArray, List.set_cons_succ, List.set_cons_zero]) | fail)
  clear cH17
  have K1 := Lib.hid (show Calls Try.prog 21 #[.agg #[.slice va3 ms3.length vc3], .int .i64 n3, .int .i64 kid3] u7 (ChPost (rkN ns3 n3 kid3) (rkC ns3 n3 kid3) u7) by rw [HNLns3.out]; exact iremovekid va3 vc3 ns3 n3 kid3 u7 N7.out hsz3 hn3 hkid3)
  refine K1.out.mono ?_
  intro e w8 hch
  obtain ⟨adw8, cpw8, rfl, hn, bc⟩ := ch_open hch
  clear hch K1
  obtain ⟨u8, eu8⟩ : ∃ q, q = w8.alloc (.cells #[.slice adw8 (rkN ns3 n3 kid3).length cpw8] 26) := ⟨_, rfl⟩
  have bwu : Below w8.heap.size w8 u8 := by rw [eu8]; exact bel_alloc _ _
  have bcu : Below u7.heap.size u7 u8 := bc.trans (bwu.mono bc.size)
  replace H3 := Lib.hid (hp_below H3.out bcu)
  replace H5 := Lib.hid (hp_below H5.out bcu)
  replace H6 := Lib.hid (hp_below H6.out bcu)
  replace H8 := Lib.hid (hp_below H8.out bcu)
  replace H10 := Lib.hid (hp_below H10.out bcu)
  replace H12 := Lib.hid (hp_below H12.out bcu)
  replace H13 := Lib.hid (hp_below H13.out bcu)
  replace H15 := Lib.hid (hp_below H15.out bcu)
  replace H17 := Lib.hid (hp_below H17.out bcu)
  replace N1 := Lib.hid (N1.out.below bcu)
  replace N2 := Lib.hid (N2.out.below bcu)
  replace N3 := Lib.hid (N3.out.below bcu)
  replace N4 := Lib.hid (N4.out.below bcu)
  replace R4 := Lib.hid (R4.out.below bcu)
  replace N5 := Lib.hid (N5.out.below bcu)
  replace N6 := Lib.hid (N6.out.below bcu)
  replace N7 := Lib.hid (N7.out.below bcu)
  replace BB := Lib.hid (BB.out.trans (bcu.mono BB.out.size))
  have H20 := Lib.hid (show u8.heap[w8.heap.size]? = some (.cells #[.slice adw8 (rkN ns3 n3 kid3).length cpw8] 26) by rw [eu8]; exact hp_new w8 _)
  have N8 := Lib.hid (hn.below bwu)
  clear hn
  have Eu8 := Lib.hid eu8
  clear eu8 bwu bcu bc
  have cH17 := c_of H17.out
  (try dsimp only)
  go_wp2_with (first | (rw [← Eu8.out]) | ((with_reducible apply list_load_sty); exact rfl; exact rfl; exact rfl; (with_reducible exact H5.out); simp only [World.size_alloc, Act.put, List.setIfInBounds_toArray, List.set_cons_succ, List.set_cons_zero]) | fail)
  clear cH17
  have K1 := Lib.hid (show Calls Try.prog 31 #[.agg #[.slice va3 ms3.length vc3], .int .i64 n3, .int .i64 kid3] u8 (ChPost (rkN ns3 n3 kid3) (rkC ns3 n3 kid3) u8) by rw [HNLns3.out]; exact sremovekid va3 vc3 ns3 n3 kid3 u8 N7.out hsz3 hn3 hkid3)
  refine K1.out.mono ?_
  intro e w9 hch
  obtain ⟨adw9, cpw9, rfl, hn, bc⟩ := ch_open hch
  clear hch K1
  obtain ⟨u9, eu9⟩ : ∃ q, q = w9.alloc (.cells #[.slice adw9 (rkN ns3 n3 kid3).length cpw9] 26) := ⟨_, rfl⟩
  have bwu : Below w9.heap.size w9 u9 := by rw [eu9]; exact bel_alloc _ _
  have bcu : Below u8.heap.size u8 u9 := bc.trans (bwu.mono bc.size)
  replace H3 := Lib.hid (hp_below H3.out bcu)
  replace H5 := Lib.hid (hp_below H5.out bcu)
  replace H6 := Lib.hid (hp_below H6.out bcu)
  replace H8 := Lib.hid (hp_below H8.out bcu)
  replace H10 := Lib.hid (hp_below H10.out bcu)
  replace H12 := Lib.hid (hp_below H12.out bcu)
  replace H13 := Lib.hid (hp_below H13.out bcu)
  replace H15 := Lib.hid (hp_below H15.out bcu)
  replace H17 := Lib.hid (hp_below H17.out bcu)
  replace H20 := Lib.hid (hp_below H20.out bcu)
  replace N1 := Lib.hid (N1.out.below bcu)
  replace N2 := Lib.hid (N2.out.below bcu)
  replace N3 := Lib.hid (N3.out.below bcu)
  replace N4 := Lib.hid (N4.out.below bcu)
  replace R4 := Lib.hid (R4.out.below bcu)
  replace N5 := Lib.hid (N5.out.below bcu)
  replace N6 := Lib.hid (N6.out.below bcu)
  replace N7 := Lib.hid (N7.out.below bcu)
  replace N8 := Lib.hid (N8.out.below bcu)
  replace BB := Lib.hid (BB.out.trans (bcu.mono BB.out.size))
  have H22 := Lib.hid (show u9.heap[w9.heap.size]? = some (.cells #[.slice adw9 (rkN ns3 n3 kid3).length cpw9] 26) by rw [eu9]; exact hp_new w9 _)
  have N9 := Lib.hid (hn.below bwu)
  clear hn
  have Eu9 := Lib.hid eu9
  clear eu9 bwu bcu bc
  have hszA := qssN_sz ns z f hsz
  have hszB := qstN_sz ns2 z2 tn rs (by omega)
  have hszC := qrkN_sz ns3 n3 kid3 hsz3
  have cH6 := c_of H6.out
  have cH8 := c_of H8.out
  have cH13 := c_of H13.out
  have cH15 := c_of H15.out
  have cH20 := c_of H20.out
  have cH22 := c_of H22.out
  (try dsimp only)
  go_wp2_with (first | (rw [← Eu9.out]) | ((with_reducible apply list_load_sty); exact rfl; exact rfl; exact rfl; (with_reducible exact H5.out); simp only [World.size_alloc, Act.put, List.setIfInBounds_toArray, List.set_cons_succ, List.set_cons_zero]) | fail)
  refine (sametr_any adw2 adw3 _ _ (ssN ns z f) u9 N2.out N3.out (Nat.le_trans hszA (by decide))).mono ?_
  rintro e w10 ⟨rfl, bc⟩
  obtain ⟨u10, eu10⟩ : ∃ q, q = w10 := ⟨_, rfl⟩
  have bwu : Below w10.heap.size w10 u10 := by rw [eu10]; exact Below.refl _ _
  have bcu : Below u9.heap.size u9 u10 := bc.trans (bwu.mono bc.size)
  replace H3 := Lib.hid (hp_below H3.out bcu)
  replace H5 := Lib.hid (hp_below H5.out bcu)
  replace H6 := Lib.hid (hp_below H6.out bcu)
  replace H8 := Lib.hid (hp_below H8.out bcu)
  replace H10 := Lib.hid (hp_below H10.out bcu)
  replace H12 := Lib.hid (hp_below H12.out bcu)
  replace H13 := Lib.hid (hp_below H13.out bcu)
  replace H15 := Lib.hid (hp_below H15.out bcu)
  replace H17 := Lib.hid (hp_below H17.out bcu)
  replace H20 := Lib.hid (hp_below H20.out bcu)
  replace H22 := Lib.hid (hp_below H22.out bcu)
  replace N1 := Lib.hid (N1.out.below bcu)
  replace N2 := Lib.hid (N2.out.below bcu)
  replace N3 := Lib.hid (N3.out.below bcu)
  replace N4 := Lib.hid (N4.out.below bcu)
  replace R4 := Lib.hid (R4.out.below bcu)
  replace N5 := Lib.hid (N5.out.below bcu)
  replace N6 := Lib.hid (N6.out.below bcu)
  replace N7 := Lib.hid (N7.out.below bcu)
  replace N8 := Lib.hid (N8.out.below bcu)
  replace N9 := Lib.hid (N9.out.below bcu)
  replace BB := Lib.hid (BB.out.trans (bcu.mono BB.out.size))
  have Eu10 := Lib.hid eu10
  clear eu10 bwu bcu bc
  clear cH6
  clear cH8
  clear cH13
  clear cH15
  clear cH20
  clear cH22
  have cH13 := c_of H13.out
  have cH15 := c_of H15.out
  have cH20 := c_of H20.out
  have cH22 := c_of H22.out
  (try dsimp only)
  go_wp2_with (first | (rw [← Eu10.out]) | ((with_reducible apply list_load_sty); exact rfl; exact rfl; exact rfl; (with_reducible exact H5.out); simp only [World.size_alloc, Act.put, List.setIfInBounds_toArray, List.set_cons_succ, List.set_cons_zero]) | fail)
  refine (sametr_any adw5 adw6 _ _ (stN ns2 z2 tn rs) u10 N5.out N6.out (Nat.le_trans hszB (by decide))).mono ?_
  rintro e w11 ⟨rfl, bc⟩
  obtain ⟨u11, eu11⟩ : ∃ q, q = w11 := ⟨_, rfl⟩
  have bwu : Below w11.heap.size w11 u11 := by rw [eu11]; exact Below.refl _ _
  have bcu : Below u10.heap.size u10 u11 := bc.trans (bwu.mono bc.size)
  replace H3 := Lib.hid (hp_below H3.out bcu)
  replace H5 := Lib.hid (hp_below H5.out bcu)
  replace H6 := Lib.hid (hp_below H6.out bcu)
  replace H8 := Lib.hid (hp_below H8.out bcu)
  replace H10 := Lib.hid (hp_below H10.out bcu)
  replace H12 := Lib.hid (hp_below H12.out bcu)
  replace H13 := Lib.hid (hp_below H13.out bcu)
  replace H15 := Lib.hid (hp_below H15.out bcu)
  replace H17 := Lib.hid (hp_below H17.out bcu)
  replace H20 := Lib.hid (hp_below H20.out bcu)
  replace H22 := Lib.hid (hp_below H22.out bcu)
  replace N1 := Lib.hid (N1.out.below bcu)
  replace N2 := Lib.hid (N2.out.below bcu)
  replace N3 := Lib.hid (N3.out.below bcu)
  replace N4 := Lib.hid (N4.out.below bcu)
  replace R4 := Lib.hid (R4.out.below bcu)
  replace N5 := Lib.hid (N5.out.below bcu)
  replace N6 := Lib.hid (N6.out.below bcu)
  replace N7 := Lib.hid (N7.out.below bcu)
  replace N8 := Lib.hid (N8.out.below bcu)
  replace N9 := Lib.hid (N9.out.below bcu)
  replace BB := Lib.hid (BB.out.trans (bcu.mono BB.out.size))
  have Eu11 := Lib.hid eu11
  clear eu11 bwu bcu bc
  clear cH13
  clear cH15
  clear cH20
  clear cH22
  have cH20 := c_of H20.out
  have cH22 := c_of H22.out
  (try dsimp only)
  go_wp2_with (first | (rw [← Eu11.out]) | ((with_reducible apply list_load_sty); exact rfl; exact rfl; exact rfl; (with_reducible exact H5.out); simp only [World.size_alloc, Act.put, List.setIfInBounds_toArray, List.set_cons_succ, List.set_cons_zero]) | fail)
  refine (sametr_any adw8 adw9 _ _ (rkN ns3 n3 kid3) u11 N8.out N9.out (Nat.le_trans hszC (by decide))).mono ?_
  rintro e w12 ⟨rfl, bc⟩
  obtain ⟨u12, eu12⟩ : ∃ q, q = w12 := ⟨_, rfl⟩
  have bwu : Below w12.heap.size w12 u12 := by rw [eu12]; exact Below.refl _ _
  have bcu : Below u11.heap.size u11 u12 := bc.trans (bwu.mono bc.size)
  replace H3 := Lib.hid (hp_below H3.out bcu)
  replace H5 := Lib.hid (hp_below H5.out bcu)
  replace H6 := Lib.hid (hp_below H6.out bcu)
  replace H8 := Lib.hid (hp_below H8.out bcu)
  replace H10 := Lib.hid (hp_below H10.out bcu)
  replace H12 := Lib.hid (hp_below H12.out bcu)
  replace H13 := Lib.hid (hp_below H13.out bcu)
  replace H15 := Lib.hid (hp_below H15.out bcu)
  replace H17 := Lib.hid (hp_below H17.out bcu)
  replace H20 := Lib.hid (hp_below H20.out bcu)
  replace H22 := Lib.hid (hp_below H22.out bcu)
  replace N1 := Lib.hid (N1.out.below bcu)
  replace N2 := Lib.hid (N2.out.below bcu)
  replace N3 := Lib.hid (N3.out.below bcu)
  replace N4 := Lib.hid (N4.out.below bcu)
  replace R4 := Lib.hid (R4.out.below bcu)
  replace N5 := Lib.hid (N5.out.below bcu)
  replace N6 := Lib.hid (N6.out.below bcu)
  replace N7 := Lib.hid (N7.out.below bcu)
  replace N8 := Lib.hid (N8.out.below bcu)
  replace N9 := Lib.hid (N9.out.below bcu)
  replace BB := Lib.hid (BB.out.trans (bcu.mono BB.out.size))
  have Eu12 := Lib.hid eu12
  clear eu12 bwu bcu bc
  clear cH20 cH22
  (try dsimp only)
  go_wp2_with (first | (rw [← Eu12.out]) | ((with_reducible apply list_load_sty); exact rfl; exact rfl; exact rfl; (with_reducible exact H5.out); simp only [World.size_alloc, Act.put, List.setIfInBounds_toArray, List.set_cons_succ, List.set_cons_zero]) | fail)
  refine (draw_addnode a len cap u12 hl (HC.out.below BB.out)).mono ?_
  rintro e w13 ⟨va4, vc4, ms4, f4, rfl, ho, hm41, hm42, hs, hf4, bc⟩
  obtain ⟨ad, cp, e1, hn⟩ := ho.nds
  simp only [Value.slice.injEq] at e1
  rw [← e1.1] at hn
  clear e1
  obtain ⟨ns4, ens⟩ : ∃ q, q = ms4.map ND.n := ⟨_, rfl⟩
  have HNLns4 := Lib.hid (show ms4.length = ns4.length by rw [ens]; simp)
  rw [← ens] at hn hs
  obtain ⟨u13, eu13⟩ : ∃ q, q = ((w13.alloc (.cells #[.slice va4 ms4.length vc4] 26)).alloc (.cells (sCells fun _ => 0) 41)).setRow (w13.heap.size + 1) (sCells f4) := ⟨_, rfl⟩
  have bwu : Below w13.heap.size w13 u13 := by rw [eu13]; exact below_setRow (Go.Joins.below_alloc2 ..) (by omega) _
  have bcu : Below u12.heap.size u12 u13 := bc.trans (bwu.mono bc.size)
  replace H3 := Lib.hid (hp_below H3.out bcu)
  replace H5 := Lib.hid (hp_below H5.out bcu)
  replace H6 := Lib.hid (hp_below H6.out bcu)
  replace H8 := Lib.hid (hp_below H8.out bcu)
  replace H10 := Lib.hid (hp_below H10.out bcu)
  replace H12 := Lib.hid (hp_below H12.out bcu)
  replace H13 := Lib.hid (hp_below H13.out bcu)
  replace H15 := Lib.hid (hp_below H15.out bcu)
  replace H17 := Lib.hid (hp_below H17.out bcu)
  replace H20 := Lib.hid (hp_below H20.out bcu)
  replace H22 := Lib.hid (hp_below H22.out bcu)
  replace N1 := Lib.hid (N1.out.below bcu)
  replace N2 := Lib.hid (N2.out.below bcu)
  replace N3 := Lib.hid (N3.out.below bcu)
  replace N4 := Lib.hid (N4.out.below bcu)
  replace R4 := Lib.hid (R4.out.below bcu)
  replace N5 := Lib.hid (N5.out.below bcu)
  replace N6 := Lib.hid (N6.out.below bcu)
  replace N7 := Lib.hid (N7.out.below bcu)
  replace N8 := Lib.hid (N8.out.below bcu)
  replace N9 := Lib.hid (N9.out.below bcu)
  replace BB := Lib.hid (BB.out.trans (bcu.mono BB.out.size))
  have H24 := Lib.hid (show u13.heap[w13.heap.size]? = some (.cells #[.slice va4 ms4.length vc4] 26) by rw [eu13]; exact hp_row (hp_on (hp_new w13 _) _) (by omega) _)
  have H25 := Lib.hid (show u13.heap[w13.heap.size + 1]? = some (.cells (sCells f4) 41) by rw [eu13]; exact setRow_heap _ _ _ _ _ _ (hp_second _ _ _))
  have N10 := Lib.hid (hn.below bwu)
  clear hn ho ens
  have Eu13 := Lib.hid eu13
  clear eu13 bwu bcu bc
  have hsz4 : szS ns4 ≤ 1048576 := by omega
  clear hs
  have cH24 := c_of H24.out
  (try dsimp only)
  go_wp2_with (first | (rw [← Eu13.out]) | ((with_reducible apply list_alloc_sty); exact rfl; exact rfl; simp only [World.size_alloc, Act.put, List.setIfInBounds_toArray, List.set_cons_succ, List.set_cons_zero]) | ((with_reducible apply list_store_sty); exact rfl; exact rfl; exact rfl; exact rfl; (with_reducible exact hp_second _ _ _); simp only [World.size_alloc, Act.put, List.setIfInBounds_toArray, List.set_cons_succ, List.set_cons_zero]; (try rw [← Eu13.out])) | ((with_reducible apply list_load_sty); exact rfl; exact rfl; exact rfl; (with_reducible exact H25.out); simp only [World.size_alloc, Act.put, List.setIfInBounds_toArray, List.set_cons_succ, List.set_cons_zero]) | fail)
  clear cH24
  have K1 := Lib.hid (show Calls Try.prog 19 #[.agg #[.slice va4 ms4.length vc4], .agg (sCells f4)] u13 (ChPost (adN ns4 f4) (adC ns4 f4) u13) by rw [HNLns4.out]; exact iaddnode va4 vc4 ns4 f4 u13 N10.out hsz4 hf4)
  refine K1.out.mono ?_
  intro e w14 hch
  obtain ⟨adw14, cpw14, rfl, hn, bc⟩ := ch_open hch
  clear hch K1
  obtain ⟨u14, eu14⟩ : ∃ q, q = w14.alloc (.cells #[.slice adw14 (adN ns4 f4).length cpw14] 26) := ⟨_, rfl⟩
  have bwu : Below w14.heap.size w14 u14 := by rw [eu14]; exact bel_alloc _ _
  have bcu : Below u13.heap.size u13 u14 := bc.trans (bwu.mono bc.size)
  replace H3 := Lib.hid (hp_below H3.out bcu)
  replace H5 := Lib.hid (hp_below H5.out bcu)
  replace H6 := Lib.hid (hp_below H6.out bcu)
  replace H8 := Lib.hid (hp_below H8.out bcu)
  replace H10 := Lib.hid (hp_below H10.out bcu)
  replace H12 := Lib.hid (hp_below H12.out bcu)
  replace H13 := Lib.hid (hp_below H13.out bcu)
  replace H15 := Lib.hid (hp_below H15.out bcu)
  replace H17 := Lib.hid (hp_below H17.out bcu)
  replace H20 := Lib.hid (hp_below H20.out bcu)
  replace H22 := Lib.hid (hp_below H22.out bcu)
  replace H24 := Lib.hid (hp_below H24.out bcu)
  replace H25 := Lib.hid (hp_below H25.out bcu)
  replace N1 := Lib.hid (N1.out.below bcu)
  replace N2 := Lib.hid (N2.out.below bcu)
  replace N3 := Lib.hid (N3.out.below bcu)
  replace N4 := Lib.hid (N4.out.below bcu)
  replace R4 := Lib.hid (R4.out.below bcu)
  replace N5 := Lib.hid (N5.out.below bcu)
  replace N6 := Lib.hid (N6.out.below bcu)
  replace N7 := Lib.hid (N7.out.below bcu)
  replace N8 := Lib.hid (N8.out.below bcu)
  replace N9 := Lib.hid (N9.out.below bcu)
  replace N10 := Lib.hid (N10.out.below bcu)
  replace BB := Lib.hid (BB.out.trans (bcu.mono BB.out.size))
  have H26 := Lib.hid (show u14.heap[w14.heap.size]? = some (.cells #[.slice adw14 (adN ns4 f4).length cpw14] 26) by rw [eu14]; exact hp_new w14 _)
  have N11 := Lib.hid (hn.below bwu)
  clear hn
  have Eu14 := Lib.hid eu14
  clear eu14 bwu bcu bc
  have cH24 := c_of H24.out
  (try dsimp only)
  go_wp2_with (first | (rw [← Eu14.out]) | ((with_reducible apply list_load_sty); exact rfl; exact rfl; exact rfl; (with_reducible exact H25.out); simp only [World.size_alloc, Act.put, List.setIfInBounds_toArray, List.set_cons_succ, List.set_cons_zero]) | fail)
  clear cH24
  have K1 := Lib.hid (show Calls Try.prog 33 #[.agg #[.slice va4 ms4.length vc4], .agg (sCells f4)] u14 (ChPost (adN ns4 f4) (adC ns4 f4) u14) by rw [HNLns4.out]; exact saddnode va4 vc4 ns4 f4 u14 N10.out hsz4 hf4)
  refine K1.out.mono ?_
  intro e w15 hch
  obtain ⟨adw15, cpw15, rfl, hn, bc⟩ := ch_open hch
  clear hch K1
  obtain ⟨u15, eu15⟩ : ∃ q, q = w15.alloc (.cells #[.slice adw15 (adN ns4 f4).length cpw15] 26) := ⟨_, rfl⟩
  have bwu : Below w15.heap.size w15 u15 := by rw [eu15]; exact bel_alloc _ _
  have bcu : Below u14.heap.size u14 u15 := bc.trans (bwu.mono bc.size)
  replace H3 := Lib.hid (hp_below H3.out bcu)
  replace H5 := Lib.hid (hp_below H5.out bcu)
  replace H6 := Lib.hid (hp_below H6.out bcu)
  replace H8 := Lib.hid (hp_below H8.out bcu)
  replace H10 := Lib.hid (hp_below H10.out bcu)
  replace H12 := Lib.hid (hp_below H12.out bcu)
  replace H13 := Lib.hid (hp_below H13.out bcu)
  replace H15 := Lib.hid (hp_below H15.out bcu)
  replace H17 := Lib.hid (hp_below H17.out bcu)
  replace H20 := Lib.hid (hp_below H20.out bcu)
  replace H22 := Lib.hid (hp_below H22.out bcu)
  replace H24 := Lib.hid (hp_below H24.out bcu)
  replace H25 := Lib.hid (hp_below H25.out bcu)
  replace H26 := Lib.hid (hp_below H26.out bcu)
  replace N1 := Lib.hid (N1.out.below bcu)
  replace N2 := Lib.hid (N2.out.below bcu)
  replace N3 := Lib.hid (N3.out.below bcu)
  replace N4 := Lib.hid (N4.out.below bcu)
  replace R4 := Lib.hid (R4.out.below bcu)
  replace N5 := Lib.hid (N5.out.below bcu)
  replace N6 := Lib.hid (N6.out.below bcu)
  replace N7 := Lib.hid (N7.out.below bcu)
  replace N8 := Lib.hid (N8.out.below bcu)
  replace N9 := Lib.hid (N9.out.below bcu)
  replace N10 := Lib.hid (N10.out.below bcu)
  replace N11 := Lib.hid (N11.out.below bcu)
  replace BB := Lib.hid (BB.out.trans (bcu.mono BB.out.size))
  have H28 := Lib.hid (show u15.heap[w15.heap.size]? = some (.cells #[.slice adw15 (adN ns4 f4).length cpw15] 26) by rw [eu15]; exact hp_new w15 _)
  have N12 := Lib.hid (hn.below bwu)
  clear hn
  have Eu15 := Lib.hid eu15
  clear eu15 bwu bcu bc
  have hszD := qadN_sz ns4 f4 hsz4
  have HSSD := Lib.hid (fun h => ss_done (ns := ns) (z := z) (f := f) h)
  have HSSS := Lib.hid (fun h => ss_same (ns := ns) (z := z) (f := f) h)
  have HSTS := Lib.hid (fun h => st_same (ns := ns2) (z := z2) (rl := tn) (rs := rs) h)
  have HADL := Lib.hid (fun h => ad_len (ns := ns4) (f := f4) h)
  have KH := Lib.hid (fun w' (h : Below u15.heap.size u15 w') => sametr_any adw14 adw15 cpw14 cpw15 (adN ns4 f4) w' (N11.out.below h) (N12.out.below h) (Nat.le_trans hszD (by decide)))
  have KX := Lib.hid (fun (hq : ssN ns z f = ns) w' (h : Below u15.heap.size u15 w') => (show Calls Try.prog 16 #[.agg #[.slice adw2 (ssN ns z f).length cpw2], .agg #[.slice va ms.length vc]] w' fun e w'' => e = .returned (.bool true) ∧ Below w'.heap.size w' w'' by rw [HNLns.out, hq]; exact sametr_any adw2 va cpw2 vc ns w' (by have := N2.out.below h; rwa [hq] at this) (N1.out.below h) (Nat.le_trans hsz (by decide))))
  have KY := Lib.hid (fun (hq : stN ns2 z2 tn rs = ns2) w' (h : Below u15.heap.size u15 w') => (show Calls Try.prog 16 #[.agg #[.slice adw5 (stN ns2 z2 tn rs).length cpw5], .agg #[.slice va2 ms2.length vc2]] w' fun e w'' => e = .returned (.bool true) ∧ Below w'.heap.size w' w'' by rw [HNLns2.out, hq]; exact sametr_any adw5 va2 cpw5 vc2 ns2 w' (by have := N5.out.below h; rwa [hq] at this) (N4.out.below h) (Nat.le_trans hsz2 (by decide))))
  have KT := Lib.hid (fun (hq : treeB (ssN ns z f) = true) w' (h : Below u15.heap.size u15 w') => (show Calls Try.prog 18 #[.agg #[.slice adw2 (ssN ns z f).length cpw2]] w' fun e w'' => e = .returned (.bool true) ∧ Below w'.heap.size w' w'' by have := streeok adw2 cpw2 (ssN ns z f) w' (N2.out.below h) hszA; rwa [hq] at this))
  have KO := Lib.hid (fun w' => (show Calls Try.prog 17 #[.agg #[.slice none 0 0]] w' fun e w'' => e = .returned (.bool true) ∧ Below w'.heap.size w' w'' by have := itreeok none 0 [] w' (nds_nil w' none) (by decide); rwa [tree_nil] at this))
  (try dsimp only)
  go_wp2_with (first | (rw [← Eu15.out]) | fail)
  have hq26 := c_of H26.out
  have hq28 := c_of H28.out
  have hq6 := c_of H6.out
  have hq3 := c_of H3.out
  have hq13 := c_of H13.out
  have hq10 := c_of H10.out
  have HLEN2 := Lib.hid (rfl : (ssN ns z f).length = (ssN ns z f).length)
  obtain ⟨A, eA⟩ : ∃ q, q = ssC ns z f := ⟨_, rfl⟩
  obtain ⟨C, eC⟩ : ∃ q, q = stC ns2 z2 tn rs := ⟨_, rfl⟩
  obtain ⟨K, eK⟩ : ∃ q, q = adC ns4 f4 := ⟨_, rfl⟩
  rw [← eA, ← eC, ← eK]
  rw [← eA] at HSSD HSSS
  rw [← eC] at HSTS
  rw [← eK] at HADL
  clear eA eC eK
  by_cases hA : A = 0
  · subst hA
    by_cases hC : C = 0
    · subst hC
      by_cases hK : K = 0
      · subst hK
        as_aux_lemma =>
          have hdn := HSSD.out rfl
          have htb := hdn.1
          have hzin := nIn_iff.1 hdn.2.1
          have hlen2 := hdn.2.2.2.1
          obtain ⟨k, hk⟩ : ∃ k : Nat, z = (k : Int) + 1 := ⟨(z - 1).toNat, by omega⟩
          have hklt : k < (ssN ns z f).length := by omega
          have hnd : (ssN ns z f)[k].sty = f := by
            have h1 := hdn.2.2.2.2
            rw [hk] at h1
            have h2 := ndAt_nat2 (ns := ssN ns ((k : Int) + 1) f) (i := k) (by rw [← hk]; exact hklt)
            rw [h2] at h1
            simpa only [hk] using h1
          obtain ⟨b, off, rfl, hbl, ⟨kv, tv, hrg, _, _⟩⟩ := N2.out.look hklt
          rw [hnd] at hrg
          have hrs2 := range_styN hrg
          have hlo : (0 : Int) ≤ (k : Int) := Int.natCast_nonneg _
          have hhi : (k : Int) < ((ssN ns z f).length : Int) := by omega
          have hkb : (k : Int) < 9223372036854775807 := by omega
          have hwz : IntKind.i64.wrap (z - 1) = (k : Int) := by rw [IntWalk.i64_in _ (by omega)]; omega
          have qs := eqq_same f
          have qg := guard_styF .eql
          clear hdn hrg hnd hzin hlen2 hk
          have D6 := fun d os => cell_regrown hq6 d os
          have D26 := fun d os => cell_regrown hq26 d os
          refine wp_region_quiet_below (by kernel_rfl) (by kernel_rfl) ?_
          (try simp only [List.append_eq, List.cons_append, List.nil_append])
          repeat (first
                | (go_big_quiet_want; (with_reducible apply quiet_tr); exact rfl; exact rfl; (with_reducible exact hq26); simp only [World.size_alloc, Act.put, List.setIfInBounds_toArray, List.set_cons_succ, List.set_cons_zero]; go_big_quiet_on)
                | (go_big_quiet_want; (with_reducible apply quiet_tr); exact rfl; exact rfl; (with_reducible exact hq28); simp only [World.size_alloc, Act.put, List.setIfInBounds_toArray, List.set_cons_succ, List.set_cons_zero]; go_big_quiet_on)
                | (go_big_quiet_want; (with_reducible apply quiet_tr); exact rfl; exact rfl; (with_reducible exact hq6); simp only [World.size_alloc, Act.put, List.setIfInBounds_toArray, List.set_cons_succ, List.set_cons_zero]; go_big_quiet_on)
                | (go_big_quiet_want; (with_reducible apply quiet_tr); exact rfl; exact rfl; (with_reducible exact hq3); simp only [World.size_alloc, Act.put, List.setIfInBounds_toArray, List.set_cons_succ, List.set_cons_zero]; go_big_quiet_on)
                | (go_big_quiet_want; (with_reducible apply quiet_tr); exact rfl; exact rfl; (with_reducible exact hq13); simp only [World.size_alloc, Act.put, List.setIfInBounds_toArray, List.set_cons_succ, List.set_cons_zero]; go_big_quiet_on)
                | (go_big_quiet_want; (with_reducible apply quiet_tr); exact rfl; exact rfl; (with_reducible exact hq10); simp only [World.size_alloc, Act.put, List.setIfInBounds_toArray, List.set_cons_succ, List.set_cons_zero]; go_big_quiet_on)
                | (go_big_quiet_want; (with_reducible apply quiet_styAt); exact rfl; exact rfl; (with_reducible exact hrs2); simp only [World.size_alloc, Act.put, List.setIfInBounds_toArray, List.set_cons_succ, List.set_cons_zero]; go_big_quiet_on)
                | (go_big_quiet_want; (with_reducible apply quiet_sty); exact rfl; exact rfl; (with_reducible exact H5.out); simp only [World.size_alloc, Act.put, List.setIfInBounds_toArray, List.set_cons_succ, List.set_cons_zero]; go_big_quiet_on)
                | go_big_quiet_step (first | (go_at_call 16; first | exact Calls.regrown_of (KH.out _ (below_regrown u15 _ _))) | (go_at_call 17; exact Calls.regrown_of (KO.out _)) | (go_at_call 18; exact Calls.regrown_of (KT.out htb _ (below_regrown u15 _ _))) | fail))
          refine wpQuiet_nil ?_
          intro _ hw'
          obtain ⟨⟨dq, osq⟩, hw''⟩ := hw'
          subst hw''
          have B9 := Lib.hid (BB.out.trans ((below_regrown u15 dq osq).mono BB.out.size))
          clear D6 D26 hq26 hq28 hq6 hq3 hq13 hq10
          (try dsimp only)
          go_wp2
          go_ret
          exact ⟨rfl, B9.out⟩
      · skip
        as_aux_lemma =>
          have hdn := HSSD.out rfl
          have htb := hdn.1
          have hzin := nIn_iff.1 hdn.2.1
          have hlen2 := hdn.2.2.2.1
          obtain ⟨k, hk⟩ : ∃ k : Nat, z = (k : Int) + 1 := ⟨(z - 1).toNat, by omega⟩
          have hklt : k < (ssN ns z f).length := by omega
          have hnd : (ssN ns z f)[k].sty = f := by
            have h1 := hdn.2.2.2.2
            rw [hk] at h1
            have h2 := ndAt_nat2 (ns := ssN ns ((k : Int) + 1) f) (i := k) (by rw [← hk]; exact hklt)
            rw [h2] at h1
            simpa only [hk] using h1
          obtain ⟨b, off, rfl, hbl, ⟨kv, tv, hrg, _, _⟩⟩ := N2.out.look hklt
          rw [hnd] at hrg
          have hrs2 := range_styN hrg
          have hlo : (0 : Int) ≤ (k : Int) := Int.natCast_nonneg _
          have hhi : (k : Int) < ((ssN ns z f).length : Int) := by omega
          have hkb : (k : Int) < 9223372036854775807 := by omega
          have hwz : IntKind.i64.wrap (z - 1) = (k : Int) := by rw [IntWalk.i64_in _ (by omega)]; omega
          have qs := eqq_same f
          have qg := guard_styF .eql
          clear hdn hrg hnd hzin hlen2 hk
          have hkl2 : (K == ((adN ns4 f4).length : Int)) = true := beq_iff_eq.2 (HADL.out hK)
          have hkl3 : decide (K = ((adN ns4 f4).length : Int)) = true := decide_eq_true (HADL.out hK)
          have hdK : decide (K = 0) = false := decide_eq_false hK
          have hbK : (K == 0) = false := beq_eq_false_iff_ne.2 hK
          have hnK : (K != 0) = true := bne_iff_ne.2 hK
          have D6 := fun d os => cell_regrown hq6 d os
          have D26 := fun d os => cell_regrown hq26 d os
          refine wp_region_quiet_below (by kernel_rfl) (by kernel_rfl) ?_
          (try simp only [List.append_eq, List.cons_append, List.nil_append])
          repeat (first
                | (go_big_quiet_want; (with_reducible apply quiet_tr); exact rfl; exact rfl; (with_reducible exact hq26); simp only [World.size_alloc, Act.put, List.setIfInBounds_toArray, List.set_cons_succ, List.set_cons_zero]; go_big_quiet_on)
                | (go_big_quiet_want; (with_reducible apply quiet_tr); exact rfl; exact rfl; (with_reducible exact hq28); simp only [World.size_alloc, Act.put, List.setIfInBounds_toArray, List.set_cons_succ, List.set_cons_zero]; go_big_quiet_on)
                | (go_big_quiet_want; (with_reducible apply quiet_tr); exact rfl; exact rfl; (with_reducible exact hq6); simp only [World.size_alloc, Act.put, List.setIfInBounds_toArray, List.set_cons_succ, List.set_cons_zero]; go_big_quiet_on)
                | (go_big_quiet_want; (with_reducible apply quiet_tr); exact rfl; exact rfl; (with_reducible exact hq3); simp only [World.size_alloc, Act.put, List.setIfInBounds_toArray, List.set_cons_succ, List.set_cons_zero]; go_big_quiet_on)
                | (go_big_quiet_want; (with_reducible apply quiet_tr); exact rfl; exact rfl; (with_reducible exact hq13); simp only [World.size_alloc, Act.put, List.setIfInBounds_toArray, List.set_cons_succ, List.set_cons_zero]; go_big_quiet_on)
                | (go_big_quiet_want; (with_reducible apply quiet_tr); exact rfl; exact rfl; (with_reducible exact hq10); simp only [World.size_alloc, Act.put, List.setIfInBounds_toArray, List.set_cons_succ, List.set_cons_zero]; go_big_quiet_on)
                | (go_big_quiet_want; (with_reducible apply quiet_styAt); exact rfl; exact rfl; (with_reducible exact hrs2); simp only [World.size_alloc, Act.put, List.setIfInBounds_toArray, List.set_cons_succ, List.set_cons_zero]; go_big_quiet_on)
                | (go_big_quiet_want; (with_reducible apply quiet_sty); exact rfl; exact rfl; (with_reducible exact H5.out); simp only [World.size_alloc, Act.put, List.setIfInBounds_toArray, List.set_cons_succ, List.set_cons_zero]; go_big_quiet_on)
                | go_big_quiet_step (first | (go_at_call 16; first | exact Calls.regrown_of (KH.out _ (below_regrown u15 _ _))) | (go_at_call 17; exact Calls.regrown_of (KO.out _)) | (go_at_call 18; exact Calls.regrown_of (KT.out htb _ (below_regrown u15 _ _))) | fail))
          refine wpQuiet_nil ?_
          intro _ hw'
          obtain ⟨⟨dq, osq⟩, hw''⟩ := hw'
          subst hw''
          have B9 := Lib.hid (BB.out.trans ((below_regrown u15 dq osq).mono BB.out.size))
          clear D6 D26 hq26 hq28 hq6 hq3 hq13 hq10
          (try dsimp only)
          go_wp2
          go_ret
          exact ⟨rfl, B9.out⟩
    · skip
      by_cases hK : K = 0
      · subst hK
        as_aux_lemma =>
          have hdn := HSSD.out rfl
          have htb := hdn.1
          have hzin := nIn_iff.1 hdn.2.1
          have hlen2 := hdn.2.2.2.1
          obtain ⟨k, hk⟩ : ∃ k : Nat, z = (k : Int) + 1 := ⟨(z - 1).toNat, by omega⟩
          have hklt : k < (ssN ns z f).length := by omega
          have hnd : (ssN ns z f)[k].sty = f := by
            have h1 := hdn.2.2.2.2
            rw [hk] at h1
            have h2 := ndAt_nat2 (ns := ssN ns ((k : Int) + 1) f) (i := k) (by rw [← hk]; exact hklt)
            rw [h2] at h1
            simpa only [hk] using h1
          obtain ⟨b, off, rfl, hbl, ⟨kv, tv, hrg, _, _⟩⟩ := N2.out.look hklt
          rw [hnd] at hrg
          have hrs2 := range_styN hrg
          have hlo : (0 : Int) ≤ (k : Int) := Int.natCast_nonneg _
          have hhi : (k : Int) < ((ssN ns z f).length : Int) := by omega
          have hkb : (k : Int) < 9223372036854775807 := by omega
          have hwz : IntKind.i64.wrap (z - 1) = (k : Int) := by rw [IntWalk.i64_in _ (by omega)]; omega
          have qs := eqq_same f
          have qg := guard_styF .eql
          clear hdn hrg hnd hzin hlen2 hk
          have HSTQ := Lib.hid (HSTS.out hC)
          have hdC : decide (C = 0) = false := decide_eq_false hC
          have hbC : (C == 0) = false := beq_eq_false_iff_ne.2 hC
          have hnC : (C != 0) = true := bne_iff_ne.2 hC
          have D6 := fun d os => cell_regrown hq6 d os
          have D26 := fun d os => cell_regrown hq26 d os
          refine wp_region_quiet_below (by kernel_rfl) (by kernel_rfl) ?_
          (try simp only [List.append_eq, List.cons_append, List.nil_append])
          repeat (first
                | (go_big_quiet_want; (with_reducible apply quiet_tr); exact rfl; exact rfl; (with_reducible exact hq26); simp only [World.size_alloc, Act.put, List.setIfInBounds_toArray, List.set_cons_succ, List.set_cons_zero]; go_big_quiet_on)
                | (go_big_quiet_want; (with_reducible apply quiet_tr); exact rfl; exact rfl; (with_reducible exact hq28); simp only [World.size_alloc, Act.put, List.setIfInBounds_toArray, List.set_cons_succ, List.set_cons_zero]; go_big_quiet_on)
                | (go_big_quiet_want; (with_reducible apply quiet_tr); exact rfl; exact rfl; (with_reducible exact hq6); simp only [World.size_alloc, Act.put, List.setIfInBounds_toArray, List.set_cons_succ, List.set_cons_zero]; go_big_quiet_on)
                | (go_big_quiet_want; (with_reducible apply quiet_tr); exact rfl; exact rfl; (with_reducible exact hq3); simp only [World.size_alloc, Act.put, List.setIfInBounds_toArray, List.set_cons_succ, List.set_cons_zero]; go_big_quiet_on)
                | (go_big_quiet_want; (with_reducible apply quiet_tr); exact rfl; exact rfl; (with_reducible exact hq13); simp only [World.size_alloc, Act.put, List.setIfInBounds_toArray, List.set_cons_succ, List.set_cons_zero]; go_big_quiet_on)
                | (go_big_quiet_want; (with_reducible apply quiet_tr); exact rfl; exact rfl; (with_reducible exact hq10); simp only [World.size_alloc, Act.put, List.setIfInBounds_toArray, List.set_cons_succ, List.set_cons_zero]; go_big_quiet_on)
                | (go_big_quiet_want; (with_reducible apply quiet_styAt); exact rfl; exact rfl; (with_reducible exact hrs2); simp only [World.size_alloc, Act.put, List.setIfInBounds_toArray, List.set_cons_succ, List.set_cons_zero]; go_big_quiet_on)
                | (go_big_quiet_want; (with_reducible apply quiet_sty); exact rfl; exact rfl; (with_reducible exact H5.out); simp only [World.size_alloc, Act.put, List.setIfInBounds_toArray, List.set_cons_succ, List.set_cons_zero]; go_big_quiet_on)
                | go_big_quiet_step (first | (go_at_call 16; first | exact Calls.regrown_of (KH.out _ (below_regrown u15 _ _)) | exact Calls.regrown_of (KY.out HSTQ.out _ (below_regrown u15 _ _))) | (go_at_call 17; exact Calls.regrown_of (KO.out _)) | (go_at_call 18; exact Calls.regrown_of (KT.out htb _ (below_regrown u15 _ _))) | fail))
          refine wpQuiet_nil ?_
          intro _ hw'
          obtain ⟨⟨dq, osq⟩, hw''⟩ := hw'
          subst hw''
          have B9 := Lib.hid (BB.out.trans ((below_regrown u15 dq osq).mono BB.out.size))
          clear D6 D26 hq26 hq28 hq6 hq3 hq13 hq10
          (try dsimp only)
          go_wp2
          go_ret
          exact ⟨rfl, B9.out⟩
      · skip
        as_aux_lemma =>
          have hdn := HSSD.out rfl
          have htb := hdn.1
          have hzin := nIn_iff.1 hdn.2.1
          have hlen2 := hdn.2.2.2.1
          obtain ⟨k, hk⟩ : ∃ k : Nat, z = (k : Int) + 1 := ⟨(z - 1).toNat, by omega⟩
          have hklt : k < (ssN ns z f).length := by omega
          have hnd : (ssN ns z f)[k].sty = f := by
            have h1 := hdn.2.2.2.2
            rw [hk] at h1
            have h2 := ndAt_nat2 (ns := ssN ns ((k : Int) + 1) f) (i := k) (by rw [← hk]; exact hklt)
            rw [h2] at h1
            simpa only [hk] using h1
          obtain ⟨b, off, rfl, hbl, ⟨kv, tv, hrg, _, _⟩⟩ := N2.out.look hklt
          rw [hnd] at hrg
          have hrs2 := range_styN hrg
          have hlo : (0 : Int) ≤ (k : Int) := Int.natCast_nonneg _
          have hhi : (k : Int) < ((ssN ns z f).length : Int) := by omega
          have hkb : (k : Int) < 9223372036854775807 := by omega
          have hwz : IntKind.i64.wrap (z - 1) = (k : Int) := by rw [IntWalk.i64_in _ (by omega)]; omega
          have qs := eqq_same f
          have qg := guard_styF .eql
          clear hdn hrg hnd hzin hlen2 hk
          have HSTQ := Lib.hid (HSTS.out hC)
          have hdC : decide (C = 0) = false := decide_eq_false hC
          have hbC : (C == 0) = false := beq_eq_false_iff_ne.2 hC
          have hnC : (C != 0) = true := bne_iff_ne.2 hC
          have hkl2 : (K == ((adN ns4 f4).length : Int)) = true := beq_iff_eq.2 (HADL.out hK)
          have hkl3 : decide (K = ((adN ns4 f4).length : Int)) = true := decide_eq_true (HADL.out hK)
          have hdK : decide (K = 0) = false := decide_eq_false hK
          have hbK : (K == 0) = false := beq_eq_false_iff_ne.2 hK
          have hnK : (K != 0) = true := bne_iff_ne.2 hK
          have D6 := fun d os => cell_regrown hq6 d os
          have D26 := fun d os => cell_regrown hq26 d os
          refine wp_region_quiet_below (by kernel_rfl) (by kernel_rfl) ?_
          (try simp only [List.append_eq, List.cons_append, List.nil_append])
          repeat (first
                | (go_big_quiet_want; (with_reducible apply quiet_tr); exact rfl; exact rfl; (with_reducible exact hq26); simp only [World.size_alloc, Act.put, List.setIfInBounds_toArray, List.set_cons_succ, List.set_cons_zero]; go_big_quiet_on)
                | (go_big_quiet_want; (with_reducible apply quiet_tr); exact rfl; exact rfl; (with_reducible exact hq28); simp only [World.size_alloc, Act.put, List.setIfInBounds_toArray, List.set_cons_succ, List.set_cons_zero]; go_big_quiet_on)
                | (go_big_quiet_want; (with_reducible apply quiet_tr); exact rfl; exact rfl; (with_reducible exact hq6); simp only [World.size_alloc, Act.put, List.setIfInBounds_toArray, List.set_cons_succ, List.set_cons_zero]; go_big_quiet_on)
                | (go_big_quiet_want; (with_reducible apply quiet_tr); exact rfl; exact rfl; (with_reducible exact hq3); simp only [World.size_alloc, Act.put, List.setIfInBounds_toArray, List.set_cons_succ, List.set_cons_zero]; go_big_quiet_on)
                | (go_big_quiet_want; (with_reducible apply quiet_tr); exact rfl; exact rfl; (with_reducible exact hq13); simp only [World.size_alloc, Act.put, List.setIfInBounds_toArray, List.set_cons_succ, List.set_cons_zero]; go_big_quiet_on)
                | (go_big_quiet_want; (with_reducible apply quiet_tr); exact rfl; exact rfl; (with_reducible exact hq10); simp only [World.size_alloc, Act.put, List.setIfInBounds_toArray, List.set_cons_succ, List.set_cons_zero]; go_big_quiet_on)
                | (go_big_quiet_want; (with_reducible apply quiet_styAt); exact rfl; exact rfl; (with_reducible exact hrs2); simp only [World.size_alloc, Act.put, List.setIfInBounds_toArray, List.set_cons_succ, List.set_cons_zero]; go_big_quiet_on)
                | (go_big_quiet_want; (with_reducible apply quiet_sty); exact rfl; exact rfl; (with_reducible exact H5.out); simp only [World.size_alloc, Act.put, List.setIfInBounds_toArray, List.set_cons_succ, List.set_cons_zero]; go_big_quiet_on)
                | go_big_quiet_step (first | (go_at_call 16; first | exact Calls.regrown_of (KH.out _ (below_regrown u15 _ _)) | exact Calls.regrown_of (KY.out HSTQ.out _ (below_regrown u15 _ _))) | (go_at_call 17; exact Calls.regrown_of (KO.out _)) | (go_at_call 18; exact Calls.regrown_of (KT.out htb _ (below_regrown u15 _ _))) | fail))
          refine wpQuiet_nil ?_
          intro _ hw'
          obtain ⟨⟨dq, osq⟩, hw''⟩ := hw'
          subst hw''
          have B9 := Lib.hid (BB.out.trans ((below_regrown u15 dq osq).mono BB.out.size))
          clear D6 D26 hq26 hq28 hq6 hq3 hq13 hq10
          (try dsimp only)
          go_wp2
          go_ret
          exact ⟨rfl, B9.out⟩
  · skip
    by_cases hC : C = 0
    · subst hC
      by_cases hK : K = 0
      · subst hK
        as_aux_lemma =>
          have HSSQ := Lib.hid (HSSS.out hA)
          have hdA : decide (A = 0) = false := decide_eq_false hA
          have hbA : (A == 0) = false := beq_eq_false_iff_ne.2 hA
          have hnA : (A != 0) = true := bne_iff_ne.2 hA
          have D6 := fun d os => cell_regrown hq6 d os
          have D26 := fun d os => cell_regrown hq26 d os
          refine wp_region_quiet_below (by kernel_rfl) (by kernel_rfl) ?_
          (try simp only [List.append_eq, List.cons_append, List.nil_append])
          repeat (first
                | (go_big_quiet_want; (with_reducible apply quiet_tr); exact rfl; exact rfl; (with_reducible exact hq26); simp only [World.size_alloc, Act.put, List.setIfInBounds_toArray, List.set_cons_succ, List.set_cons_zero]; go_big_quiet_on)
                | (go_big_quiet_want; (with_reducible apply quiet_tr); exact rfl; exact rfl; (with_reducible exact hq28); simp only [World.size_alloc, Act.put, List.setIfInBounds_toArray, List.set_cons_succ, List.set_cons_zero]; go_big_quiet_on)
                | (go_big_quiet_want; (with_reducible apply quiet_tr); exact rfl; exact rfl; (with_reducible exact hq6); simp only [World.size_alloc, Act.put, List.setIfInBounds_toArray, List.set_cons_succ, List.set_cons_zero]; go_big_quiet_on)
                | (go_big_quiet_want; (with_reducible apply quiet_tr); exact rfl; exact rfl; (with_reducible exact hq3); simp only [World.size_alloc, Act.put, List.setIfInBounds_toArray, List.set_cons_succ, List.set_cons_zero]; go_big_quiet_on)
                | (go_big_quiet_want; (with_reducible apply quiet_tr); exact rfl; exact rfl; (with_reducible exact hq13); simp only [World.size_alloc, Act.put, List.setIfInBounds_toArray, List.set_cons_succ, List.set_cons_zero]; go_big_quiet_on)
                | (go_big_quiet_want; (with_reducible apply quiet_tr); exact rfl; exact rfl; (with_reducible exact hq10); simp only [World.size_alloc, Act.put, List.setIfInBounds_toArray, List.set_cons_succ, List.set_cons_zero]; go_big_quiet_on)
                | go_big_quiet_step (first | (go_at_call 16; first | exact Calls.regrown_of (KH.out _ (below_regrown u15 _ _)) | exact Calls.regrown_of (KX.out HSSQ.out _ (below_regrown u15 _ _))) | (go_at_call 17; exact Calls.regrown_of (KO.out _)) | fail))
          refine wpQuiet_nil ?_
          intro _ hw'
          obtain ⟨⟨dq, osq⟩, hw''⟩ := hw'
          subst hw''
          have B9 := Lib.hid (BB.out.trans ((below_regrown u15 dq osq).mono BB.out.size))
          clear D6 D26 hq26 hq28 hq6 hq3 hq13 hq10
          (try dsimp only)
          go_wp2
          go_ret
          exact ⟨rfl, B9.out⟩
      · skip
        as_aux_lemma =>
          have HSSQ := Lib.hid (HSSS.out hA)
          have hdA : decide (A = 0) = false := decide_eq_false hA
          have hbA : (A == 0) = false := beq_eq_false_iff_ne.2 hA
          have hnA : (A != 0) = true := bne_iff_ne.2 hA
          have hkl2 : (K == ((adN ns4 f4).length : Int)) = true := beq_iff_eq.2 (HADL.out hK)
          have hkl3 : decide (K = ((adN ns4 f4).length : Int)) = true := decide_eq_true (HADL.out hK)
          have hdK : decide (K = 0) = false := decide_eq_false hK
          have hbK : (K == 0) = false := beq_eq_false_iff_ne.2 hK
          have hnK : (K != 0) = true := bne_iff_ne.2 hK
          have D6 := fun d os => cell_regrown hq6 d os
          have D26 := fun d os => cell_regrown hq26 d os
          refine wp_region_quiet_below (by kernel_rfl) (by kernel_rfl) ?_
          (try simp only [List.append_eq, List.cons_append, List.nil_append])
          repeat (first
                | (go_big_quiet_want; (with_reducible apply quiet_tr); exact rfl; exact rfl; (with_reducible exact hq26); simp only [World.size_alloc, Act.put, List.setIfInBounds_toArray, List.set_cons_succ, List.set_cons_zero]; go_big_quiet_on)
                | (go_big_quiet_want; (with_reducible apply quiet_tr); exact rfl; exact rfl; (with_reducible exact hq28); simp only [World.size_alloc, Act.put, List.setIfInBounds_toArray, List.set_cons_succ, List.set_cons_zero]; go_big_quiet_on)
                | (go_big_quiet_want; (with_reducible apply quiet_tr); exact rfl; exact rfl; (with_reducible exact hq6); simp only [World.size_alloc, Act.put, List.setIfInBounds_toArray, List.set_cons_succ, List.set_cons_zero]; go_big_quiet_on)
                | (go_big_quiet_want; (with_reducible apply quiet_tr); exact rfl; exact rfl; (with_reducible exact hq3); simp only [World.size_alloc, Act.put, List.setIfInBounds_toArray, List.set_cons_succ, List.set_cons_zero]; go_big_quiet_on)
                | (go_big_quiet_want; (with_reducible apply quiet_tr); exact rfl; exact rfl; (with_reducible exact hq13); simp only [World.size_alloc, Act.put, List.setIfInBounds_toArray, List.set_cons_succ, List.set_cons_zero]; go_big_quiet_on)
                | (go_big_quiet_want; (with_reducible apply quiet_tr); exact rfl; exact rfl; (with_reducible exact hq10); simp only [World.size_alloc, Act.put, List.setIfInBounds_toArray, List.set_cons_succ, List.set_cons_zero]; go_big_quiet_on)
                | go_big_quiet_step (first | (go_at_call 16; first | exact Calls.regrown_of (KH.out _ (below_regrown u15 _ _)) | exact Calls.regrown_of (KX.out HSSQ.out _ (below_regrown u15 _ _))) | (go_at_call 17; exact Calls.regrown_of (KO.out _)) | fail))
          refine wpQuiet_nil ?_
          intro _ hw'
          obtain ⟨⟨dq, osq⟩, hw''⟩ := hw'
          subst hw''
          have B9 := Lib.hid (BB.out.trans ((below_regrown u15 dq osq).mono BB.out.size))
          clear D6 D26 hq26 hq28 hq6 hq3 hq13 hq10
          (try dsimp only)
          go_wp2
          go_ret
          exact ⟨rfl, B9.out⟩
    · skip
      by_cases hK : K = 0
      · subst hK
        as_aux_lemma =>
          have HSSQ := Lib.hid (HSSS.out hA)
          have hdA : decide (A = 0) = false := decide_eq_false hA
          have hbA : (A == 0) = false := beq_eq_false_iff_ne.2 hA
          have hnA : (A != 0) = true := bne_iff_ne.2 hA
          have HSTQ := Lib.hid (HSTS.out hC)
          have hdC : decide (C = 0) = false := decide_eq_false hC
          have hbC : (C == 0) = false := beq_eq_false_iff_ne.2 hC
          have hnC : (C != 0) = true := bne_iff_ne.2 hC
          have D6 := fun d os => cell_regrown hq6 d os
          have D26 := fun d os => cell_regrown hq26 d os
          refine wp_region_quiet_below (by kernel_rfl) (by kernel_rfl) ?_
          (try simp only [List.append_eq, List.cons_append, List.nil_append])
          repeat (first
                | (go_big_quiet_want; (with_reducible apply quiet_tr); exact rfl; exact rfl; (with_reducible exact hq26); simp only [World.size_alloc, Act.put, List.setIfInBounds_toArray, List.set_cons_succ, List.set_cons_zero]; go_big_quiet_on)
                | (go_big_quiet_want; (with_reducible apply quiet_tr); exact rfl; exact rfl; (with_reducible exact hq28); simp only [World.size_alloc, Act.put, List.setIfInBounds_toArray, List.set_cons_succ, List.set_cons_zero]; go_big_quiet_on)
                | (go_big_quiet_want; (with_reducible apply quiet_tr); exact rfl; exact rfl; (with_reducible exact hq6); simp only [World.size_alloc, Act.put, List.setIfInBounds_toArray, List.set_cons_succ, List.set_cons_zero]; go_big_quiet_on)
                | (go_big_quiet_want; (with_reducible apply quiet_tr); exact rfl; exact rfl; (with_reducible exact hq3); simp only [World.size_alloc, Act.put, List.setIfInBounds_toArray, List.set_cons_succ, List.set_cons_zero]; go_big_quiet_on)
                | (go_big_quiet_want; (with_reducible apply quiet_tr); exact rfl; exact rfl; (with_reducible exact hq13); simp only [World.size_alloc, Act.put, List.setIfInBounds_toArray, List.set_cons_succ, List.set_cons_zero]; go_big_quiet_on)
                | (go_big_quiet_want; (with_reducible apply quiet_tr); exact rfl; exact rfl; (with_reducible exact hq10); simp only [World.size_alloc, Act.put, List.setIfInBounds_toArray, List.set_cons_succ, List.set_cons_zero]; go_big_quiet_on)
                | go_big_quiet_step (first | (go_at_call 16; first | exact Calls.regrown_of (KH.out _ (below_regrown u15 _ _)) | exact Calls.regrown_of (KX.out HSSQ.out _ (below_regrown u15 _ _)) | exact Calls.regrown_of (KY.out HSTQ.out _ (below_regrown u15 _ _))) | (go_at_call 17; exact Calls.regrown_of (KO.out _)) | fail))
          refine wpQuiet_nil ?_
          intro _ hw'
          obtain ⟨⟨dq, osq⟩, hw''⟩ := hw'
          subst hw''
          have B9 := Lib.hid (BB.out.trans ((below_regrown u15 dq osq).mono BB.out.size))
          clear D6 D26 hq26 hq28 hq6 hq3 hq13 hq10
          (try dsimp only)
          go_wp2
          go_ret
          exact ⟨rfl, B9.out⟩
      · skip
        as_aux_lemma =>
          have HSSQ := Lib.hid (HSSS.out hA)
          have hdA : decide (A = 0) = false := decide_eq_false hA
          have hbA : (A == 0) = false := beq_eq_false_iff_ne.2 hA
          have hnA : (A != 0) = true := bne_iff_ne.2 hA
          have HSTQ := Lib.hid (HSTS.out hC)
          have hdC : decide (C = 0) = false := decide_eq_false hC
          have hbC : (C == 0) = false := beq_eq_false_iff_ne.2 hC
          have hnC : (C != 0) = true := bne_iff_ne.2 hC
          have hkl2 : (K == ((adN ns4 f4).length : Int)) = true := beq_iff_eq.2 (HADL.out hK)
          have hkl3 : decide (K = ((adN ns4 f4).length : Int)) = true := decide_eq_true (HADL.out hK)
          have hdK : decide (K = 0) = false := decide_eq_false hK
          have hbK : (K == 0) = false := beq_eq_false_iff_ne.2 hK
          have hnK : (K != 0) = true := bne_iff_ne.2 hK
          have D6 := fun d os => cell_regrown hq6 d os
          have D26 := fun d os => cell_regrown hq26 d os
          refine wp_region_quiet_below (by kernel_rfl) (by kernel_rfl) ?_
          (try simp only [List.append_eq, List.cons_append, List.nil_append])
          repeat (first
                | (go_big_quiet_want; (with_reducible apply quiet_tr); exact rfl; exact rfl; (with_reducible exact hq26); simp only [World.size_alloc, Act.put, List.setIfInBounds_toArray, List.set_cons_succ, List.set_cons_zero]; go_big_quiet_on)
                | (go_big_quiet_want; (with_reducible apply quiet_tr); exact rfl; exact rfl; (with_reducible exact hq28); simp only [World.size_alloc, Act.put, List.setIfInBounds_toArray, List.set_cons_succ, List.set_cons_zero]; go_big_quiet_on)
                | (go_big_quiet_want; (with_reducible apply quiet_tr); exact rfl; exact rfl; (with_reducible exact hq6); simp only [World.size_alloc, Act.put, List.setIfInBounds_toArray, List.set_cons_succ, List.set_cons_zero]; go_big_quiet_on)
                | (go_big_quiet_want; (with_reducible apply quiet_tr); exact rfl; exact rfl; (with_reducible exact hq3); simp only [World.size_alloc, Act.put, List.setIfInBounds_toArray, List.set_cons_succ, List.set_cons_zero]; go_big_quiet_on)
                | (go_big_quiet_want; (with_reducible apply quiet_tr); exact rfl; exact rfl; (with_reducible exact hq13); simp only [World.size_alloc, Act.put, List.setIfInBounds_toArray, List.set_cons_succ, List.set_cons_zero]; go_big_quiet_on)
                | (go_big_quiet_want; (with_reducible apply quiet_tr); exact rfl; exact rfl; (with_reducible exact hq10); simp only [World.size_alloc, Act.put, List.setIfInBounds_toArray, List.set_cons_succ, List.set_cons_zero]; go_big_quiet_on)
                | go_big_quiet_step (first | (go_at_call 16; first | exact Calls.regrown_of (KH.out _ (below_regrown u15 _ _)) | exact Calls.regrown_of (KX.out HSSQ.out _ (below_regrown u15 _ _)) | exact Calls.regrown_of (KY.out HSTQ.out _ (below_regrown u15 _ _))) | (go_at_call 17; exact Calls.regrown_of (KO.out _)) | fail))
          refine wpQuiet_nil ?_
          intro _ hw'
          obtain ⟨⟨dq, osq⟩, hw''⟩ := hw'
          subst hw''
          have B9 := Lib.hid (BB.out.trans ((below_regrown u15 dq osq).mono BB.out.size))
          clear D6 D26 hq26 hq28 hq6 hq3 hq13 hq10
          (try dsimp only)
          go_wp2
          go_ret
          exact ⟨rfl, B9.out⟩

set_option maxRecDepth 100000 in
theorem walk_big (a : Option Addr) (len cap : Nat) (w : World) (hl : 1048576 < len) (hm : len ≤ 9223372036854775807) :
    Calls Try.prog 4 #[.slice a len cap] w fun e w' => e = .returned (.bool true) ∧ Below w.heap.size w w' := by
  go_enter Try.func4, Try.ntmps4
  go_wp2
  go_ret
  exact ⟨rfl, Below.refl _ _⟩

theorem laidOut : laidOutB Try.prog = true := by kernel_rfl

theorem contract (H : Type) (enc : TypeId × Value → H) (W : World) (base : Nat) (args : Array Value) (ds gs : List (DataW H)) (before : List MemPlace)
    (hval : ∀ (j : Nat) t v, Try.f4.params[j]? = some t → args[j]? = some v → Value.okWide Try.prog W .any base t v)
    (hW : DataW.Whole enc Try.prog Try.f4.params.toList Rows.fnChangedSpec.vars false W args.toList ds gs before) :
    Calls Try.prog 4 args W fun e W' => ∃ v, e = .returned v ∧ Rows.fnChangedSpec.post enc Try.prog Try.f4 false true false false W args v W' := by
  have hW' := hW
  obtain ⟨p, q, hA0, hV, rfl, hfz, hnd⟩ := hW
  have hA : DataW.TrodAll enc Try.prog W 0 (fun _ => true) true Try.f4.params.toList args.toList ds p := hA0
  rw [Try.params4] at hA hval
  obtain ⟨v0, vs0, d0, ds0, p0, q0, hargs, rfl, rfl, h0, r0⟩ := trodAll_cons hA
  obtain ⟨rfl, rfl, rfl⟩ := trodAll_nil r0
  obtain rfl : args = #[v0] := by cases args; simp_all
  obtain ⟨rfl, rfl⟩ := trodVars_none hV
  obtain ⟨a, len, cap, rfl⟩ := okWide_slice Try.underlying22 (hval 0 22 v0 rfl rfl)
  have lt0 : ∀ x ∈ p0, x.block < W.heap.size := by obtain ⟨m, hm⟩ := h0; exact DataW.trod_lt m _ _ _ hm
  obtain ⟨hc, hm⟩ := code_of h0
  have all : Calls Try.prog 4 #[.slice a len cap] W fun e w' => e = .returned (.bool true) ∧ Below W.heap.size W w' := by
    by_cases hl : len ≤ 1048576
    · exact walk a len cap W hl hc
    · exact walk_big a len cap W (by omega) hm
  refine all.mono fun e W' ⟨he, bel⟩ => ?_
  subst he
  exact ⟨_, rfl, law_post (pa := _) (pv := []) hW' (trodAll_cons_mk (shut_bool Try.underlying4 _) trodAll_mk0) (trodAll_cons_mk (Below.trod laidOut (by kernel_rfl) (of_decide_eq_true (by kernel_rfl)) h0 bel lt0) trodAll_mk0) rfl rfl bel⟩


set_option maxRecDepth 100000 in
theorem lifted (os : Os) (started : os.Started) (H : Type) (enc : TypeId × Value → H) :
    ReturnsInHanded {} Try.checked os 4 .any (Rows.fnChangedSpec.pre6 enc Try.prog Try.f4 Rows.fnChangedRow.domain false) (Rows.fnChangedSpec.post enc Try.prog Try.f4 false true false false) := by
  refine returnsInHanded_of_change (C := Try.checked) own started (by kernel_rfl) Try.func4
    (ChangeSpec.witness6 (enc := enc) (C := Try.checked) false ⟨#[], #[.slice none 0 0], []⟩ 8 (by kernel_rfl) (by kernel_rfl) (by kernel_rfl) (by kernel_rfl)) ?_
  intro W base args ds gs before hval hW _ _
  exact contract H enc W base args ds gs before hval hW

/-- The given statement. -/
theorem proved : Rows.FnChangedSaid :=
  OpenClaim.holds_of_wide 4 Try.f4 rfl rfl rfl rfl rfl rfl rfl ⟨rfl, rfl, rfl, rfl, rfl⟩ rfl rfl rfl rfl rfl (by kernel_rfl) Try.func4 (by kernel_rfl)
    (of_decide_eq_true (by kernel_rfl)) (by unfold Func.isWrapper; first | (rw [if_pos (by decide +kernel)]; kernel_rfl) | (rw [if_neg (by decide +kernel)]; exact ⟨rfl, rfl⟩))
    (fun os started H enc _ => lifted os started H enc)
#print axioms proved
end Go.Proofs.Ytckpjldenkjddaa.fnChanged
end

import Derived.Lib.QuietBelow
import Derived.Test.YtckpjldenkjddaaZtAA
import Derived.Test.YtckpjldenkjddaaZtAI
import Derived.Test.YtckpjldenkjddaaZtAM
import Derived.Test.YtckpjldenkjddaaZtAN
section
namespace Go.Proofs.Ytckpjldenkjddaa
open Go.ChangeShapes Go.WideShapes Go.ChangeAt Go.RowKit
set_option linter.unusedVariables false
set_option linter.unusedSimpArgs false
set_option maxRecDepth 8000

/-- A style within a node, behind a guard that says yes. -/
theorem list_load_gstyAt {ops : Array Oper} {rest : List Oper} {op : Oper} {a : Act} {w : World} {Q : Exit → Act → World → Prop} {g o : Nat} {f : Nat → Int} (hw : Region.wanted op (yielded ops a.tmps) = true) (x : Operand) (ho : op.op = .load 41 x) (hx : a.eval x = .pointer (some ⟨g, o, none⟩)) (hg : w.rangeAt g o (sCells f).toList)
    (h : wpList Try.prog ops Q rest (a.put op.dst (.agg (sCells f))) w) : wpList Try.prog ops Q (op :: rest) a w :=
  wpList_step fun K hK => by
    rw [if_pos hw]
    exact wp_load_mid _ x ho g o hx _ _ hg sty_under rfl (sty_sizeL f) (hK _ _ h)
theorem lsametab (a a' : Option Addr) (rl cap cap' : Nat) (rs : List Int) (w : World) (hz : Rls w a rl rs) (hz' : Rls w a' rl rs) (hl : rl ≤ 4611686018427387904) :
    Calls Try.prog 142 #[.agg #[.slice a rl cap], .agg #[.slice a' rl cap']] w fun e w' => e = .returned (.bool true) ∧ Below w.heap.size w w' := by
  have bb := Go.Joins.below_alloc2 w (.cells #[.slice a rl cap] 51) (.cells #[.slice a' rl cap'] 51)
  have hsm : smB rs rs = true := decide_eq_true rfl
  have K := Lib.hid (lrules_any a a' rl rl cap cap' rs rs _ (hz.below bb) (hz'.below bb) hl hl)
  rw [hsm] at K
  have BB := Lib.hid bb
  clear hz hz' bb hsm
  go_enter Try.func142, Try.ntmps142
  go_wp2_with (fail)
  refine K.out.mono ?_
  rintro e w1 ⟨rfl, b1⟩
  have B1 := Lib.hid (BB.out.trans (b1.mono BB.out.size))
  clear b1 K
  (try dsimp only)
  go_wp2
  go_ret
  exact ⟨rfl, B1.out⟩
set_option maxHeartbeats 2000000 in
theorem samend_any (n : PN) (ka ka' : Option Addr) (kc kc' : Nat) (ta ta' : Option Addr) (tc tc' : Nat) (w : World) (hk : Ints w ka n.kids.length n.kids) (ht : Rls w ta n.rl n.rules) (hk' : Ints w ka' n.kids.length n.kids) (ht' : Rls w ta' n.rl n.rules) (hk1 : n.kids.length ≤ 4611686018427387904) (ht1 : n.rl ≤ 4611686018427387904) :
    Calls Try.prog 111 #[.agg (nA n.up (.slice ka n.kids.length kc) n.sty n.meas (.slice ta n.rl tc)), .agg (nA n.up (.slice ka' n.kids.length kc') n.sty n.meas (.slice ta' n.rl tc'))] w fun e w' => e = .returned (.bool true) ∧ Below w.heap.size w w' := by
  obtain ⟨u, ks, f, m, rl, rs⟩ := n
  simp only at hk ht hk' ht' hk1 ht1 ⊢
  obtain ⟨u0, eu0⟩ : ∃ u0, u0 = w.alloc (.cells (nA u (.slice ka ks.length kc) f m (.slice ta rl tc)) 61) := ⟨_, rfl⟩
  obtain ⟨u1, eu1⟩ : ∃ u1, u1 = u0.alloc (.cells (nA u (.slice ka' ks.length kc') f m (.slice ta' rl tc')) 61) := ⟨_, rfl⟩
  have s0 : u0.heap.size = w.heap.size + 1 := by rw [eu0]; simp
  have H0 : u1.heap[w.heap.size]? = some (.cells (nA u (.slice ka ks.length kc) f m (.slice ta rl tc)) 61) := by rw [eu1, eu0]; exact hp_on (hp_new w _) _
  have H1 : u1.heap[w.heap.size + 1]? = some (.cells (nA u (.slice ka' ks.length kc') f m (.slice ta' rl tc')) 61) := by rw [eu1, ← s0]; exact hp_new u0 _
  have BB : Below w.heap.size w u1 := by rw [eu1, eu0]; exact Go.Joins.below_alloc2 ..
  have c0 : u1.cell? ⟨w.heap.size, 0, none⟩ = some (.int .i64 u) := (Go.Joins.cell_of_block H0 0).trans rfl
  have d0 : u1.cell? ⟨w.heap.size + 1, 0, none⟩ = some (.int .i64 u) := (Go.Joins.cell_of_block H1 0).trans rfl
  have c1 : u1.cell? ⟨w.heap.size, 1, none⟩ = some (.slice ka ks.length kc) := (Go.Joins.cell_of_block H0 1).trans rfl
  have d1 : u1.cell? ⟨w.heap.size + 1, 1, none⟩ = some (.slice ka' ks.length kc') := (Go.Joins.cell_of_block H1 1).trans rfl
  have c62 : u1.cell? ⟨w.heap.size, 62, none⟩ = some (.bool m) := (Go.Joins.cell_of_block H0 62).trans (by rw [nA, List.getElem?_toArray]; exact nL_meas)
  have d62 : u1.cell? ⟨w.heap.size + 1, 62, none⟩ = some (.bool m) := (Go.Joins.cell_of_block H1 62).trans (by rw [nA, List.getElem?_toArray]; exact nL_meas)
  have c63 : u1.cell? ⟨w.heap.size, 63, none⟩ = some (.slice ta rl tc) := (Go.Joins.cell_of_block H0 63).trans (by rw [nA, List.getElem?_toArray]; exact nL_tab)
  have d63 : u1.cell? ⟨w.heap.size + 1, 63, none⟩ = some (.slice ta' rl tc') := (Go.Joins.cell_of_block H1 63).trans (by rw [nA, List.getElem?_toArray]; exact nL_tab)
  have HK := Lib.hid (hk.below BB)
  have HK' := Lib.hid (hk'.below BB)
  have A0 := Lib.hid H0
  have A1 := Lib.hid H1
  have AB := Lib.hid BB
  have EU0 := Lib.hid eu0
  have EU1 := Lib.hid eu1
  have HT := Lib.hid ht
  have HT' := Lib.hid ht'
  clear eu0 eu1 H0 H1 BB hk hk' ht ht' c62 d62 c63 d63
  go_enter Try.func111, Try.ntmps111
  go_wp2_with (first
    | (rw [← EU0.out])
    | (rw [← EU1.out])
    | fail)
  refine (same_any ka ka' ks.length kc kc' ks _ HK.out HK'.out hk1).mono ?_
  rintro e w1 ⟨rfl, b1⟩
  have H0 := hp_below A0.out b1
  have H1 := hp_below A1.out b1
  have BB := AB.out.trans (b1.mono (by have := AB.out.size; omega))
  have G0 := Lib.hid (range_styN (range_block H0))
  have G1 := Lib.hid (range_styN (range_block H1))
  have c62 : w1.cell? ⟨w.heap.size, 62, none⟩ = some (.bool m) := (Go.Joins.cell_of_block H0 62).trans (by rw [nA, List.getElem?_toArray]; exact nL_meas)
  have d62 : w1.cell? ⟨w.heap.size + 1, 62, none⟩ = some (.bool m) := (Go.Joins.cell_of_block H1 62).trans (by rw [nA, List.getElem?_toArray]; exact nL_meas)
  have c63 : w1.cell? ⟨w.heap.size, 63, none⟩ = some (.slice ta rl tc) := (Go.Joins.cell_of_block H0 63).trans (by rw [nA, List.getElem?_toArray]; exact nL_tab)
  have d63 : w1.cell? ⟨w.heap.size + 1, 63, none⟩ = some (.slice ta' rl tc') := (Go.Joins.cell_of_block H1 63).trans (by rw [nA, List.getElem?_toArray]; exact nL_tab)
  have KT := Lib.hid (HT.out.below BB)
  have KT' := Lib.hid (HT'.out.below BB)
  have AB := Lib.hid BB
  have qs := eqq_same f
  have qg := guard_styF .eql
  clear c0 c1 d0 d1 H0 H1 BB b1 HK HK' HT HT' A0 A1
  (try dsimp only)
  go_wp2_with (first
    | ((with_reducible apply list_load_gstyAt); exact rfl; exact rfl; exact rfl; (with_reducible exact G0.out); simp only [Act.put, List.setIfInBounds_toArray, List.set_cons_succ, List.set_cons_zero])
    | ((with_reducible apply list_load_gstyAt); exact rfl; exact rfl; exact rfl; (with_reducible exact G1.out); simp only [Act.put, List.setIfInBounds_toArray, List.set_cons_succ, List.set_cons_zero])
    | fail)
  refine (lsametab ta ta' rl tc tc' rs _ KT.out KT'.out ht1).mono ?_
  rintro e w3 ⟨rfl, b3⟩
  have BB := Lib.hid (AB.out.trans (b3.mono (by have := AB.out.size; omega)))
  clear c62 d62 c63 d63 KT KT' AB b3 qs qg
  (try dsimp only)
  go_wp2
  go_ret
  exact ⟨rfl, BB.out⟩
set_option maxHeartbeats 2000000 in
theorem samens_any (a a' : Option Addr) (cap cap' : Nat) (ns : List PN) (w : World) (hz : Nds w a ns) (hz' : Nds w a' ns) (hl : szS ns ≤ 4611686018427387904) :
    Calls Try.prog 72 #[.slice a ns.length cap, .slice a' ns.length cap'] w fun e w' => e = .returned (.bool true) ∧ Below w.heap.size w w' := by
  have hl0 : ns.length ≤ 4611686018427387904 := by unfold szS at hl; omega
  go_enter Try.func72, Try.ntmps72
  go_wp2
  go_loopw [5] (fun i wr => ∃ k : Nat, k ≤ ns.length ∧ i = .int .i64 k ∧ Below w.heap.size w wr) (fun i _ => ns.length - (intOf i).toNat)
  case atStart => exact ⟨0, Nat.zero_le _, rfl, Below.refl _ _⟩
  case round =>
    obtain ⟨k, hk, rfl, hb⟩ := hrel
    by_cases hlt : k < ns.length
    · have hsz := szK_le hlt
      have hkl : ns[k].kids.length ≤ 4611686018427387904 := by unfold szS at hl; unfold szK at hsz; omega
      have htl : ns[k].rl ≤ 4611686018427387904 := by unfold szS at hl; unfold szK at hsz; omega
      obtain ⟨b, off, rfl, hbl, ⟨kv, tv, hrg, ⟨ka, kc, rfl, hki⟩, ⟨ta, tc, rfl, hti⟩⟩⟩ := (hz.below hb).look hlt
      obtain ⟨b', off', rfl, hbl', ⟨kv', tv', hrg', ⟨ka', kc', rfl, hki'⟩, ⟨ta', tc', rfl, hti'⟩⟩⟩ := (hz'.below hb).look hlt
      have hlo : (0 : Int) ≤ (k : Int) := Int.natCast_nonneg _
      have hhi : (k : Int) < (ns.length : Int) := by omega
      have HKI := Lib.hid (fun (w' : World) (hw : Below wr.heap.size wr w') => hki.below hw)
      have HKI' := Lib.hid (fun (w' : World) (hw : Below wr.heap.size wr w') => hki'.below hw)
      have HTI := Lib.hid (fun (w' : World) (hw : Below wr.heap.size wr w') => hti.below hw)
      have HTI' := Lib.hid (fun (w' : World) (hw : Below wr.heap.size wr w') => hti'.below hw)
      clear hz hz' hsz hki hki' hti hti' hl
      generalize ns[k] = n at *
      go_wp2
      refine wp_region_quiet_below (by kernel_rfl) (by kernel_rfl) ?_
      (try simp only [List.append_eq, List.cons_append, List.nil_append])
      repeat (first
        | (go_big_quiet_want; (with_reducible apply quiet_nd); exact rfl; exact rfl; (with_reducible exact hrg); simp only [Act.put, List.setIfInBounds_toArray, List.set_cons_succ, List.set_cons_zero]; go_big_quiet_on)
        | (go_big_quiet_want; (with_reducible apply quiet_nd); exact rfl; exact rfl; (with_reducible exact hrg'); simp only [Act.put, List.setIfInBounds_toArray, List.set_cons_succ, List.set_cons_zero]; go_big_quiet_on)
        | go_big_quiet_step (first
          | (go_at_call 111; exact Calls.regrown_of (samend_any n ka ka' kc kc' ta ta' tc tc' _ (HKI.out _ (below_regrown wr _ _)) (HTI.out _ (below_regrown wr _ _)) (HKI'.out _ (below_regrown wr _ _)) (HTI'.out _ (below_regrown wr _ _)) hkl htl))
          | fail))
      refine wpQuiet_nil ?_
      intro _ hw'
      obtain ⟨⟨dq, osq⟩, hw''⟩ := hw'
      subst hw''
      clear hrg hrg' HKI HKI' HTI HTI'
      go_wp2
      go_roundw
      case rel => exact ⟨k + 1, by omega, by go_num, hb.trans ((below_regrown wr dq osq).mono hb.size)⟩
      case measure => simp [intOf]; omega
    · clear hz hz' hl
      go_wp2
      go_ret
      exact ⟨rfl, hb⟩
theorem sametr_any (a a' : Option Addr) (cap cap' : Nat) (ns : List PN) (w : World) (hz : Nds w a ns) (hz' : Nds w a' ns) (hl : szS ns ≤ 4611686018427387904) :
    Calls Try.prog 16 #[.agg #[.slice a ns.length cap], .agg #[.slice a' ns.length cap']] w fun e w' => e = .returned (.bool true) ∧ Below w.heap.size w w' := by
  have bb := Go.Joins.below_alloc2 w (.cells #[.slice a ns.length cap] 26) (.cells #[.slice a' ns.length cap'] 26)
  have HZ := Lib.hid (hz.below bb)
  have HZ' := Lib.hid (hz'.below bb)
  clear hz hz'
  go_enter Try.func16, Try.ntmps16
  go_wp2_with (fail)
  refine (samens_any a a' cap cap' ns _ HZ.out HZ'.out hl).mono ?_
  rintro e w1 ⟨rfl, b1⟩
  go_wp2
  go_ret
  exact ⟨rfl, bb.trans (b1.mono bb.size)⟩
end Go.Proofs.Ytckpjldenkjddaa
end

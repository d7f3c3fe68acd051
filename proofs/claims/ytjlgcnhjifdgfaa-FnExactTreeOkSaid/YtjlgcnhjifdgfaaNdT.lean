/-
  The laws' helper toTree: a copy of the tree, of its own whole. Conditions: no list of more than 1048576.
-/
import Derived.Test.YtjlgcnhjifdgfaaNdW
import Derived.Test.YtjlgcnhjifdgfaaRlT
import Derived.Test.YtjlgcnhjifdgfaaToS
namespace Go.Proofs.Ytjlgcnhjifdgfaa
open Go.ChangeShapes Go.WideShapes Go.ChangeAt Go.RowKit
set_option linter.unusedVariables false
set_option linter.unusedSimpArgs false
set_option maxRecDepth 8000

theorem KRow.of_row {lo g n cap : Nat} {zs : List Int} {w : World} (h : RowI lo (.slice (some ⟨g, 0, none⟩) n cap) zs w) (hn : zs.length = n) : KRow lo (.slice (some ⟨g, 0, none⟩) n cap) zs w :=
  ⟨_, cap, by rw [hn], Or.inr h⟩
theorem TRow.of_row {lo g n cap : Nat} {zs : List Int} {w : World} (h : RowR lo (.slice (some ⟨g, 0, none⟩) n cap) n zs w) : TRow lo (.slice (some ⟨g, 0, none⟩) n cap) n zs w :=
  ⟨_, cap, rfl, Or.inr h⟩
/-- A node of the call's own comes back. -/
def ToNPost (n : PN) (w : World) (e : Ending) (w' : World) : Prop :=
  ∃ m : ND, m.n = n ∧ e = .returned (.agg (nA n.up m.kv n.sty n.meas m.tv)) ∧ m.own w.heap.size w' ∧ (∀ b, m.comp true = some b → m.comp false ≠ some b) ∧ Below w.heap.size w w'
theorem ND.own.one {lo : Nat} {m : ND} {w : World} (h : m.own lo w) : m.kv.oneCell' = true ∧ m.tv.oneCell' = true := by
  obtain ⟨_, ⟨a, c, e, _⟩, ⟨a', c', e', _⟩⟩ := h
  rw [e, e']; exact ⟨rfl, rfl⟩
theorem blk_slice (g n c k : Nat) (b : Nat) (h : blk (.slice (some ⟨g, 0, none⟩) n c) k = some b) : b = g := by
  unfold blk at h
  split at h
  · cases h
  · simpa [Value.ownBlock] using h.symm
set_option maxHeartbeats 2000000 in
theorem tond_any (n : PN) (ka : Option Addr) (kc : Nat) (ta : Option Addr) (tc : Nat) (w : World) (hok : n.ok) (hk : Ints w ka n.kids.length n.kids) (ht : Rls w ta n.rl n.rules) (hk1 : n.kids.length ≤ 1048576) (ht1 : n.rl ≤ 1048576) :
    Calls Try.prog 122 #[.agg (nA n.up (.slice ka n.kids.length kc) n.sty n.meas (.slice ta n.rl tc))] w (ToNPost n w) := by
  obtain ⟨u, ks, f, m, rl, rs⟩ := n
  simp only at hk ht hk1 ht1 ⊢
  obtain ⟨u0, eu0⟩ : ∃ u0, u0 = w.alloc (.cells (nA u (.slice ka ks.length kc) f m (.slice ta rl tc)) 161) := ⟨_, rfl⟩
  obtain ⟨u1, eu1⟩ : ∃ u1, u1 = u0.alloc (.cells nZ 61) := ⟨_, rfl⟩
  obtain ⟨u2, eu2⟩ : ∃ u2, u2 = u1.alloc (.cells nZ 61) := ⟨_, rfl⟩
  have s0 : u0.heap.size = w.heap.size + 1 := by rw [eu0]; simp
  have s1 : u1.heap.size = w.heap.size + 1 + 1 := by rw [eu1]; simp [s0]
  have s2 : u2.heap.size = w.heap.size + 1 + 1 + 1 := by rw [eu2]; simp [s1]
  have H0 : u2.heap[w.heap.size]? = some (.cells (nA u (.slice ka ks.length kc) f m (.slice ta rl tc)) 161) := by rw [eu2, eu1, eu0]; exact hp_on (hp_on (hp_new w _) _) _
  have H1 : u2.heap[w.heap.size + 1]? = some (.cells nZ 61) := by rw [eu2, eu1, ← s0]; exact hp_on (hp_new u0 _) _
  have H2 : u2.heap[w.heap.size + 1 + 1]? = some (.cells nZ 61) := by rw [eu2, ← s1]; exact hp_new u1 _
  have BB : Below w.heap.size w u2 := by rw [eu2, eu1, eu0]; exact Go.Joins.below_alloc3 ..
  have c0 : u2.cell? ⟨w.heap.size, 0, none⟩ = some (.int .i64 u) := (Go.Joins.cell_of_block H0 0).trans rfl
  have z0 : u2.cell? ⟨w.heap.size + 1 + 1, 0, none⟩ = some (.int .i64 0) := (Go.Joins.cell_of_block H2 0).trans rfl
  have f0 := Go.Joins.unfrozen_of_block H2 0
  -- the first store
  have A0 := Lib.hid (hp_set H0 (g' := w.heap.size + 1 + 1) (by omega) 0 (.int .i64 u))
  have A1 := Lib.hid (hp_set H1 (g' := w.heap.size + 1 + 1) (by omega) 0 (.int .i64 u))
  have A2' : (u2.setCell ⟨w.heap.size + 1 + 1, 0, none⟩ (.int .i64 u)).heap[w.heap.size + 1 + 1]? = some (.cells (nA u (.slice none 0 0) (fun _ => 0) false (.slice none 0 0)) 61) := by
    have h := Go.Joins.block_setCell (i := 0) H2 (.int .i64 u)
    rw [show nZ.setIfInBounds 0 (.int .i64 u) = nA u (.slice none 0 0) (fun _ => 0) false (.slice none 0 0) from nA_put0 u] at h
    exact h
  have A2 := Lib.hid A2'
  have AB := Lib.hid (bl_set BB (g := w.heap.size + 1 + 1) 0 (by omega) (.int .i64 u))
  have c1 : u2.cell? ⟨w.heap.size, 1, none⟩ = some (.slice ka ks.length kc) := (Go.Joins.cell_of_block H0 1).trans rfl
  obtain ⟨u3, eu3⟩ : ∃ u3, u3 = u2.setCell ⟨w.heap.size + 1 + 1, 0, none⟩ (.int .i64 u) := ⟨_, rfl⟩
  have hk3 : Ints u3 ka ks.length ks := by
    have hb : Below w.heap.size w u3 := by rw [eu3]; exact AB.out
    exact hk.below hb
  have ht3 : Rls u3 ta rl rs := by
    have hb : Below w.heap.size w u3 := by rw [eu3]; exact AB.out
    exact ht.below hb
  have s3 : u3.heap.size = w.heap.size + 1 + 1 + 1 := by rw [eu3]; simp [s2]
  have HK3 := Lib.hid hk3
  have HT3 := Lib.hid ht3
  have c13 : u3.cell? ⟨w.heap.size, 1, none⟩ = some (.slice ka ks.length kc) := by rw [eu3]; exact (Go.Joins.cell_of_block A0.out 1).trans rfl
  have A0 := A0.out
  have A1 := A1.out
  have A2 := A2.out
  have AB := AB.out
  rw [← eu3] at A0 A1 A2 AB
  replace A0 := Lib.hid A0
  replace A1 := Lib.hid A1
  replace A2 := Lib.hid A2
  replace AB := Lib.hid AB
  have EU0 := Lib.hid eu0
  have EU1 := Lib.hid eu1
  have EU2 := Lib.hid eu2
  have EU3 := Lib.hid eu3
  have S3 := Lib.hid s3
  clear eu0 eu1 eu2 eu3 H0 H1 H2 BB hk A2' c1 hk3 ht3
  go_enter Try.func122, Try.ntmps122
  go_wp2_with (first
    | ((with_reducible apply list_alloc_nd); exact rfl; exact rfl; simp only [World.size_alloc, Act.put, List.setIfInBounds_toArray, List.set_cons_succ, List.set_cons_zero])
    | (rw [← EU0.out])
    | (rw [← EU1.out])
    | (rw [← EU2.out])
    | (rw [← EU3.out])
    | fail)
  -- the children
  refine (toI_any ka ks.length kc ks u3 HK3.out hk1).mono ?_
  rintro e w1 ⟨rfl, r1, b1⟩
  have sw1 : w.heap.size + 1 + 1 + 1 ≤ w1.heap.size := by rw [← S3.out]; exact b1.size
  have H0 := hp_below A0.out b1
  have H1 := hp_below A1.out b1
  have H2 := hp_below A2.out b1
  have BB := AB.out.trans (b1.mono (by rw [S3.out]; omega))
  have ht1' := HT3.out.below b1
  rw [S3.out] at r1
  obtain ⟨gk, egk⟩ : ∃ gk, gk = w.heap.size + 1 + 1 + 1 := ⟨_, rfl⟩
  have hkb : ∀ b, blk (.slice (some ⟨gk, 0, none⟩) ks.length ks.length) ks.length = some b → b < w1.heap.size := fun b hb => by
    rw [blk_slice _ _ _ _ _ hb, egk]
    exact (World.ownsRow.lt r1 _ rfl).2
  have hk1 : (Value.slice (some ⟨gk, 0, none⟩) ks.length ks.length).oneCell' = true := rfl
  have rk : KRow (w.heap.size + 1 + 1 + 1) (.slice (some ⟨gk, 0, none⟩) ks.length ks.length) ks w1 := by rw [egk]; exact KRow.of_row r1 rfl
  rw [S3.out, ← egk]
  clear egk
  have z1 : w1.cell? ⟨w.heap.size + 1 + 1, 1, none⟩ = some (.slice none 0 0) := (Go.Joins.cell_of_block H2 1).trans rfl
  have f1 := Go.Joins.unfrozen_of_block H2 1
  obtain ⟨u4, eu4⟩ : ∃ u4, u4 = w1.setCell ⟨w.heap.size + 1 + 1, 1, none⟩ (.slice (some ⟨gk, 0, none⟩) ks.length ks.length) := ⟨_, rfl⟩
  have F4 : From (w.heap.size + 1 + 1 + 1) w1 u4 := by rw [eu4]; exact from_set (by omega) _ _
  have s4 : u4.heap.size = w1.heap.size := by rw [eu4]; simp
  replace H0 := hp_set (g' := w.heap.size + 1 + 1) H0 (by omega) 1 (.slice (some ⟨gk, 0, none⟩) ks.length ks.length)
  replace H1 := hp_set (g' := w.heap.size + 1 + 1) H1 (by omega) 1 (.slice (some ⟨gk, 0, none⟩) ks.length ks.length)
  rw [← eu4] at H0 H1
  have H2 : u4.heap[w.heap.size + 1 + 1]? = some (.cells (nA u (.slice (some ⟨gk, 0, none⟩) ks.length ks.length) (fun _ => 0) false (.slice none 0 0)) 61) := by
    rw [eu4, ← nA_put1]; exact Go.Joins.block_setCell (i := 1) H2 (.slice (some ⟨gk, 0, none⟩) ks.length ks.length)
  have BB : Below w.heap.size w u4 := by rw [eu4]; exact bl_set BB (g := w.heap.size + 1 + 1) 1 (by omega) (.slice (some ⟨gk, 0, none⟩) ks.length ks.length)
  have ht4 : Rls u4 ta rl rs := ht.below BB
  have rk := rk.kept F4
  have RG := Lib.hid (range_styN (range_block H0))
  have EU4 := Lib.hid eu4
  have K0 := Lib.hid H0
  have K1 := Lib.hid H1
  have K2 := Lib.hid H2
  have KB := Lib.hid BB
  have KT := Lib.hid ht4
  have KK := Lib.hid rk
  clear A0 A1 A2 AB c0 z0 f0 c13 H0 H1 H2 BB ht1' ht4 rk r1 eu4 HT3 HK3 F4
  dsimp only
  go_wp2_with (first
    | (rw [← EU4.out])
    | ((with_reducible apply list_load_lstyAt); exact rfl; exact rfl; exact rfl; (with_reducible exact RG.out); simp only [Act.put, List.setIfInBounds_toArray, List.set_cons_succ, List.set_cons_zero])
    | fail)
  -- the style
  refine (toSty f u4).mono ?_
  rintro e w2 ⟨rfl, b2⟩
  have sw2 : w.heap.size + 1 + 1 + 1 ≤ w2.heap.size := by have := b2.size; omega
  have s4' := b2.size
  have H0 := hp_below K0.out b2
  have H1 := hp_below K1.out b2
  have H2 := hp_below K2.out b2
  have BB := KB.out.trans (b2.mono (by omega))
  have rk := KK.out.kept (From.of_below b2)
  have T2 : w2.there (w.heap.size + 1 + 1) 2 60 := there_block H2 2 60 (by rw [nA_size]; decide)
  obtain ⟨u5, eu5⟩ : ∃ u5, u5 = w2.setCells (w.heap.size + 1 + 1) 2 (sCells f).toList := ⟨_, rfl⟩
  have F5 : From (w.heap.size + 1 + 1 + 1) w2 u5 := by rw [eu5]; exact from_cells (by omega) _ _ _
  have s5 : u5.heap.size = w2.heap.size := by rw [eu5]; exact cells_size _ _ _ _
  replace H0 := hp_cells (g' := w.heap.size + 1 + 1) (by omega) (sCells f).toList 2 w2 H0
  replace H1 := hp_cells (g' := w.heap.size + 1 + 1) (by omega) (sCells f).toList 2 w2 H1
  replace H2 := hp_puts (sCells f).toList 2 _ w2 H2
  rw [nA_putS] at H2
  replace BB := below_cells (g := w.heap.size + 1 + 1) (by omega) (sCells f).toList 2 w2 BB
  rw [← eu5] at H0 H1 H2 BB
  replace rk := rk.kept F5
  have c62 : u5.cell? ⟨w.heap.size, 62, none⟩ = some (.bool m) := (Go.Joins.cell_of_block H0 62).trans (by rw [nA, List.getElem?_toArray]; exact nL_meas)
  have z62 : u5.cell? ⟨w.heap.size + 1 + 1, 62, none⟩ = some (.bool false) := (Go.Joins.cell_of_block H2 62).trans (by rw [nA, List.getElem?_toArray]; exact nL_meas)
  have f62 := Go.Joins.unfrozen_of_block H2 62
  obtain ⟨u6, eu6⟩ : ∃ u6, u6 = u5.setCell ⟨w.heap.size + 1 + 1, 62, none⟩ (.bool m) := ⟨_, rfl⟩
  have F6 : From (w.heap.size + 1 + 1 + 1) u5 u6 := by rw [eu6]; exact from_set (by omega) _ _
  have s6 : u6.heap.size = w2.heap.size := by rw [eu6, ← s5]; simp
  replace H0 := hp_set (g' := w.heap.size + 1 + 1) H0 (by omega) 62 (.bool m)
  replace H1 := hp_set (g' := w.heap.size + 1 + 1) H1 (by omega) 62 (.bool m)
  replace H2 := Go.Joins.block_setCell (i := 62) H2 (.bool m)
  rw [nA_put62] at H2
  replace BB := bl_set BB (g := w.heap.size + 1 + 1) 62 (by omega) (.bool m)
  rw [← eu6] at H0 H1 H2 BB
  replace rk := rk.kept F6
  have c63 : u6.cell? ⟨w.heap.size, 63, none⟩ = some (.slice ta rl tc) := (Go.Joins.cell_of_block H0 63).trans (by rw [nA, List.getElem?_toArray]; exact nL_tab)
  have ht6 := ht.below BB
  have T5 := Lib.hid T2
  have EU5 := Lib.hid eu5
  have EU6 := Lib.hid eu6
  have L0 := Lib.hid H0
  have L1 := Lib.hid H1
  have L2 := Lib.hid H2
  have LB := Lib.hid BB
  have LT := Lib.hid ht6
  have LK := Lib.hid rk
  clear K0 K1 K2 KB KT KK RG H0 H1 H2 BB rk ht6 eu5 eu6 T2 F5 F6 b1 b2 z1 f1 EU0 EU1 EU2 EU3 EU4 ht
  dsimp only
  go_wp2_with (first
    | ((with_reducible apply list_store_styAt); exact rfl; exact rfl; exact rfl; exact rfl; (with_reducible exact T5.out); simp only [Act.put, List.setIfInBounds_toArray, List.set_cons_succ, List.set_cons_zero])
    | (rw [← EU5.out])
    | (rw [← EU6.out])
    | fail)
  -- the table
  refine (toT_any ta rl tc rs u6 LT.out ht1).mono ?_
  rintro e w3 ⟨gt, rfl, r3, b3⟩
  have sw3 := b3.size
  have H0 := hp_below L0.out b3
  have H1 := hp_below L1.out b3
  have H2 := hp_below L2.out b3
  have BB := LB.out.trans (b3.mono (by omega))
  have rk := LK.out.kept (From.of_below b3)
  have hgt := World.ownsRow.lt r3 gt rfl
  have ht1' : (Value.slice (some ⟨gt, 0, none⟩) rl rl).oneCell' = true := rfl
  have htb : ∀ b, blk (.slice (some ⟨gt, 0, none⟩) rl rl) rl = some b → b = gt := fun b hb => blk_slice _ _ _ _ _ hb
  have rt : TRow (w.heap.size + 1 + 1 + 1) (.slice (some ⟨gt, 0, none⟩) rl rl) rl rs w3 := (TRow.of_row r3).lower (by omega)
  have z63 : w3.cell? ⟨w.heap.size + 1 + 1, 63, none⟩ = some (.slice none 0 0) := (Go.Joins.cell_of_block H2 63).trans (by rw [nA, List.getElem?_toArray]; exact nL_tab)
  have f63 := Go.Joins.unfrozen_of_block H2 63
  obtain ⟨u7, eu7⟩ : ∃ u7, u7 = w3.setCell ⟨w.heap.size + 1 + 1, 63, none⟩ (.slice (some ⟨gt, 0, none⟩) rl rl) := ⟨_, rfl⟩
  have F7 : From (w.heap.size + 1 + 1 + 1) w3 u7 := by rw [eu7]; exact from_set (by omega) _ _
  replace H1 := hp_set (g' := w.heap.size + 1 + 1) H1 (by omega) 63 (.slice (some ⟨gt, 0, none⟩) rl rl)
  replace H2 := Go.Joins.block_setCell (i := 63) H2 (.slice (some ⟨gt, 0, none⟩) rl rl)
  rw [nA_put63] at H2
  replace BB := bl_set BB (g := w.heap.size + 1 + 1) 63 (by omega) (.slice (some ⟨gt, 0, none⟩) rl rl)
  rw [← eu7] at H1 H2 BB
  have RG1 : u7.rangeAt (w.heap.size + 1 + 1) 0 (nL u (.slice (some ⟨gk, 0, none⟩) ks.length ks.length) f m (.slice (some ⟨gt, 0, none⟩) rl rl)) := range_block H2
  have RG := Lib.hid RG1
  clear RG1
  have T1 := Lib.hid (there_block H1 0 64 (by show 0 + 64 ≤ nZ.size; rw [nZ, nA_size]; decide))
  obtain ⟨u8, eu8⟩ : ∃ u8, u8 = u7.setCells (w.heap.size + 1) 0 (nL u (.slice (some ⟨gk, 0, none⟩) ks.length ks.length) f m (.slice (some ⟨gt, 0, none⟩) rl rl)) := ⟨_, rfl⟩
  have F8 : From (w.heap.size + 1 + 1 + 1) u7 u8 := by rw [eu8]; exact from_cells (by omega) _ _ _
  replace H1 := hp_puts (nL u (.slice (some ⟨gk, 0, none⟩) ks.length ks.length) f m (.slice (some ⟨gt, 0, none⟩) rl rl)) 0 _ u7 H1
  rw [putA_all _ _ (by rw [nL_len]; exact (nA_size ..).symm)] at H1
  replace BB := below_cells (g := w.heap.size + 1) (by omega) (nL u (.slice (some ⟨gk, 0, none⟩) ks.length ks.length) f m (.slice (some ⟨gt, 0, none⟩) rl rl)) 0 u7 BB
  rw [← eu8] at H1 BB
  have H1 : u8.heap[w.heap.size + 1]? = some (.cells (nA u (.slice (some ⟨gk, 0, none⟩) ks.length ks.length) f m (.slice (some ⟨gt, 0, none⟩) rl rl)) 61) := H1
  have rk8 := Lib.hid (((rk.kept F7).kept F8).lower (show w.heap.size ≤ _ by omega))
  have rt8 := Lib.hid (((rt.kept F7).kept F8).lower (show w.heap.size ≤ _ by omega))
  have EU7 := Lib.hid eu7
  have EU8 := Lib.hid eu8
  have G1 := Lib.hid H1
  have GB := Lib.hid BB
  have HTB := Lib.hid htb
  have HKB := Lib.hid hkb
  have HOK := Lib.hid hok
  clear L0 L1 L2 LB LT LK H0 H1 H2 BB rk rt r3 eu7 eu8 F7 F8 b3 c62 z62 f62 c63 EU5 EU6 T5 htb hkb hok
  dsimp only
  go_wp2_with (first
    | (rw [← EU7.out])
    | ((with_reducible apply list_load_nd); exact rfl; exact rfl; exact rfl; (with_reducible exact RG.out); simp only [Act.put, List.setIfInBounds_toArray, List.set_cons_succ, List.set_cons_zero])
    | ((with_reducible apply list_store_nd); exact rfl; exact rfl; exact rfl; exact rfl; (with_reducible exact T1.out); (with_reducible exact hk1); (with_reducible exact ht1'); simp only [Act.put, List.setIfInBounds_toArray, List.set_cons_succ, List.set_cons_zero])
    | (rw [← EU8.out])
    | fail)
  refine bodyPost_ret (results_nd rfl rfl G1.out) rfl ⟨(⟨⟨u, ks, f, m, rl, rs⟩, (.slice (some ⟨gk, 0, none⟩) ks.length ks.length), (.slice (some ⟨gt, 0, none⟩) rl rl)⟩ : ND), rfl, rfl, ⟨HOK.out, rk8.out, rt8.out⟩, fun b hb hb' => ?_, GB.out⟩
  have h1 := HKB.out b hb
  have h2 := HTB.out b hb'
  omega
def TNRel (ns : List PN) (w : World) (i : Value) (wr : World) : Prop :=
  ∃ (k : Nat) (ms : List ND), k ≤ ns.length ∧ i = .int .i64 k ∧ ms.length = ns.length ∧ (∀ j, j < k → (ms[j]?).map ND.n = ns[j]?) ∧ (∀ j, k ≤ j → j < ns.length → ms[j]? = some ndZ) ∧
    OwnN w.heap.size (.slice (some ⟨w.heap.size, 0, none⟩) ms.length ns.length) ms wr ∧ Below w.heap.size w wr
/-- A row of nodes of the call's own comes back. -/
def TNPost (ns : List PN) (w : World) (e : Ending) (w' : World) : Prop :=
  ∃ ms : List ND, ms.map ND.n = ns ∧ e = .returned (.slice (some ⟨w.heap.size, 0, none⟩) ns.length ns.length) ∧ OwnN w.heap.size (.slice (some ⟨w.heap.size, 0, none⟩) ns.length ns.length) ms w' ∧ Below w.heap.size w w'
set_option maxHeartbeats 2000000 in
theorem tons_any (a : Option Addr) (cap : Nat) (ns : List PN) (w : World) (hz : Nds w a ns) (hl : szS ns ≤ 1048576) :
    Calls Try.prog 81 #[.slice a ns.length cap] w (TNPost ns w) := by
  obtain ⟨i0, hi, hz0, hz1, hz2⟩ := info_parts info_node
  have hnl : ns.length ≤ 1048576 := by unfold szS at hl; omega
  have HL := Lib.hid hl
  clear hl
  go_enter Try.func81, Try.ntmps81
  go_wp2_with (first
    | (at_make; refine wpList_make_full _ rfl _ _ 24 rfl w.heap.size 61 i0 (.agg nZ) 64 Try.underlying24 hi hz0 hz1 .i64 .i64 _ _ ns.length rfl rfl rfl rfl (by rw [hz2]; omega) (by unfold maxLen; omega) (Nat.le_refl _) ?_; intro w0 hown0 hgrow0))
  have hr0 : OwnN w.heap.size (.slice (some ⟨w.heap.size, 0, none⟩) (List.replicate ns.length ndZ).length ns.length) (List.replicate ns.length ndZ) w0 := by
    rw [show (Value.agg nZ).cells = nZ from rfl, made_nd] at hown0
    rw [List.length_replicate]
    exact ownN_zero hown0
  have hb0 : Below w.heap.size w w0 := (Below.refl _ _).grown hgrow0 (Nat.le_refl _) (fun g hg => by cases hg)
  have HR0 := Lib.hid hr0
  clear hown0 hgrow0 hr0
  go_wp2
  go_loopw [4] (TNRel ns w) (fun i _ => ns.length - (intOf i).toNat)
  case atStart => exact ⟨0, List.replicate ns.length ndZ, Nat.zero_le _, rfl, List.length_replicate, fun j hj => absurd hj (Nat.not_lt_zero _), fun j _ hj => by rw [List.getElem?_replicate, if_pos hj], HR0.out, hb0⟩
  case round =>
    obtain ⟨k, ms, hk, rfl, hml, hd, hr, ho, hb⟩ := hrel
    have HO := Lib.hid ho
    have HD := Lib.hid hd
    have HR := Lib.hid hr
    have HML := Lib.hid hml
    clear ho hd hr hml HR0
    by_cases hlt : k < ns.length
    · have hnd := (hz.below hb).look hlt
      have hok := hz.1 ns[k] (List.getElem_mem hlt)
      have hsz := szK_le hlt
      obtain ⟨b, off, rfl, hbl, ⟨kv, tv, hrg, ⟨ka, kc, rfl, hki⟩, ⟨ta, tc, rfl, hti⟩⟩⟩ := hnd
      have hlo : (0 : Int) ≤ (k : Int) := Int.natCast_nonneg _
      have hhi : (k : Int) < (ns.length : Int) := by omega
      have hkl : ns[k].kids.length ≤ 1048576 := by have := HL.out; unfold szS at this; unfold szK at hsz; omega
      have htl : ns[k].rl ≤ 1048576 := by have := HL.out; unfold szS at this; unfold szK at hsz; omega
      have hnk : ns[k]? = some ns[k] := List.getElem?_eq_getElem hlt
      have HZ := Lib.hid hz
      have HNK := Lib.hid hnk
      have RG := Lib.hid hrg
      clear hz hrg hnk hsz
      generalize ns[k] = n at *
      go_wp2_with (first
        | ((with_reducible apply list_load_lnd); exact rfl; exact rfl; exact rfl; (with_reducible exact RG.out); simp only [Act.put, List.setIfInBounds_toArray, List.set_cons_succ, List.set_cons_zero])
        | fail)
      refine (tond_any n ka kc ta tc wr hok hki hti hkl htl).mono ?_
      rintro e w1 ⟨m, hmn, rfl, hmo, hap, b1⟩
      have hb1 := hb.trans (b1.mono hb.size)
      have ho1 := HO.out.below b1
      have hkm : k < ms.length := by rw [HML.out]; exact hlt
      have T1 := Lib.hid (ho1.there hkm)
      obtain ⟨o1, o2⟩ := hmo.one
      have hmo2 := hmo.lower (lo' := w.heap.size) hb.size
      have hst := ho1.store (m := m) hkm hmo2 (fun s x hx => by have := hmo.lt s x hx; have := (World.ownsRow.lt HO.out.1 w.heap.size rfl).2; omega)
        (fun s x hx j mj t hj hmj hc => by
          have h1 := hmo.lt s x hx
          have h2 := (HO.out.2.1 mj (List.mem_of_getElem? hmj)).1.lt t x hc
          omega) hap
      have B1 := below_cells (g := w.heap.size) (Nat.le_refl _) m.cells (k * 64) w1 hb1
      obtain ⟨u2, eu2⟩ : ∃ u2, u2 = w1.setCells w.heap.size (k * 64) m.cells := ⟨_, rfl⟩
      rw [← eu2] at hst B1
      have eu2' : w1.setCells w.heap.size (k * 64) (nL n.up m.kv n.sty n.meas m.tv) = u2 := by rw [eu2, ← hmn]; rfl
      have HS := Lib.hid hst
      have HB1 := Lib.hid B1
      have EU2 := Lib.hid eu2'
      have O1 := Lib.hid o1
      have O2 := Lib.hid o2
      have HMN := Lib.hid hmn
      clear hst B1 eu2 eu2' ho1 hmo hmo2 hap b1 hb1 o1 o2 hki hti hmn
      dsimp only
      go_wp2_with (first
        | ((with_reducible apply list_store_nd); exact rfl; exact rfl; exact rfl; exact rfl; (with_reducible exact T1.out); (with_reducible exact O1.out); (with_reducible exact O2.out); simp only [Act.put, List.setIfInBounds_toArray, List.set_cons_succ, List.set_cons_zero])
        | (rw [EU2.out])
        | fail)
      go_roundw
      case rel =>
        refine ⟨k + 1, ms.set k m, by omega, by go_num, by rw [List.length_set]; exact HML.out, fun j hj => ?_, fun j h1 h2 => ?_, ?_, HB1.out⟩
        · by_cases e : j = k
          · subst e
            rw [List.getElem?_set_self hkm, HNK.out]; simp [HMN.out]
          · rw [List.getElem?_set_ne (fun h => e h.symm)]; exact HD.out j (by omega)
        · rw [List.getElem?_set_ne (by omega)]; exact HR.out j (by omega) h2
        · rw [List.length_set]; exact HS.out
      case measure => simp [intOf]; omega
    · obtain rfl : k = ns.length := by omega
      have hmap : ms.map ND.n = ns := by
        apply List.ext_getElem?
        intro j
        rw [List.getElem?_map]
        by_cases hj : j < ns.length
        · exact HD.out j hj
        · rw [List.getElem?_eq_none (by rw [HML.out]; omega), List.getElem?_eq_none (by omega)]; rfl
      have ho := HO.out
      rw [HML.out] at ho
      clear hz
      go_wp2
      go_ret
      exact ⟨ms, hmap, rfl, ho, hb⟩
/-- A tree of the call's own comes back. -/
def ToTrPost (ns : List PN) (w : World) (e : Ending) (w' : World) : Prop :=
  ∃ (g : Nat) (ms : List ND), ms.map ND.n = ns ∧ e = .returned (.agg #[.slice (some ⟨g, 0, none⟩) ns.length ns.length]) ∧ OwnN w.heap.size (.slice (some ⟨g, 0, none⟩) ns.length ns.length) ms w' ∧ Below w.heap.size w w'
set_option maxHeartbeats 1000000 in
theorem totr_any (a : Option Addr) (cap : Nat) (ns : List PN) (w : World) (hz : Nds w a ns) (hl : szS ns ≤ 1048576) :
    Calls Try.prog 36 #[.agg #[.slice a ns.length cap]] w (ToTrPost ns w) := by
  have bb := below_three w (.cells #[.slice a ns.length cap] 64) (.cells #[.slice none 0 0] 26) (.cells #[.slice none 0 0] 26)
  have h1 := hp_on (hp_new (w.alloc (.cells #[.slice a ns.length cap] 64)) (.cells #[.slice none 0 0] 26)) (.cells #[.slice none 0 0] 26)
  have h2 := hp_new ((w.alloc (.cells #[.slice a ns.length cap] 64)).alloc (.cells #[.slice none 0 0] 26)) (.cells #[.slice none 0 0] 26)
  have hsz : (((w.alloc (.cells #[.slice a ns.length cap] 64)).alloc (.cells #[.slice none 0 0] 26)).alloc (.cells #[.slice none 0 0] 26)).heap.size = w.heap.size + 3 := by simp
  simp only [World.size_alloc] at h1 h2
  have HZ := Lib.hid (hz.below bb)
  clear hz
  go_enter Try.func36, Try.ntmps36
  go_wp2_with (fail)
  generalize (((w.alloc (.cells #[.slice a ns.length cap] 64)).alloc (.cells #[.slice none 0 0] 26)).alloc (.cells #[.slice none 0 0] 26)) = u at *
  refine (tons_any a cap ns u HZ.out hl).mono ?_
  rintro e w1 ⟨ms, hms, rfl, r1, b1⟩
  rw [hsz] at r1
  have g1 := hp_below h1 b1
  have g2 := hp_below h2 b1
  have z1 := Go.Joins.cell_of_block g1 0
  have F1 := Go.Joins.unfrozen_of_block g1 0
  have z2 := Go.Joins.cell_of_block g2 0
  have F2 := Go.Joins.unfrozen_of_block g2 0
  simp at z1 z2
  have B1 := bb.trans (b1.mono bb.size)
  have R1 := (r1.kept (from_set (g := w.heap.size + 1 + 1) (by omega) 0 (.slice (some ⟨w.heap.size + 3, 0, none⟩) ns.length ns.length))).kept (from_set (g := w.heap.size + 1) (by omega) 0 (.slice (some ⟨w.heap.size + 3, 0, none⟩) ns.length ns.length))
  have B2 := bl_set (bl_set B1 (g := w.heap.size + 1 + 1) 0 (by omega) (.slice (some ⟨w.heap.size + 3, 0, none⟩) ns.length ns.length)) (g := w.heap.size + 1) 0 (by omega) (.slice (some ⟨w.heap.size + 3, 0, none⟩) ns.length ns.length)
  have R2 := Lib.hid R1
  clear R1 r1 g1 g2 h1 h2 b1 bb B1 HZ
  rw [hsz]
  dsimp only
  go_wp2
  refine bodyPost_ret (v := .agg #[.slice (some ⟨w.heap.size + 3, 0, none⟩) ns.length ns.length]) (by simp [results, Try.results36, go_sem, z1]) rfl ⟨w.heap.size + 3, ms, hms, rfl, OwnN.lower R2.out (by omega), B2⟩
end Go.Proofs.Ytjlgcnhjifdgfaa

import Derived.Test.YtckpjldenkjddaaZtBS
section
namespace Go.Proofs.Ytckpjldenkjddaa
open Go.ChangeShapes Go.WideShapes Go.ChangeAt Go.RowKit
set_option linter.unusedVariables false
set_option linter.unusedSimpArgs false
set_option maxRecDepth 8000

/-- What the draw of any tree leaves. -/
def AnDrew (cb : Nat) (a : Option Addr) (len cap : Nat) (w : World) (e : Ending) (w' : World) : Prop :=
  ∃ (va : Option Addr) (vc : Nat) (ms : List ND), e = .returned (.agg #[.slice va ms.length vc]) ∧ OwnN w.heap.size (.slice va ms.length vc) ms w' ∧ 1 ≤ ms.length ∧ ms.length ≤ 13 ∧ szS (ms.map ND.n) ≤ 4000 ∧ Cur cb a len cap w' ∧ w.grownBy w' (some cb)
theorem there_sty {lo g vc k : Nat} {ms : List ND} {w : World} (h : OwnN lo (.slice (some ⟨g, 0, none⟩) ms.length vc) ms w) (hk : k < ms.length) : w.there g (k * 64 + 2) 60 := fun j hj => by
  have := h.there hk (2 + j) (by omega)
  rw [show k * 64 + 2 + j = k * 64 + (2 + j) by omega]
  exact this
theorem szK_at {ms : List ND} {k : Nat} (hk : k < ms.length) : szK ms[k].n ≤ szS (ms.map ND.n) := by
  have h := szK_le (ns := ms.map ND.n) (i := k) (by simpa using hk)
  rw [List.getElem_map] at h
  unfold szS
  omega
section
variable {w wr w' : World} {cb gt : Nat} {a : Option Addr} {len cap : Nat} {ms : List ND} {v : Value}
/-- A new node appended and stored. -/
theorem TA.push {av : Option Addr} {cv : Nat} {f : Nat → Int} {v' : Value} {w9 : World} (hf : InR f) (h : TA w cb a len cap gt ms (.slice av ms.length cv) wr) (W : TDw w cb a len)
    (hown : w9.ownsRow (w.heap.size + 1) 61 64 v' (ms.length + 1) (cellsN ms ++ (newM f).cells)) (hg : wr.grownBy w9 (Value.slice av ms.length cv).ownBlock) (hat : v'.ownBlock = (Value.slice av ms.length cv).ownBlock ∨ v'.ownBlock = some wr.heap.size) (e : w' = w9.setCell ⟨gt, 0, none⟩ v') :
    w9.heap[gt]? = some (.cells #[.slice av ms.length cv] 26) ∧ TA w cb a len cap gt (ms ++ [newM f]) v' w' := by
  have hlo : ∀ b, (Value.slice av ms.length cv).ownBlock = some b → w.heap.size + 1 ≤ b := fun b hb => (h.own.1.lt b hb).1
  have hgtl := hp_lt h.here
  have hgt2 := h.gtl
  have h9 := cp_grown h.here hg (fun e => h.apv e.symm)
  have h9r := cp_grown h.res hg (fun e => by have := hlo _ e.symm; omega)
  have ho := h.own.push (newM_own hf (w.heap.size + 1) wr) (fun s b h => by rw [newM_comp] at h; cases h) (fun b h => by rw [newM_comp] at h; cases h) hown hg hat
  have hva : v'.ownBlock ≠ some gt := by
    rcases hat with h1 | h1
    · rw [h1]; exact h.apv
    · rw [h1]; intro h'; simp at h'; omega
  have hca : ∀ m ∈ ms ++ [newM f], ∀ s, m.comp s ≠ some gt := fun m hm s h1 => by
    rcases List.mem_append.1 hm with hm | hm
    · exact h.apc m hm s h1
    · simp at hm; subst hm; rw [newM_comp] at h1; cases h1
  have hG1 : w9.grownBy w' (some gt) := by rw [e]; exact gr_set (World.grownBy.refl w9 _)
  refine ⟨h9, ⟨by rw [e]; exact Go.Joins.block_setCell (i := 0) h9 v', hgt2, by rw [e]; exact hp_set h9r (by omega) 0 v', ?_, ?_, ho.off hG1 hva hca, hva, hca⟩⟩
  · refine (h.cur.kept (h.lt W) hg (fun q hq => ?_)).kept (Nat.lt_of_lt_of_le (h.lt W) hg.size) hG1 (fun q hq => ?_)
    · have := hlo q hq
      exact ⟨by have := W.ltc; omega, fun h0 b off e => by have := W.code h0 b off e; omega⟩
    · simp at hq
      subst hq
      exact ⟨by have := W.ltc; omega, fun h0 b off e => by have := W.code h0 b off e; omega⟩
  · refine ⟨hG1.os.trans (hg.os.trans h.gro.os), hG1.tape.trans (hg.tape.trans h.gro.tape), hG1.output.trans (hg.output.trans h.gro.output), Nat.le_trans h.gro.size (Nat.le_trans hg.size hG1.size), fun q hq hne => ?_⟩
    exact (hG1.block q (by have := h.gro.size; have := hg.size; omega) (fun e => by simp at e; omega)).trans ((hg.block q (Nat.lt_of_lt_of_le hq h.gro.size) (fun e => by have := hlo q e.symm; omega)).trans (h.gro.block q hq hne))
theorem szS_push (ms : List ND) (f : Nat → Int) : szS ((ms ++ [newM f]).map ND.n) = szS (ms.map ND.n) + 1 := by
  unfold szS
  rw [List.map_append]
  have h1 : ∀ (l : List PN), szL (l ++ [newN f]) = szL l := fun l => by
    induction l with
    | nil => rfl
    | cons x xs ih => show szK x + szL (xs ++ [newN f]) = szK x + szL xs; rw [ih]
  show ((ms.map ND.n) ++ [newN f]).length + szL ((ms.map ND.n) ++ [newN f]) = _
  rw [h1]
  simp
  omega
end
theorem wp_build_nd {o : Oper} {a : Act} {w : World} {K : Act → World → Prop} {Q : Exit → Act → World → Prop} {f : Nat → Int} (x : Operand) (ho : o.op = .build 61 #[(2, x)]) (hx : a.eval x = .agg (sCells f))
    (h : K (a.put o.dst (.agg (nA 0 (.slice none 0 0) f false (.slice none 0 0)))) w) : o.wp Try.prog a w K Q := by
  have e : Try.prog.built 61 ((#[(2, x)] : Array (Nat × Operand)).map fun (i, y) => (i, a.eval y)).toList = some (nA 0 (.slice none 0 0) f false (.slice none 0 0)) := by
    simp only [List.map_toArray, List.map_cons, List.map_nil, hx]
    exact built_nd f
  exact wp_build _ _ ho (by rw [e]; rfl) (by rw [e]; exact h)
set_option maxHeartbeats 8000000 in
theorem l10any_any (cb : Nat) (a : Option Addr) (len cap : Nat) (w : World) (hcb : cb < w.heap.size) (hlt : 0 < len → ∀ b off, a = some ⟨b, off, none⟩ → b < w.heap.size) (hc : Cur cb a len cap w) :
    Calls Try.prog 56 #[.pointer (some ⟨cb, 0, none⟩)] w (AnDrew cb a len cap w) := by
  have WW := Lib.hid (show TDw w cb a len from ⟨hcb, hlt⟩)
  have hr0 := hp_new w (.cells #[.slice none 0 0] 26)
  have c0 := hc.kept hcb (World.grownBy_alloc w (.cells #[.slice none 0 0] 26) none) (fun k hk => by cases hk)
  have g0 := gr_new w (.cells #[.slice none 0 0] 26) cb
  obtain ⟨u, eu⟩ : ∃ u, u = w.alloc (.cells #[.slice none 0 0] 26) := ⟨_, rfl⟩
  rw [← eu] at hr0 c0 g0
  have hus : u.heap.size = w.heap.size + 1 := by rw [eu]; simp
  have EU := Lib.hid eu
  clear eu hc
  go_enter Try.func56, Try.ntmps56
  go_wp2_with (rw [← EU.out])
  refine (l10t_any cb a len cap u (by omega) (fun h b off e => by have := hlt h b off e; omega) c0).mono ?_
  rintro e w1 ⟨va, vc, ms, rfl, ho, hm1, hm2, hsz, c1, g1, hkc⟩
  have T2 : TA w cb a len cap w1.heap.size ms (.slice va ms.length vc) (w1.alloc (.cells #[.slice va ms.length vc] 26)) := by
    have gg : w1.grownBy (w1.alloc (.cells #[.slice va ms.length vc] 26)) (some cb) := World.grownBy_alloc w1 _ _
    have hs1 := g1.size
    refine ⟨hp_new w1 _, by omega, hp_on (blk_kept hr0 g1 (by omega)) _, c1.kept (by omega) (World.grownBy_alloc w1 (.cells #[.slice va ms.length vc] 26) none) (fun k hk => by cases hk), gr_trans g0 (gr_trans g1 gg), ?_, fun e => ?_, fun m hm s e => ?_⟩
    · rw [hus] at ho
      exact ho.below (bel_alloc w1 _)
    · have := (own_lt ho).1 _ e; omega
    · have := (own_lt ho).2 m hm s _ e; omega
  have hgt := g1.size
  obtain ⟨gt, egt⟩ : ∃ q, q = w1.heap.size := ⟨_, rfl⟩
  obtain ⟨w2, e2⟩ : ∃ q, q = w1.alloc (.cells #[.slice va ms.length vc] 26) := ⟨_, rfl⟩
  obtain ⟨g, rfl⟩ := T2.ptr hm1
  rw [← egt, ← e2] at T2
  have E2 := Lib.hid e2
  have EGT := Lib.hid egt
  have T2 := Lib.hid T2
  have HKC := Lib.hid hkc
  clear e2 egt ho c1 g1 c0 g0 hr0 hkc EU
  have ct : ∀ W : World, W.heap[gt]? = some (.cells #[.slice (some ⟨g, 0, none⟩) ms.length vc] 26) → W.cell? ⟨gt, 0, none⟩ = some (.slice (some ⟨g, 0, none⟩) ms.length vc) := fun W h => c_of h
  have zt := ct _ T2.out.here
  (try dsimp only)
  go_wp2_with (rw [← E2.out, ← EGT.out])
  refine (below_pos (ms.length : Int) cb a len cap _ (by omega) (by omega) T2.out.cur).mono ?_
  rintro e w3 ⟨kz, rfl, k0, k1, c3, g3, s3⟩
  have T2 := Lib.hid (T2.out.draw WW.out g3 c3)
  clear c3 g3 s3 zt
  obtain ⟨k, rfl⟩ : ∃ q : Nat, kz = (q : Int) := ⟨kz.toNat, by omega⟩
  have hk : k < ms.length := by omega
  have hkh : (k : Int) < (ms.length : Int) := by omega
  have zt := ct _ T2.out.here
  (try dsimp only)
  go_wp2_with (fail)
  refine (below_pos 14 cb a len cap _ (by omega) (by omega) T2.out.cur).mono ?_
  rintro e wr ⟨x, rfl, x0, x1, c3, g3, s3⟩
  have T2 := Lib.hid (T2.out.draw WW.out g3 c3)
  clear c3 g3 s3 zt
  (try dsimp only)
  by_cases h0 : x = 0
  · subst h0
    go_wp2_with (fail)
    refine wp_region_L (S := fun w' => w'.heap[gt]? = some (.cells #[.slice (some ⟨g, 0, none⟩) ms.length vc] 26)) 7 (by kernel_rfl) ?_
    change wpAnyL _ _ _ _ 7 _ 8 (Array.replicate 8 false) _ _
    have T3 := Lib.hid (T2.out.drew WW.out)
    have HS := T3.out.here
    refine wpAnyL_pure (i := 0) (oi := ⟨some 16, Op.fieldAddr 26 (Operand.tmp 3) 0, _, _, _, _⟩) (v := .pointer (some ⟨gt, 0, none⟩)) rfl (by kernel_rfl) (by kernel_rfl) (by kernel_rfl) (by decide) (fun _ _ _ h => h) (Or.inl ⟨by rfl, fun W hW => by (try dsimp only at hW); go_simp <;> with_reducible rfl⟩) (fun _ => HS) ?_
    simp only [World.size_alloc, Act.put, List.setIfInBounds_toArray, List.set_cons_succ, List.set_cons_zero]
    refine wpAnyL_take (i := 1) (oi := ⟨some 17, Op.load 24 (Operand.tmp 16), _, _, _, _⟩) (v := .slice (some ⟨g, 0, none⟩) ms.length vc) rfl (by kernel_rfl) (by kernel_rfl) (by kernel_rfl) (by kernel_rfl) (by kernel_rfl) (fun _ _ _ h => h) (Or.inl ⟨by rfl, fun W hW => by have c9 := ct W hW; clear hW; go_simp <;> with_reducible rfl⟩) HS ?_
    simp only [World.size_alloc, Act.put, List.setIfInBounds_toArray, List.set_cons_succ, List.set_cons_zero]
    refine wpAnyL_pure (i := 2) (oi := ⟨some 18, Op.move (Operand.tmp 4), _, _, _, _⟩) (v := .int .i64 (k : Int)) rfl (by kernel_rfl) (by kernel_rfl) (by kernel_rfl) (by decide) (fun _ _ _ h => h) (Or.inl ⟨by rfl, fun W hW => by rfl⟩) (fun _ => HS) ?_
    simp only [World.size_alloc, Act.put, List.setIfInBounds_toArray, List.set_cons_succ, List.set_cons_zero]
    refine wpAnyL_pure (i := 3) (oi := ⟨some 19, Op.move (Operand.tmp 0), _, _, _, _⟩) (v := .pointer (some ⟨cb, 0, none⟩)) rfl (by kernel_rfl) (by kernel_rfl) (by kernel_rfl) (by decide) (fun _ _ _ h => h) (Or.inl ⟨by rfl, fun W hW => by rfl⟩) (fun _ => HS) ?_
    simp only [World.size_alloc, Act.put, List.setIfInBounds_toArray, List.set_cons_succ, List.set_cons_zero]
    refine anyL_one 4 rfl (by kernel_rfl) rfl ?_
    go_wp2_with (fail)
    refine (anysty_in cb a len cap _ (T3.out.lt WW.out) (T3.out.code WW.out) T3.out.cur).mono ?_
    rintro e e1 ⟨f, rfl, hfI, c1, g1⟩
    (try dsimp only)
    have T4 := Lib.hid (T3.out.draw WW.out g1 c1)
    clear g1 c1 T3 HS
    have HS := T4.out.here
    first | refine ⟨HS, ?_⟩ | refine ⟨fun _ => HS, ?_⟩
    refine wpAnyL_pure (i := 5) (oi := ⟨some 21, Op.indexAddr 24 (Operand.tmp 17) (Operand.tmp 18), _, _, _, _⟩) (v := .pointer (some ⟨g, k * 64, none⟩)) rfl (by kernel_rfl) (by kernel_rfl) (by kernel_rfl) (by decide) (fun _ _ _ h => h) (Or.inl ⟨by rfl, fun W hW => by (try dsimp only at hW); go_simp <;> with_reducible rfl⟩) (fun _ => HS) ?_
    simp only [World.size_alloc, Act.put, List.setIfInBounds_toArray, List.set_cons_succ, List.set_cons_zero]
    refine wpAnyL_pure (i := 6) (oi := ⟨some 22, Op.fieldAddr 61 (Operand.tmp 21) 2, _, _, _, _⟩) (v := .pointer (some ⟨g, k * 64 + 2, none⟩)) rfl (by kernel_rfl) (by kernel_rfl) (by kernel_rfl) (by decide) (fun _ _ _ h => h) (Or.inl ⟨by rfl, fun W hW => by (try dsimp only at hW); go_simp <;> with_reducible rfl⟩) (fun _ => HS) ?_
    simp only [World.size_alloc, Act.put, List.setIfInBounds_toArray, List.set_cons_succ, List.set_cons_zero]
    refine anyL_one 7 rfl (by kernel_rfl) rfl ?_
    refine wp_store_mid _ _ _ rfl g (k * 64 + 2) (sCells f) rfl rfl (by rw [sCells_size]; exact there_sty T4.out.own hk) (sty_size f) (sCells_one f) ?_
    simp only [World.size_alloc, Act.put, List.setIfInBounds_toArray, List.set_cons_succ, List.set_cons_zero]
    obtain ⟨wF, ewF⟩ : ∃ q, q = e1.setCells g (k * 64 + 2) (sCells f).toList := ⟨_, rfl⟩
    rw [← ewF]
    have T5 := Lib.hid (T4.out.sty hfI WW.out hk ewF)
    clear ewF T4 HS
    first | refine ⟨lastdone (by kernel_rfl), ?_⟩ | refine ⟨fun _ => T5.out.here, ?_⟩ | skip
    refine anyL_done (by kernel_rfl) ?_ _
    obtain ⟨ms2, ems2⟩ : ∃ q, q = ms.set k (ms[k].styled f) := ⟨_, rfl⟩
    have hl2 : ms2.length = ms.length := by rw [ems2]; exact List.length_set
    have hs2 : szS (ms2.map ND.n) ≤ 4000 := by
      rw [ems2, List.map_set]
      refine Nat.le_trans (szS_set _ _ _) ?_
      have h1 := szK_at hk
      show szS (ms.map ND.n) + szK (ms[k].n) ≤ 4000
      omega
    rw [← ems2] at T5
    rw [hl2] at T5
    have HL2 := Lib.hid hl2
    clear ems2 hl2
    have zr := c_of T5.out.res
    have fr := Go.Joins.unfrozen_of_block T5.out.res 0
    have zt := c_of T5.out.here
    (try dsimp only)
    go_wp2_with (fail)
    obtain ⟨u9, eu9⟩ : ∃ q, q = wF.setCell ⟨w.heap.size, 0, none⟩ (.slice (some ⟨g, 0, none⟩) ms.length vc) := ⟨_, rfl⟩
    rw [← eu9]
    obtain ⟨zc, D1, D2, D3⟩ := T5.out.fin WW.out eu9
    rw [← HL2.out] at D1
    refine bodyPost_ret (v := .agg #[.slice (some ⟨g, 0, none⟩) ms.length vc]) (by simp [results, Try.results56, go_sem, zc]) rfl ⟨some ⟨g, 0, none⟩, vc, ms2, (by rw [HL2.out]), D1, by rw [HL2.out]; omega, by rw [HL2.out]; omega, hs2, D2, D3⟩
  by_cases h1 : x = 1
  · subst h1
    go_wp2_with (fail)
    refine wp_region_L (S := fun w' => w'.heap[gt]? = some (.cells #[.slice (some ⟨g, 0, none⟩) ms.length vc] 26)) 8 (by kernel_rfl) ?_
    change wpAnyL _ _ _ _ 8 _ 9 (Array.replicate 9 false) _ _
    have T3 := Lib.hid (T2.out.drew WW.out)
    have HS := T3.out.here
    refine wpAnyL_pure (i := 0) (oi := ⟨some 25, Op.fieldAddr 26 (Operand.tmp 3) 0, _, _, _, _⟩) (v := .pointer (some ⟨gt, 0, none⟩)) rfl (by kernel_rfl) (by kernel_rfl) (by kernel_rfl) (by decide) (fun _ _ _ h => h) (Or.inl ⟨by rfl, fun W hW => by (try dsimp only at hW); go_simp <;> with_reducible rfl⟩) (fun _ => HS) ?_
    simp only [World.size_alloc, Act.put, List.setIfInBounds_toArray, List.set_cons_succ, List.set_cons_zero]
    refine wpAnyL_take (i := 1) (oi := ⟨some 26, Op.load 24 (Operand.tmp 25), _, _, _, _⟩) (v := .slice (some ⟨g, 0, none⟩) ms.length vc) rfl (by kernel_rfl) (by kernel_rfl) (by kernel_rfl) (by kernel_rfl) (by kernel_rfl) (fun _ _ _ h => h) (Or.inl ⟨by rfl, fun W hW => by have c9 := ct W hW; clear hW; go_simp <;> with_reducible rfl⟩) HS ?_
    simp only [World.size_alloc, Act.put, List.setIfInBounds_toArray, List.set_cons_succ, List.set_cons_zero]
    refine wpAnyL_pure (i := 2) (oi := ⟨some 27, Op.move (Operand.tmp 4), _, _, _, _⟩) (v := .int .i64 (k : Int)) rfl (by kernel_rfl) (by kernel_rfl) (by kernel_rfl) (by decide) (fun _ _ _ h => h) (Or.inl ⟨by rfl, fun W hW => by rfl⟩) (fun _ => HS) ?_
    simp only [World.size_alloc, Act.put, List.setIfInBounds_toArray, List.set_cons_succ, List.set_cons_zero]
    refine wpAnyL_pure (i := 3) (oi := ⟨some 28, Op.move (Operand.tmp 0), _, _, _, _⟩) (v := .pointer (some ⟨cb, 0, none⟩)) rfl (by kernel_rfl) (by kernel_rfl) (by kernel_rfl) (by decide) (fun _ _ _ h => h) (Or.inl ⟨by rfl, fun W hW => by rfl⟩) (fun _ => HS) ?_
    simp only [World.size_alloc, Act.put, List.setIfInBounds_toArray, List.set_cons_succ, List.set_cons_zero]
    refine anyL_one 4 rfl (by kernel_rfl) rfl ?_
    go_wp2_with (fail)
    (try dsimp only)
    have HSd := hp_on T3.out.here (.cells (([0, 1, 2, 3, -1, 13] : List Int).map (Value.int .i64)).toArray 3)
    first | refine ⟨HSd, ?_⟩ | refine ⟨fun _ => HSd, ?_⟩
    refine anyL_one 5 rfl (by kernel_rfl) rfl ?_
    go_wp2_with (fail)
    refine (pick_r (-1) 13 (by decide) (by decide) [0, 1, 2, 3, -1, 13] 6 rfl (by omega) (by omega) (by intro z hz; simp at hz; omega) cb a len cap wr.drew (T3.out.lt WW.out) T3.out.cur).mono ?_
    rintro e e1 ⟨y, rfl, y0, y1, c1, g1⟩
    (try dsimp only)
    have T4 := Lib.hid (T3.out.draw WW.out g1 c1)
    clear g1 c1 T3 HS HSd
    have HS := T4.out.here
    first | refine ⟨HS, ?_⟩ | refine ⟨fun _ => HS, ?_⟩
    refine wpAnyL_pure (i := 6) (oi := ⟨some 31, Op.indexAddr 24 (Operand.tmp 26) (Operand.tmp 27), _, _, _, _⟩) (v := .pointer (some ⟨g, k * 64, none⟩)) rfl (by kernel_rfl) (by kernel_rfl) (by kernel_rfl) (by decide) (fun _ _ _ h => h) (Or.inl ⟨by rfl, fun W hW => by (try dsimp only at hW); go_simp <;> with_reducible rfl⟩) (fun _ => HS) ?_
    simp only [World.size_alloc, Act.put, List.setIfInBounds_toArray, List.set_cons_succ, List.set_cons_zero]
    refine wpAnyL_pure (i := 7) (oi := ⟨some 32, Op.fieldAddr 61 (Operand.tmp 31) 0, _, _, _, _⟩) (v := .pointer (some ⟨g, k * 64, none⟩)) rfl (by kernel_rfl) (by kernel_rfl) (by kernel_rfl) (by decide) (fun _ _ _ h => h) (Or.inl ⟨by rfl, fun W hW => by (try dsimp only at hW); go_simp <;> with_reducible rfl⟩) (fun _ => HS) ?_
    simp only [World.size_alloc, Act.put, List.setIfInBounds_toArray, List.set_cons_succ, List.set_cons_zero]
    refine anyL_one 8 rfl (by kernel_rfl) rfl ?_
    obtain ⟨cn, fnn⟩ := T4.out.cellAt hk (j := 0) (by decide)
    have cn' : e1.cell? ⟨g, k * 64, none⟩ = some (.int .i64 ms[k].n.up) := cn.trans nL_up
    have fn' : e1.frozen? ⟨g, k * 64, none⟩ = false := fnn
    go_wp2_with (fail)
    (try dsimp only)
    clear cn cn' fnn fn'
    obtain ⟨wF, ewF⟩ : ∃ q, q = e1.setCell ⟨g, k * 64 + 0, none⟩ (.int .i64 y) := ⟨_, rfl⟩
    (try rw [show k * 64 + 0 = k * 64 from rfl] at ewF)
    rw [← ewF]
    have T5 := Lib.hid (T4.out.up y ⟨by omega, by omega⟩ WW.out hk ewF)
    clear ewF T4 HS
    first | refine ⟨lastdone (by kernel_rfl), ?_⟩ | refine ⟨fun _ => T5.out.here, ?_⟩ | skip
    refine anyL_done (by kernel_rfl) ?_ _
    obtain ⟨ms2, ems2⟩ : ∃ q, q = ms.set k (ms[k].upd y) := ⟨_, rfl⟩
    have hl2 : ms2.length = ms.length := by rw [ems2]; exact List.length_set
    have hs2 : szS (ms2.map ND.n) ≤ 4000 := by
      rw [ems2, List.map_set]
      refine Nat.le_trans (szS_set _ _ _) ?_
      have h1 := szK_at hk
      show szS (ms.map ND.n) + szK (ms[k].n) ≤ 4000
      omega
    rw [← ems2] at T5
    rw [hl2] at T5
    have HL2 := Lib.hid hl2
    clear ems2 hl2
    have zr := c_of T5.out.res
    have fr := Go.Joins.unfrozen_of_block T5.out.res 0
    have zt := c_of T5.out.here
    (try dsimp only)
    go_wp2_with (fail)
    obtain ⟨u9, eu9⟩ : ∃ q, q = wF.setCell ⟨w.heap.size, 0, none⟩ (.slice (some ⟨g, 0, none⟩) ms.length vc) := ⟨_, rfl⟩
    rw [← eu9]
    obtain ⟨zc, D1, D2, D3⟩ := T5.out.fin WW.out eu9
    rw [← HL2.out] at D1
    refine bodyPost_ret (v := .agg #[.slice (some ⟨g, 0, none⟩) ms.length vc]) (by simp [results, Try.results56, go_sem, zc]) rfl ⟨some ⟨g, 0, none⟩, vc, ms2, (by rw [HL2.out]), D1, by rw [HL2.out]; omega, by rw [HL2.out]; omega, hs2, D2, D3⟩
  by_cases h2 : x = 2
  · subst h2
    go_wp2_with (fail)
    have hcc := T2.out.own.2.1 ms[k] (List.getElem_mem hk)
    obtain ⟨ka, kc, ekv, hkr⟩ := hcc.1.2.1
    have hkz : ms[k].n.kids = [] → kc = 0 := fun e => by
      obtain ⟨b, e2⟩ := HKC.out _ (List.getElem_mem hk) e
      rw [e2] at ekv
      simp at ekv
      exact ekv.2.2.symm
    have hkle := szK_at hk
    have hklb : ms[k].n.kids.length ≤ 1000 := by unfold szK at hkle; omega
    obtain ⟨kl, ekl⟩ : ∃ q, q = ms[k].n.kids.length := ⟨_, rfl⟩
    have EKL := Lib.hid ekl
    have EKV := Lib.hid ekv
    have CK := Lib.hid (fun (wz : World) (h : TA w cb a len cap gt ms (.slice (some ⟨g, 0, none⟩) ms.length vc) wz) => (show wz.cell? ⟨g, k * 64 + 1, none⟩ = some (.slice ka kl kc) from by rw [EKL.out, ← EKV.out]; exact (h.cellAt hk (by decide : 1 < 64)).1.trans nL_kids))
    have FK := Lib.hid (fun (wz : World) (h : TA w cb a len cap gt ms (.slice (some ⟨g, 0, none⟩) ms.length vc) wz) => (h.cellAt hk (by decide : 1 < 64)).2)
    clear ekl ekv
    refine wp_region_L (S := fun w' => w'.heap[gt]? = some (.cells #[.slice (some ⟨g, 0, none⟩) ms.length vc] 26) ∧ w'.cell? ⟨g, k * 64 + 1, none⟩ = some (.slice ka kl kc)) 16 (by kernel_rfl) ?_
    change wpAnyL _ _ _ _ 16 _ 17 (Array.replicate 17 false) _ _
    have T3 := Lib.hid (T2.out.drew WW.out)
    have HS := And.intro T3.out.here (CK.out _ T3.out)
    refine wpAnyL_pure (i := 0) (oi := ⟨some 35, Op.fieldAddr 26 (Operand.tmp 3) 0, _, _, _, _⟩) (v := .pointer (some ⟨gt, 0, none⟩)) rfl (by kernel_rfl) (by kernel_rfl) (by kernel_rfl) (by decide) (fun _ _ _ h => h) (Or.inl ⟨by rfl, fun W hW => by (try dsimp only at hW); go_simp <;> with_reducible rfl⟩) (fun _ => HS) ?_
    simp only [World.size_alloc, Act.put, List.setIfInBounds_toArray, List.set_cons_succ, List.set_cons_zero]
    refine wpAnyL_take (i := 1) (oi := ⟨some 36, Op.load 24 (Operand.tmp 35), _, _, _, _⟩) (v := .slice (some ⟨g, 0, none⟩) ms.length vc) rfl (by kernel_rfl) (by kernel_rfl) (by kernel_rfl) (by kernel_rfl) (by kernel_rfl) (fun _ _ _ h => h) (Or.inl ⟨by rfl, fun W hW => by have c9 := ct W hW.1; clear hW; go_simp <;> with_reducible rfl⟩) HS ?_
    simp only [World.size_alloc, Act.put, List.setIfInBounds_toArray, List.set_cons_succ, List.set_cons_zero]
    refine wpAnyL_pure (i := 2) (oi := ⟨some 37, Op.move (Operand.tmp 4), _, _, _, _⟩) (v := .int .i64 (k : Int)) rfl (by kernel_rfl) (by kernel_rfl) (by kernel_rfl) (by decide) (fun _ _ _ h => h) (Or.inl ⟨by rfl, fun W hW => by rfl⟩) (fun _ => HS) ?_
    simp only [World.size_alloc, Act.put, List.setIfInBounds_toArray, List.set_cons_succ, List.set_cons_zero]
    refine wpAnyL_pure (i := 3) (oi := ⟨some 38, Op.fieldAddr 26 (Operand.tmp 3) 0, _, _, _, _⟩) (v := .pointer (some ⟨gt, 0, none⟩)) rfl (by kernel_rfl) (by kernel_rfl) (by kernel_rfl) (by decide) (fun _ _ _ h => h) (Or.inl ⟨by rfl, fun W hW => by (try dsimp only at hW); go_simp <;> with_reducible rfl⟩) (fun _ => HS) ?_
    simp only [World.size_alloc, Act.put, List.setIfInBounds_toArray, List.set_cons_succ, List.set_cons_zero]
    refine wpAnyL_take (i := 4) (oi := ⟨some 39, Op.load 24 (Operand.tmp 38), _, _, _, _⟩) (v := .slice (some ⟨g, 0, none⟩) ms.length vc) rfl (by kernel_rfl) (by kernel_rfl) (by kernel_rfl) (by kernel_rfl) (by kernel_rfl) (fun _ _ _ h => h) (Or.inl ⟨by rfl, fun W hW => by have c9 := ct W hW.1; clear hW; go_simp <;> with_reducible rfl⟩) HS ?_
    simp only [World.size_alloc, Act.put, List.setIfInBounds_toArray, List.set_cons_succ, List.set_cons_zero]
    refine wpAnyL_pure (i := 5) (oi := ⟨some 40, Op.move (Operand.tmp 4), _, _, _, _⟩) (v := .int .i64 (k : Int)) rfl (by kernel_rfl) (by kernel_rfl) (by kernel_rfl) (by decide) (fun _ _ _ h => h) (Or.inl ⟨by rfl, fun W hW => by rfl⟩) (fun _ => HS) ?_
    simp only [World.size_alloc, Act.put, List.setIfInBounds_toArray, List.set_cons_succ, List.set_cons_zero]
    refine wpAnyL_pure (i := 6) (oi := ⟨some 41, Op.indexAddr 24 (Operand.tmp 39) (Operand.tmp 40), _, _, _, _⟩) (v := .pointer (some ⟨g, k * 64, none⟩)) rfl (by kernel_rfl) (by kernel_rfl) (by kernel_rfl) (by decide) (fun _ _ _ h => h) (Or.inl ⟨by rfl, fun W hW => by (try dsimp only at hW); go_simp <;> with_reducible rfl⟩) (fun _ => HS) ?_
    simp only [World.size_alloc, Act.put, List.setIfInBounds_toArray, List.set_cons_succ, List.set_cons_zero]
    refine wpAnyL_pure (i := 7) (oi := ⟨some 42, Op.fieldAddr 61 (Operand.tmp 41) 1, _, _, _, _⟩) (v := .pointer (some ⟨g, k * 64 + 1, none⟩)) rfl (by kernel_rfl) (by kernel_rfl) (by kernel_rfl) (by decide) (fun _ _ _ h => h) (Or.inl ⟨by rfl, fun W hW => by (try dsimp only at hW); go_simp <;> with_reducible rfl⟩) (fun _ => HS) ?_
    simp only [World.size_alloc, Act.put, List.setIfInBounds_toArray, List.set_cons_succ, List.set_cons_zero]
    refine wpAnyL_take (i := 8) (oi := ⟨some 43, Op.load 59 (Operand.tmp 42), _, _, _, _⟩) (v := .slice ka kl kc) rfl (by kernel_rfl) (by kernel_rfl) (by kernel_rfl) (by kernel_rfl) (by kernel_rfl) (fun _ _ _ h => h) (Or.inl ⟨by rfl, fun W hW => by have c9 := hW.2; clear hW; go_simp <;> with_reducible rfl⟩) HS ?_
    simp only [World.size_alloc, Act.put, List.setIfInBounds_toArray, List.set_cons_succ, List.set_cons_zero]
    refine wpAnyL_pure (i := 9) (oi := ⟨some 44, Op.move (Operand.tmp 0), _, _, _, _⟩) (v := .pointer (some ⟨cb, 0, none⟩)) rfl (by kernel_rfl) (by kernel_rfl) (by kernel_rfl) (by decide) (fun _ _ _ h => h) (Or.inl ⟨by rfl, fun W hW => by rfl⟩) (fun _ => HS) ?_
    simp only [World.size_alloc, Act.put, List.setIfInBounds_toArray, List.set_cons_succ, List.set_cons_zero]
    refine anyL_one 10 rfl (by kernel_rfl) rfl ?_
    go_wp2_with (fail)
    (try dsimp only)
    have HSd := And.intro (hp_on T3.out.here (.cells (([0, 1, 2, -1, 13] : List Int).map (Value.int .i64)).toArray 3)) (CK.out _ (T3.out.below WW.out (bel_alloc _ (.cells (([0, 1, 2, -1, 13] : List Int).map (Value.int .i64)).toArray 3))))
    first | refine ⟨HSd, ?_⟩ | refine ⟨fun _ => HSd, ?_⟩
    refine anyL_one 11 rfl (by kernel_rfl) rfl ?_
    go_wp2_with (fail)
    refine (pick_r (-1) 13 (by decide) (by decide) [0, 1, 2, -1, 13] 5 rfl (by omega) (by omega) (by intro z hz; simp at hz; omega) cb a len cap wr.drew (T3.out.lt WW.out) T3.out.cur).mono ?_
    rintro e e1 ⟨y, rfl, y0, y1, c1, g1⟩
    (try dsimp only)
    have T4 := Lib.hid (T3.out.draw WW.out g1 c1)
    clear g1 c1 T3 HS HSd
    have HS := And.intro T4.out.here (CK.out _ T4.out)
    first | refine ⟨HS, ?_⟩ | refine ⟨fun _ => HS, ?_⟩
    refine anyL_one 12 rfl (by kernel_rfl) rfl ?_
    go_wp2_with (fail)
    (try dsimp only)
    obtain ⟨e2, ee2⟩ : ∃ q, q = e1.alloc (.cells #[.int .i64 y] 3) := ⟨_, rfl⟩
    obtain ⟨q2, eq2⟩ : ∃ q, q = e1.heap.size := ⟨_, rfl⟩
    have hq : e2.heap[q2]? = some (.cells #[.int .i64 y] 3) := by rw [ee2, eq2]; exact hp_new e1 _
    have bX : Below e1.heap.size e1 e2 := by rw [ee2]; exact bel_alloc e1 _
    have T4b := Lib.hid (T4.out.below WW.out bX)
    rw [← eq2, ← ee2]
    clear ee2 eq2 bX T4 HS
    have HS := And.intro T4b.out.here (CK.out _ T4b.out)
    first | refine ⟨HS, ?_⟩ | refine ⟨fun _ => HS, ?_⟩
    refine anyL_one 13 rfl (by kernel_rfl) rfl ?_
    have hn := World.news_of_block hq
    have hkr2 : kl = kl := rfl
    have hcc2 := T4b.out.own.2.1 ms[k] (List.getElem_mem hk)
    obtain ⟨ka2, kc2, ekv2, hkr3⟩ := hcc2.1.2.1
    have ekk : ka = ka2 ∧ kc = kc2 := by have h1 := EKV.out; rw [h1] at ekv2; simpa using ekv2
    obtain ⟨rfl, rfl⟩ := ekk
    clear ekv2
    rw [EKV.out] at hkr3
    refine wp_append_kid _ _ rfl (w.heap.size + 1) ka kc ms[k].n.kids (by rw [← EKL.out]; rfl) hkr3 hkz ⟨q2, 0, none⟩ 1 y rfl hn (by omega) (by have h1 := (T4b.out.lt WW.out); have h2 := T4b.out.gro.size; have h3 := hp_lt T4b.out.res; omega) ?_
    intro v3 e3 hr3 hg3 hb3
    have hbk : blk (.slice ka ms[k].n.kids.length kc) ms[k].n.kids.length = ms[k].comp true := by unfold ND.comp; rw [if_pos rfl, EKV.out]
    rw [hbk] at hg3 hb3
    obtain ⟨a3, c3, rfl⟩ := own_form hr3
    simp only [World.size_alloc, Act.put, List.setIfInBounds_toArray, List.set_cons_succ, List.set_cons_zero]
    have cgt : e3.heap[gt]? = some (.cells #[.slice (some ⟨g, 0, none⟩) ms.length vc] 26) := (hg3.block gt (hp_lt T4b.out.here) (fun e => T4b.out.apc _ (List.getElem_mem hk) true e.symm)).trans T4b.out.here
    have hgr := World.ownsRow.lt T4b.out.own.1 g rfl
    have hgne : some g ≠ ms[k].comp true := fun e => hcc2.2 true g e.symm rfl
    have ck3 : e3.cell? ⟨g, k * 64 + 1, none⟩ = some (.slice ka kl kc) := (World.cell?_of_block (hg3.block g hgr.2 hgne)).trans (CK.out _ T4b.out)
    have fk3 : e3.frozen? ⟨g, k * 64 + 1, none⟩ = false := (World.frozen?_of_block (hg3.block g hgr.2 hgne)).trans (FK.out _ T4b.out)
    clear HS
    have HS := And.intro cgt ck3
    first | refine ⟨HS, ?_⟩ | refine ⟨fun _ => HS, ?_⟩
    refine wpAnyL_pure (i := 14) (oi := ⟨some 49, Op.indexAddr 24 (Operand.tmp 36) (Operand.tmp 37), _, _, _, _⟩) (v := .pointer (some ⟨g, k * 64, none⟩)) rfl (by kernel_rfl) (by kernel_rfl) (by kernel_rfl) (by decide) (fun _ _ _ h => h) (Or.inl ⟨by rfl, fun W hW => by (try dsimp only at hW); go_simp <;> with_reducible rfl⟩) (fun _ => HS) ?_
    simp only [World.size_alloc, Act.put, List.setIfInBounds_toArray, List.set_cons_succ, List.set_cons_zero]
    refine wpAnyL_pure (i := 15) (oi := ⟨some 50, Op.fieldAddr 61 (Operand.tmp 49) 1, _, _, _, _⟩) (v := .pointer (some ⟨g, k * 64 + 1, none⟩)) rfl (by kernel_rfl) (by kernel_rfl) (by kernel_rfl) (by decide) (fun _ _ _ h => h) (Or.inl ⟨by rfl, fun W hW => by (try dsimp only at hW); go_simp <;> with_reducible rfl⟩) (fun _ => HS) ?_
    simp only [World.size_alloc, Act.put, List.setIfInBounds_toArray, List.set_cons_succ, List.set_cons_zero]
    refine anyL_one 16 rfl (by kernel_rfl) rfl ?_
    go_wp2_with (fail)
    (try dsimp only)
    clear ck3 fk3
    have T4 := T4b
    obtain ⟨wF, ewF⟩ : ∃ q, q = e3.setCell ⟨g, k * 64 + 1, none⟩ (.slice a3 (ms[k].n.kids.length + 1) c3) := ⟨_, rfl⟩
    rw [← ewF]
    have T5 := Lib.hid (T4b.out.kid ⟨by omega, by omega⟩ WW.out hk hr3 hg3 hb3 (show wF = e3.setCell ⟨g, k * 64 + 1, none⟩ (.slice a3 (ms[k].n.kids ++ [y]).length c3) from by rw [List.length_append]; exact ewF))
    clear ewF T4 HS
    first | refine ⟨lastdone (by kernel_rfl), ?_⟩ | refine ⟨fun _ => T5.out.here, ?_⟩ | skip
    refine anyL_done (by kernel_rfl) ?_ _
    obtain ⟨ms2, ems2⟩ : ∃ q, q = ms.set k (ms[k].kidd (ms[k].n.kids ++ [y]) (.slice a3 (ms[k].n.kids ++ [y]).length c3)) := ⟨_, rfl⟩
    have hl2 : ms2.length = ms.length := by rw [ems2]; exact List.length_set
    have hs2 : szS (ms2.map ND.n) ≤ 4000 := by
      rw [ems2, List.map_set]
      refine Nat.le_trans (szS_set _ _ _) ?_
      have h1 := szK_at hk
      have h2 : szK (ms[k].kidd (ms[k].n.kids ++ [y]) (.slice a3 (ms[k].n.kids ++ [y]).length c3)).n = szK ms[k].n + 1 := by show (ms[k].n.kids ++ [y]).length + ms[k].n.rl = ms[k].n.kids.length + ms[k].n.rl + 1; simp; omega
      omega
    rw [← ems2] at T5
    rw [hl2] at T5
    have HL2 := Lib.hid hl2
    clear ems2 hl2
    have zr := c_of T5.out.res
    have fr := Go.Joins.unfrozen_of_block T5.out.res 0
    have zt := c_of T5.out.here
    (try dsimp only)
    go_wp2_with (fail)
    obtain ⟨u9, eu9⟩ : ∃ q, q = wF.setCell ⟨w.heap.size, 0, none⟩ (.slice (some ⟨g, 0, none⟩) ms.length vc) := ⟨_, rfl⟩
    rw [← eu9]
    obtain ⟨zc, D1, D2, D3⟩ := T5.out.fin WW.out eu9
    rw [← HL2.out] at D1
    refine bodyPost_ret (v := .agg #[.slice (some ⟨g, 0, none⟩) ms.length vc]) (by simp [results, Try.results56, go_sem, zc]) rfl ⟨some ⟨g, 0, none⟩, vc, ms2, (by rw [HL2.out]), D1, by rw [HL2.out]; omega, by rw [HL2.out]; omega, hs2, D2, D3⟩
  by_cases h3 : x = 3
  · subst h3
    go_wp2_with (fail)
    obtain ⟨mb, emb⟩ : ∃ q, q = ms[k].n.meas := ⟨_, rfl⟩
    have EMB := Lib.hid emb
    clear emb
    have CK := Lib.hid (fun (wz : World) (h : TA w cb a len cap gt ms (.slice (some ⟨g, 0, none⟩) ms.length vc) wz) => (show wz.cell? ⟨g, k * 64 + 62, none⟩ = some (.bool mb) from by rw [EMB.out]; exact (h.cellAt hk (by decide : 62 < 64)).1.trans nL_meas))
    have FK := Lib.hid (fun (wz : World) (h : TA w cb a len cap gt ms (.slice (some ⟨g, 0, none⟩) ms.length vc) wz) => (h.cellAt hk (by decide : 62 < 64)).2)
    refine wp_region_L (S := fun w' => w'.heap[gt]? = some (.cells #[.slice (some ⟨g, 0, none⟩) ms.length vc] 26) ∧ w'.cell? ⟨g, k * 64 + 62, none⟩ = some (.bool mb)) 12 (by kernel_rfl) ?_
    change wpAnyL _ _ _ _ 12 _ 13 (Array.replicate 13 false) _ _
    have T3 := Lib.hid (T2.out.drew WW.out)
    have HS := And.intro T3.out.here (CK.out _ T3.out)
    refine wpAnyL_pure (i := 0) (oi := ⟨some 53, Op.fieldAddr 26 (Operand.tmp 3) 0, _, _, _, _⟩) (v := .pointer (some ⟨gt, 0, none⟩)) rfl (by kernel_rfl) (by kernel_rfl) (by kernel_rfl) (by decide) (fun _ _ _ h => h) (Or.inl ⟨by rfl, fun W hW => by (try dsimp only at hW); go_simp <;> with_reducible rfl⟩) (fun _ => HS) ?_
    simp only [World.size_alloc, Act.put, List.setIfInBounds_toArray, List.set_cons_succ, List.set_cons_zero]
    refine wpAnyL_take (i := 1) (oi := ⟨some 54, Op.load 24 (Operand.tmp 53), _, _, _, _⟩) (v := .slice (some ⟨g, 0, none⟩) ms.length vc) rfl (by kernel_rfl) (by kernel_rfl) (by kernel_rfl) (by kernel_rfl) (by kernel_rfl) (fun _ _ _ h => h) (Or.inl ⟨by rfl, fun W hW => by have c9 := ct W hW.1; clear hW; go_simp <;> with_reducible rfl⟩) HS ?_
    simp only [World.size_alloc, Act.put, List.setIfInBounds_toArray, List.set_cons_succ, List.set_cons_zero]
    refine wpAnyL_pure (i := 2) (oi := ⟨some 55, Op.move (Operand.tmp 4), _, _, _, _⟩) (v := .int .i64 (k : Int)) rfl (by kernel_rfl) (by kernel_rfl) (by kernel_rfl) (by decide) (fun _ _ _ h => h) (Or.inl ⟨by rfl, fun W hW => by rfl⟩) (fun _ => HS) ?_
    simp only [World.size_alloc, Act.put, List.setIfInBounds_toArray, List.set_cons_succ, List.set_cons_zero]
    refine wpAnyL_pure (i := 3) (oi := ⟨some 56, Op.fieldAddr 26 (Operand.tmp 3) 0, _, _, _, _⟩) (v := .pointer (some ⟨gt, 0, none⟩)) rfl (by kernel_rfl) (by kernel_rfl) (by kernel_rfl) (by decide) (fun _ _ _ h => h) (Or.inl ⟨by rfl, fun W hW => by (try dsimp only at hW); go_simp <;> with_reducible rfl⟩) (fun _ => HS) ?_
    simp only [World.size_alloc, Act.put, List.setIfInBounds_toArray, List.set_cons_succ, List.set_cons_zero]
    refine wpAnyL_take (i := 4) (oi := ⟨some 57, Op.load 24 (Operand.tmp 56), _, _, _, _⟩) (v := .slice (some ⟨g, 0, none⟩) ms.length vc) rfl (by kernel_rfl) (by kernel_rfl) (by kernel_rfl) (by kernel_rfl) (by kernel_rfl) (fun _ _ _ h => h) (Or.inl ⟨by rfl, fun W hW => by have c9 := ct W hW.1; clear hW; go_simp <;> with_reducible rfl⟩) HS ?_
    simp only [World.size_alloc, Act.put, List.setIfInBounds_toArray, List.set_cons_succ, List.set_cons_zero]
    refine wpAnyL_pure (i := 5) (oi := ⟨some 58, Op.move (Operand.tmp 4), _, _, _, _⟩) (v := .int .i64 (k : Int)) rfl (by kernel_rfl) (by kernel_rfl) (by kernel_rfl) (by decide) (fun _ _ _ h => h) (Or.inl ⟨by rfl, fun W hW => by rfl⟩) (fun _ => HS) ?_
    simp only [World.size_alloc, Act.put, List.setIfInBounds_toArray, List.set_cons_succ, List.set_cons_zero]
    refine wpAnyL_pure (i := 6) (oi := ⟨some 59, Op.indexAddr 24 (Operand.tmp 57) (Operand.tmp 58), _, _, _, _⟩) (v := .pointer (some ⟨g, k * 64, none⟩)) rfl (by kernel_rfl) (by kernel_rfl) (by kernel_rfl) (by decide) (fun _ _ _ h => h) (Or.inl ⟨by rfl, fun W hW => by (try dsimp only at hW); go_simp <;> with_reducible rfl⟩) (fun _ => HS) ?_
    simp only [World.size_alloc, Act.put, List.setIfInBounds_toArray, List.set_cons_succ, List.set_cons_zero]
    refine wpAnyL_pure (i := 7) (oi := ⟨some 60, Op.fieldAddr 61 (Operand.tmp 59) 3, _, _, _, _⟩) (v := .pointer (some ⟨g, k * 64 + 62, none⟩)) rfl (by kernel_rfl) (by kernel_rfl) (by kernel_rfl) (by decide) (fun _ _ _ h => h) (Or.inl ⟨by rfl, fun W hW => by (try dsimp only at hW); go_simp <;> with_reducible rfl⟩) (fun _ => HS) ?_
    simp only [World.size_alloc, Act.put, List.setIfInBounds_toArray, List.set_cons_succ, List.set_cons_zero]
    refine wpAnyL_take (i := 8) (oi := ⟨some 61, Op.load 4 (Operand.tmp 60), _, _, _, _⟩) (v := .bool mb) rfl (by kernel_rfl) (by kernel_rfl) (by kernel_rfl) (by kernel_rfl) (by kernel_rfl) (fun _ _ _ h => h) (Or.inl ⟨by rfl, fun W hW => by have c9 := hW.2; clear hW; go_simp <;> with_reducible rfl⟩) HS ?_
    simp only [World.size_alloc, Act.put, List.setIfInBounds_toArray, List.set_cons_succ, List.set_cons_zero]
    refine wpAnyL_pure (i := 9) (oi := ⟨some 62, Op.unOp UnOp.not 4 (Operand.tmp 61), _, _, _, _⟩) (v := .bool (!mb)) rfl (by kernel_rfl) (by kernel_rfl) (by kernel_rfl) (by decide) (fun _ _ _ h => h) (Or.inl ⟨by rfl, fun W hW => by (try dsimp only at hW); go_simp <;> with_reducible rfl⟩) (fun _ => HS) ?_
    simp only [World.size_alloc, Act.put, List.setIfInBounds_toArray, List.set_cons_succ, List.set_cons_zero]
    refine wpAnyL_pure (i := 10) (oi := ⟨some 63, Op.indexAddr 24 (Operand.tmp 54) (Operand.tmp 55), _, _, _, _⟩) (v := .pointer (some ⟨g, k * 64, none⟩)) rfl (by kernel_rfl) (by kernel_rfl) (by kernel_rfl) (by decide) (fun _ _ _ h => h) (Or.inl ⟨by rfl, fun W hW => by (try dsimp only at hW); go_simp <;> with_reducible rfl⟩) (fun _ => HS) ?_
    simp only [World.size_alloc, Act.put, List.setIfInBounds_toArray, List.set_cons_succ, List.set_cons_zero]
    refine wpAnyL_pure (i := 11) (oi := ⟨some 64, Op.fieldAddr 61 (Operand.tmp 63) 3, _, _, _, _⟩) (v := .pointer (some ⟨g, k * 64 + 62, none⟩)) rfl (by kernel_rfl) (by kernel_rfl) (by kernel_rfl) (by decide) (fun _ _ _ h => h) (Or.inl ⟨by rfl, fun W hW => by (try dsimp only at hW); go_simp <;> with_reducible rfl⟩) (fun _ => HS) ?_
    simp only [World.size_alloc, Act.put, List.setIfInBounds_toArray, List.set_cons_succ, List.set_cons_zero]
    refine anyL_one 12 rfl (by kernel_rfl) rfl ?_
    have T4 := T3
    have cn := CK.out _ T4.out
    have fnn := FK.out _ T4.out
    go_wp2_with (fail)
    (try dsimp only)
    clear cn fnn
    rw [show (wr.setCell ⟨g, k * 64 + 62, none⟩ (.bool !mb)).drew = wr.drew.setCell ⟨g, k * 64 + 62, none⟩ (.bool !mb) from rfl]
    obtain ⟨wF, ewF⟩ : ∃ q, q = wr.drew.setCell ⟨g, k * 64 + 62, none⟩ (.bool (!mb)) := ⟨_, rfl⟩
    rw [← ewF]
    have T5 := Lib.hid (T4.out.meas (!mb) WW.out hk ewF)
    clear ewF T4 HS
    first | refine ⟨lastdone (by kernel_rfl), ?_⟩ | refine ⟨fun _ => T5.out.here, ?_⟩ | skip
    refine anyL_done (by kernel_rfl) ?_ _
    obtain ⟨ms2, ems2⟩ : ∃ q, q = ms.set k (ms[k].measd (!mb)) := ⟨_, rfl⟩
    have hl2 : ms2.length = ms.length := by rw [ems2]; exact List.length_set
    have hs2 : szS (ms2.map ND.n) ≤ 4000 := by
      rw [ems2, List.map_set]
      refine Nat.le_trans (szS_set _ _ _) ?_
      have h1 := szK_at hk
      show szS (ms.map ND.n) + szK (ms[k].n) ≤ 4000
      omega
    rw [← ems2] at T5
    rw [hl2] at T5
    have HL2 := Lib.hid hl2
    clear ems2 hl2
    have zr := c_of T5.out.res
    have fr := Go.Joins.unfrozen_of_block T5.out.res 0
    have zt := c_of T5.out.here
    (try dsimp only)
    go_wp2_with (fail)
    obtain ⟨u9, eu9⟩ : ∃ q, q = wF.setCell ⟨w.heap.size, 0, none⟩ (.slice (some ⟨g, 0, none⟩) ms.length vc) := ⟨_, rfl⟩
    rw [← eu9]
    obtain ⟨zc, D1, D2, D3⟩ := T5.out.fin WW.out eu9
    rw [← HL2.out] at D1
    refine bodyPost_ret (v := .agg #[.slice (some ⟨g, 0, none⟩) ms.length vc]) (by simp [results, Try.results56, go_sem, zc]) rfl ⟨some ⟨g, 0, none⟩, vc, ms2, (by rw [HL2.out]), D1, by rw [HL2.out]; omega, by rw [HL2.out]; omega, hs2, D2, D3⟩
  by_cases h4 : x = 4
  · subst h4
    go_wp2_with (fail)
    refine wp_region_L (S := fun w' => w'.heap[gt]? = some (.cells #[.slice (some ⟨g, 0, none⟩) ms.length vc] 26)) 7 (by kernel_rfl) ?_
    change wpAnyL _ _ _ _ 7 _ 8 (Array.replicate 8 false) _ _
    have T3 := Lib.hid (T2.out.drew WW.out)
    have HS := T3.out.here
    refine wpAnyL_pure (i := 0) (oi := ⟨some 67, Op.fieldAddr 26 (Operand.tmp 3) 0, _, _, _, _⟩) (v := .pointer (some ⟨gt, 0, none⟩)) rfl (by kernel_rfl) (by kernel_rfl) (by kernel_rfl) (by decide) (fun _ _ _ h => h) (Or.inl ⟨by rfl, fun W hW => by (try dsimp only at hW); go_simp <;> with_reducible rfl⟩) (fun _ => HS) ?_
    simp only [World.size_alloc, Act.put, List.setIfInBounds_toArray, List.set_cons_succ, List.set_cons_zero]
    refine wpAnyL_take (i := 1) (oi := ⟨some 68, Op.load 24 (Operand.tmp 67), _, _, _, _⟩) (v := .slice (some ⟨g, 0, none⟩) ms.length vc) rfl (by kernel_rfl) (by kernel_rfl) (by kernel_rfl) (by kernel_rfl) (by kernel_rfl) (fun _ _ _ h => h) (Or.inl ⟨by rfl, fun W hW => by have c9 := ct W hW; clear hW; go_simp <;> with_reducible rfl⟩) HS ?_
    simp only [World.size_alloc, Act.put, List.setIfInBounds_toArray, List.set_cons_succ, List.set_cons_zero]
    refine wpAnyL_pure (i := 2) (oi := ⟨some 69, Op.move (Operand.tmp 4), _, _, _, _⟩) (v := .int .i64 (k : Int)) rfl (by kernel_rfl) (by kernel_rfl) (by kernel_rfl) (by decide) (fun _ _ _ h => h) (Or.inl ⟨by rfl, fun W hW => by rfl⟩) (fun _ => HS) ?_
    simp only [World.size_alloc, Act.put, List.setIfInBounds_toArray, List.set_cons_succ, List.set_cons_zero]
    refine wpAnyL_pure (i := 3) (oi := ⟨some 70, Op.move (Operand.tmp 0), _, _, _, _⟩) (v := .pointer (some ⟨cb, 0, none⟩)) rfl (by kernel_rfl) (by kernel_rfl) (by kernel_rfl) (by decide) (fun _ _ _ h => h) (Or.inl ⟨by rfl, fun W hW => by rfl⟩) (fun _ => HS) ?_
    simp only [World.size_alloc, Act.put, List.setIfInBounds_toArray, List.set_cons_succ, List.set_cons_zero]
    refine anyL_one 4 rfl (by kernel_rfl) rfl ?_
    go_wp2_with (fail)
    have hn1 := (own_lt T3.out.own)
    have hgl := (World.ownsRow.lt T3.out.own.1 g rfl).2
    have hgtl := hp_lt T3.out.here
    have hrl := hp_lt T3.out.res
    refine (l09a_any cb a len cap _ (T3.out.lt WW.out) (T3.out.code WW.out) T3.out.cur).mono ?_
    rintro e e1 ⟨b1, rl, bc1, zs, rfl, hr1, hzA, hRR, c1, g1⟩
    (try dsimp only)
    have hlz : zs.length = rl * 3 := by have := hRR.1; simpa using this
    have hTR : TRow wr.drew.heap.size (.slice (some ⟨b1, 0, none⟩) rl bc1) rl zs e1 := ⟨_, _, rfl, Or.inr hRR⟩
    have T4 := Lib.hid (T3.out.draw WW.out g1 c1)
    clear g1 c1 HS
    have HS := T4.out.here
    first | refine ⟨HS, ?_⟩ | refine ⟨fun _ => HS, ?_⟩
    refine wpAnyL_pure (i := 5) (oi := ⟨some 72, Op.indexAddr 24 (Operand.tmp 68) (Operand.tmp 69), _, _, _, _⟩) (v := .pointer (some ⟨g, k * 64, none⟩)) rfl (by kernel_rfl) (by kernel_rfl) (by kernel_rfl) (by decide) (fun _ _ _ h => h) (Or.inl ⟨by rfl, fun W hW => by (try dsimp only at hW); go_simp <;> with_reducible rfl⟩) (fun _ => HS) ?_
    simp only [World.size_alloc, Act.put, List.setIfInBounds_toArray, List.set_cons_succ, List.set_cons_zero]
    refine wpAnyL_pure (i := 6) (oi := ⟨some 73, Op.fieldAddr 61 (Operand.tmp 72) 4, _, _, _, _⟩) (v := .pointer (some ⟨g, k * 64 + 63, none⟩)) rfl (by kernel_rfl) (by kernel_rfl) (by kernel_rfl) (by decide) (fun _ _ _ h => h) (Or.inl ⟨by rfl, fun W hW => by (try dsimp only at hW); go_simp <;> with_reducible rfl⟩) (fun _ => HS) ?_
    simp only [World.size_alloc, Act.put, List.setIfInBounds_toArray, List.set_cons_succ, List.set_cons_zero]
    refine anyL_one 7 rfl (by kernel_rfl) rfl ?_
    obtain ⟨cn, fnn⟩ := T4.out.cellAt hk (j := 63) (by decide)
    have cn' : e1.cell? ⟨g, k * 64 + 63, none⟩ = some ms[k].tv := cn.trans nL_tab
    obtain ⟨ta, tc, etv, _⟩ := (T4.out.own.2.1 ms[k] (List.getElem_mem hk)).1.2.2
    rw [etv] at cn'
    go_wp2_with (fail)
    (try dsimp only)
    clear cn cn' fnn
    obtain ⟨wF, ewF⟩ : ∃ q, q = e1.setCell ⟨g, k * 64 + 63, none⟩ (.slice (some ⟨b1, 0, none⟩) rl bc1) := ⟨_, rfl⟩
    rw [← ewF]
    have T5 := Lib.hid (T4.out.tab WW.out hk hTR hzA hlz hgl hgtl hrl (fun mj hj t b hb => hn1.2 mj hj t b hb) ewF)
    clear ewF T4 HS
    first | refine ⟨lastdone (by kernel_rfl), ?_⟩ | refine ⟨fun _ => T5.out.here, ?_⟩ | skip
    refine anyL_done (by kernel_rfl) ?_ _
    obtain ⟨ms2, ems2⟩ : ∃ q, q = ms.set k (ms[k].tabd rl zs (.slice (some ⟨b1, 0, none⟩) rl bc1)) := ⟨_, rfl⟩
    have hl2 : ms2.length = ms.length := by rw [ems2]; exact List.length_set
    have hs2 : szS (ms2.map ND.n) ≤ 4000 := by
      rw [ems2, List.map_set]
      refine Nat.le_trans (szS_set _ _ _) ?_
      have h1 := szK_at hk
      have h2 : szK (ms[k].tabd rl zs (.slice (some ⟨b1, 0, none⟩) rl bc1)).n ≤ szK ms[k].n + 7 := by show ms[k].n.kids.length + rl ≤ ms[k].n.kids.length + ms[k].n.rl + 7; omega
      omega
    rw [← ems2] at T5
    rw [hl2] at T5
    have HL2 := Lib.hid hl2
    clear ems2 hl2
    have zr := c_of T5.out.res
    have fr := Go.Joins.unfrozen_of_block T5.out.res 0
    have zt := c_of T5.out.here
    (try dsimp only)
    go_wp2_with (fail)
    obtain ⟨u9, eu9⟩ : ∃ q, q = wF.setCell ⟨w.heap.size, 0, none⟩ (.slice (some ⟨g, 0, none⟩) ms.length vc) := ⟨_, rfl⟩
    rw [← eu9]
    obtain ⟨zc, D1, D2, D3⟩ := T5.out.fin WW.out eu9
    rw [← HL2.out] at D1
    refine bodyPost_ret (v := .agg #[.slice (some ⟨g, 0, none⟩) ms.length vc]) (by simp [results, Try.results56, go_sem, zc]) rfl ⟨some ⟨g, 0, none⟩, vc, ms2, (by rw [HL2.out]), D1, by rw [HL2.out]; omega, by rw [HL2.out]; omega, hs2, D2, D3⟩
  by_cases h5 : x = 5
  · subst h5
    go_wp2_with (fail)
    have HSZ := Lib.hid hsz
    clear hk hkh
    go_loopw [76] (fun _ wr => ∃ (va : Option Addr) (vc : Nat) (ms : List ND), TA w cb a len cap gt ms (.slice va ms.length vc) wr ∧ 1 ≤ ms.length ∧ ms.length ≤ 13 ∧ szS (ms.map ND.n) ≤ 1000 + ms.length) (fun _ wr => 14 - lenAt wr gt)
    case atStart => exact ⟨_, vc, ms, T2.out, by omega, by omega, by omega⟩
    case round =>
      clear T2 HKC HSZ hm1 hm2 hsz ct hgt E2 EGT h0 h1 h2 h3 h4 x0 x1 k0 k1
      obtain ⟨va, vc, ms, hA, hB⟩ := hrel
      have AR := Lib.hid hA
      have HB := Lib.hid hB
      clear hA hB
      have cT := c_of AR.out.here
      have hlen := lenAt_of cT
      have ARD := Lib.hid (AR.out.drew WW.out)
      have hcd : cb < wr.drew.heap.size := ARD.out.lt WW.out
      go_wp2_with (fail)
      go_region_held3 (fun w' => w'.cell? ⟨gt, 0, none⟩ = some (.slice va ms.length vc))
        (first | exact c_of ARD.out.here | exact c_of A3.out.here)
        (first
          | (go_at_call 102; refine (below_pos 2 cb a len cap wr.drew (by omega) (by omega) ARD.out.cur).mono ?_; rintro e w3 ⟨y, rfl, y0, y1, c3, g3, s3⟩; have A3 := Lib.hid (ARD.out.draw WW.out g3 c3); have hw6 : IntKind.i64.wrap (12 + y) = 12 + y := IntWalk.i64_in _ (by omega); clear s3)
          | fail)
      clear cT ARD hcd c3 g3
      by_cases hlt : (ms.length : Int) < 12 + y
      · have cT := c_of A3.out.here
        go_wp2_with (fail)
        have T2 := A3
        obtain ⟨i0, hi0, hz0, hz1, hz2⟩ := info_parts info_node
        refine wp_region_L (S := fun w' => w'.heap[gt]? = some (.cells #[.slice va ms.length vc] 26)) 7 (by kernel_rfl) ?_
        change wpAnyL _ _ _ _ 7 _ 8 (Array.replicate 8 false) _ _
        have T3 := Lib.hid (T2.out.drew WW.out)
        have HS := T3.out.here
        refine wpAnyL_pure (i := 0) (oi := ⟨some 83, Op.fieldAddr 26 (Operand.tmp 3) 0, _, _, _, _⟩) (v := .pointer (some ⟨gt, 0, none⟩)) rfl (by kernel_rfl) (by kernel_rfl) (by kernel_rfl) (by decide) (fun _ _ _ h => h) (Or.inl ⟨by rfl, fun W hW => by (try dsimp only at hW); go_simp <;> with_reducible rfl⟩) (fun _ => HS) ?_
        simp only [World.size_alloc, Act.put, List.setIfInBounds_toArray, List.set_cons_succ, List.set_cons_zero]
        refine wpAnyL_take (i := 1) (oi := ⟨some 84, Op.load 24 (Operand.tmp 83), _, _, _, _⟩) (v := .slice va ms.length vc) rfl (by kernel_rfl) (by kernel_rfl) (by kernel_rfl) (by kernel_rfl) (by kernel_rfl) (fun _ _ _ h => h) (Or.inl ⟨by rfl, fun W hW => by have c9 := (c_of hW : W.cell? ⟨gt, 0, none⟩ = some (.slice va ms.length vc)); clear hW; go_simp <;> with_reducible rfl⟩) HS ?_
        simp only [World.size_alloc, Act.put, List.setIfInBounds_toArray, List.set_cons_succ, List.set_cons_zero]
        refine anyL_one 2 rfl (by kernel_rfl) rfl ?_
        go_wp2_with (fail)
        refine (snew _).mono ?_
        rintro e e1 ⟨rfl, b1⟩
        (try dsimp only)
        have T4 := Lib.hid (T3.out.below WW.out b1)
        clear b1 T3 HS
        have HS := T4.out.here
        first | refine ⟨HS, ?_⟩ | refine ⟨fun _ => HS, ?_⟩
        refine anyL_one 3 rfl (by kernel_rfl) rfl ?_
        refine wp_build_nd (Operand.tmp 85) rfl rfl ?_
        simp only [World.size_alloc, Act.put, List.setIfInBounds_toArray, List.set_cons_succ, List.set_cons_zero]
        first | refine ⟨HS, ?_⟩ | refine ⟨fun _ => HS, ?_⟩
        refine anyL_one 4 rfl (by kernel_rfl) rfl ?_
        refine wp_bs_nd (Operand.tmp 86) rfl rfl (nA_size ..) ?_
        simp only [World.size_alloc, Act.put, List.setIfInBounds_toArray, List.set_cons_succ, List.set_cons_zero]
        obtain ⟨e2, ee2⟩ : ∃ q, q = e1.alloc (.cells (nA 0 (.slice none 0 0) newF false (.slice none 0 0)) 61) := ⟨_, rfl⟩
        obtain ⟨q2, eq2⟩ : ∃ q, q = e1.heap.size := ⟨_, rfl⟩
        have hn4 : ∀ j u, (newM newF).cells[j]? = some u → e2.cell? ((⟨q2, 0, none⟩ : Addr).add j) = some u := by
          rw [ee2, eq2]
          have h := World.news_of_block (hp_new e1 (.cells (nA 0 (.slice none 0 0) newF false (.slice none 0 0)) 61))
          rw [nA_list] at h
          exact h
        have bX : Below e1.heap.size e1 e2 := by rw [ee2]; exact bel_alloc e1 _
        have T4b := Lib.hid (T4.out.below WW.out bX)
        rw [← eq2, ← ee2]
        clear ee2 eq2 bX T4 HS
        have HS := T4b.out.here
        first | refine ⟨HS, ?_⟩ | refine ⟨fun _ => HS, ?_⟩
        refine anyL_one 5 rfl (by kernel_rfl) rfl ?_
        refine wp_append_any (Operand.tmp 84) (Operand.tmp 87) 24 rfl (w.heap.size + 1) 61 i0 (.agg nZ) 64 536 Try.underlying24 hi0 hz0 hz1 hz2 (nA_size ..) (by decide) (.slice va ms.length vc) ms.length (cellsN ms) rfl T4b.out.own.1 (some ⟨q2, 0, none⟩) 1 1 (newM newF).cells rfl (by rw [ND.cells_len]) (Or.inr ⟨_, rfl, hn4⟩) (nL_one rfl rfl) (by have := HB.out.2.1; unfold maxLen; omega) (by have := HB.out.2.1; omega) (by have h1 := T4b.out.gro.size; have h2 := hp_lt T4b.out.res; omega) ?_
        intro v' w9 hown9 hgr9 hat9
        obtain ⟨a9, c9, rfl⟩ := own_form hown9
        simp only [World.size_alloc, Act.put, List.setIfInBounds_toArray, List.set_cons_succ, List.set_cons_zero]
        obtain ⟨wF, ewF⟩ : ∃ q, q = w9.setCell ⟨gt, 0, none⟩ (.slice a9 (ms.length + 1) c9) := ⟨_, rfl⟩
        obtain ⟨h89, hA5⟩ := T4b.out.push FOk.new.inr WW.out hown9 hgr9 hat9 ewF
        have hl5 : (ms ++ [newM newF]).length = ms.length + 1 := by simp
        have T5 := Lib.hid hA5
        have EWF := Lib.hid ewF
        clear hA5 hown9 hgr9 hat9 hn4 HS ewF hl5
        have HS := h89
        first | refine ⟨HS, ?_⟩ | refine ⟨fun _ => HS, ?_⟩
        refine wpAnyL_pure (i := 6) (oi := ⟨some 89, Op.fieldAddr 26 (Operand.tmp 3) 0, _, _, _, _⟩) (v := .pointer (some ⟨gt, 0, none⟩)) rfl (by kernel_rfl) (by kernel_rfl) (by kernel_rfl) (by decide) (fun _ _ _ h => h) (Or.inl ⟨by rfl, fun W hW => by (try dsimp only at hW); go_simp <;> with_reducible rfl⟩) (fun _ => HS) ?_
        simp only [World.size_alloc, Act.put, List.setIfInBounds_toArray, List.set_cons_succ, List.set_cons_zero]
        refine anyL_one 7 rfl (by kernel_rfl) rfl ?_
        have c8 := c_of h89
        have f8 := Go.Joins.unfrozen_of_block h89 0
        go_wp2_with (fail)
        (try dsimp only)
        rw [← EWF.out]
        first | refine ⟨lastdone (by kernel_rfl), ?_⟩ | refine ⟨fun _ => T5.out.here, ?_⟩ | skip
        refine anyL_done (by kernel_rfl) ?_ _
        clear c8 f8 h89 HS
        obtain ⟨ms2, ems2⟩ : ∃ q, q = ms ++ [newM newF] := ⟨_, rfl⟩
        have hl2 : ms2.length = ms.length + 1 := by rw [ems2]; simp
        have hs2 : szS (ms2.map ND.n) = szS (ms.map ND.n) + 1 := by rw [ems2]; exact szS_push _ _
        rw [← ems2] at T5
        rw [← hl2] at T5
        have HL2 := Lib.hid hl2
        have HS2 := Lib.hid hs2
        clear ems2 hl2 hs2
        (try dsimp only)
        go_wp2
        go_roundw
        case rel => exact ⟨_, _, ms2, T5.out, by have := HL2.out; omega, by have := HL2.out; have := HB.out; omega, by have := HL2.out; have := HS2.out; have := HB.out; omega⟩
        case measure => rw [lenAt_of (c_of T5.out.here), hlen]; have := HL2.out; have := HB.out; omega
      · have hlf : decide ((ms.length : Int) < 12 + y) = false := decide_eq_false hlt
        obtain ⟨wF, ewF⟩ : ∃ q, q = w3 := ⟨_, rfl⟩
        rw [← ewF] at A3 ⊢
        clear ewF
        obtain ⟨g, rfl⟩ := A3.out.ptr (by have := HB.out.1; omega)
        have zr := c_of A3.out.res
        have fr := Go.Joins.unfrozen_of_block A3.out.res 0
        have zt := c_of A3.out.here
        have c77 := c_of A3.out.here
        (try dsimp only)
        go_wp2_with (fail)
        obtain ⟨u9, eu9⟩ : ∃ q, q = wF.setCell ⟨w.heap.size, 0, none⟩ (.slice (some ⟨g, 0, none⟩) ms.length vc) := ⟨_, rfl⟩
        rw [← eu9]
        obtain ⟨zc, D1, D2, D3⟩ := A3.out.fin WW.out eu9
        refine bodyPost_ret (v := .agg #[.slice (some ⟨g, 0, none⟩) ms.length vc]) (by simp [results, Try.results56, go_sem, zc]) rfl ⟨some ⟨g, 0, none⟩, vc, ms, rfl, D1, HB.out.1, HB.out.2.1, (by have := HB.out; omega), D2, D3⟩
  -- nothing
  have q0 : (x == 0) = false := by simpa using h0
  have q1 : (x == 1) = false := by simpa using h1
  have q2 : (x == 2) = false := by simpa using h2
  have q3 : (x == 3) = false := by simpa using h3
  have q4 : (x == 4) = false := by simpa using h4
  have q5 : (x == 5) = false := by simpa using h5
  obtain ⟨wF, ewF⟩ : ∃ q, q = wr := ⟨_, rfl⟩
  rw [← ewF] at T2 ⊢
  clear ewF
  have zr := c_of T2.out.res
  have fr := Go.Joins.unfrozen_of_block T2.out.res 0
  have zt := c_of T2.out.here
  (try dsimp only)
  go_wp2_with (fail)
  obtain ⟨u9, eu9⟩ : ∃ q, q = wF.setCell ⟨w.heap.size, 0, none⟩ (.slice (some ⟨g, 0, none⟩) ms.length vc) := ⟨_, rfl⟩
  rw [← eu9]
  obtain ⟨zc, D1, D2, D3⟩ := T2.out.fin WW.out eu9
  refine bodyPost_ret (v := .agg #[.slice (some ⟨g, 0, none⟩) ms.length vc]) (by simp [results, Try.results56, go_sem, zc]) rfl ⟨some ⟨g, 0, none⟩, vc, ms, rfl, D1, by omega, by omega, by omega, D2, D3⟩
end Go.Proofs.Ytckpjldenkjddaa
end

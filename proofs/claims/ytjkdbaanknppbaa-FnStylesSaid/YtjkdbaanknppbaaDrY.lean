/-
  The draws spec.DrawStyleOk and spec.DrawSameStyle: some styles; nothing that was there is turned. Conditions: those of the code.
-/
import Derived.Test.YtjkdbaanknppbaaYsD
import Derived.Test.YtjkdbaanknppbaaNewC
import Derived.Deep.RegionHeld
namespace Go.Proofs.Ytjkdbaanknppbaa
open Go.ChangeShapes Go.WideShapes Go.ChangeAt Go.RowKit
set_option linter.unusedSimpArgs false
set_option linter.unusedVariables false

def StyleDraw (w : World) (e : Ending) (w' : World) : Prop := ∃ f : Nat → Int, e = .returned (.agg (sCells f)) ∧ Below w.heap.size w w'
def StylesDraw (w : World) (e : Ending) (w' : World) : Prop := ∃ f g : Nat → Int, e = .returned (.tuple #[.agg (sCells f), .agg (sCells g)]) ∧ Below w.heap.size w w'
/-- One operation alone may come next. -/
theorem any_one {P : Program} {md : Region.Mode} {ops : Array Oper} {Q : Exit → Act → World → Prop} {S : World → Prop} {fuel : Nat} {listed : Array Bool} {a : Act} {w : World} (i : Nat) {o : Oper} (ho : ops[i]? = some o) (hr : Region.ready md ops listed = [i]) (hw : Region.wanted o (yielded ops a.tmps) = true)
    (h : o.wp P a w (fun a' w' => S w' ∧ wpAnyH P md ops Q S fuel (listed.setIfInBounds i true) a' w') Q) : wpAnyH P md ops Q S (fuel + 1) listed a w :=
  wpAnyH_all hr (by simp) fun j hj => by
    simp only [List.mem_singleton] at hj
    subst hj
    unfold wpOp
    simp only [ho]
    rw [if_pos hw]
    exact Or.inl h
section
variable {ops : Array Oper} {S : World → Prop} {op : Oper} {a : Act} {g : Nat} {t : TypeId} {f : Nat → Int} {Q : Exit → Act → World → Prop} {K : Act → World → Prop} {w : World}
theorem yields_sty {x : Operand} (hw : Region.wanted op (yielded ops a.tmps) = true) (ho : op.op = .load 31 x) (hx : a.eval x = .pointer (some ⟨g, 0, none⟩)) (hS : ∀ w, S w → w.heap[g]? = some (.cells (sCells f) t)) : YieldsIf Try.prog ops S op (.agg (sCells f)) a :=
  .inl ⟨hw, fun w hw' => by
    unfold execOp
    simp only [ho, hx, Instr.loadAt, Instr.sureAddr, Sem.run_bind, Sem.run_pure, Result.andThen_ok, load_sty (hS w hw')]⟩
theorem wp_put_sty {f' : Nat → Int} {x y : Operand} (ho : op.op = .store 31 x y) (hx : a.eval x = .pointer (some ⟨g, 0, none⟩)) (hy : a.eval y = .agg (sCells f)) (hg : w.heap[g]? = some (.cells (sCells f') t)) (h : K (a.put op.dst undef) (w.setRow g (sCells f))) : op.wp Try.prog a w K Q :=
  wp_store_row _ x y ho g _ hx hy t _ hg (sty_size f) (by rw [sCells_size, sCells_size]) (sCells_one f) h
/-- Two answers, each in a cell of its own. -/
theorem results_sty2 {fn : Func} {p q : Tmp} (h : fn.results = #[.cell p 31, .cell q 31]) {tmps : Array Value} {g' : Nat} {t' : TypeId} {f' : Nat → Int} (hp : tmps.getD p undef = .pointer (some ⟨g, 0, none⟩)) (hq : tmps.getD q undef = .pointer (some ⟨g', 0, none⟩))
    (hg : w.heap[g]? = some (.cells (sCells f) t)) (hg' : w.heap[g']? = some (.cells (sCells f') t')) : (results fn tmps).run Try.prog w = .ok (.tuple #[.agg (sCells f), .agg (sCells f')]) w := by
  have hp' : tmps[p]?.getD undef = .pointer (some ⟨g, 0, none⟩) := by simpa using hp
  have hq' : tmps[q]?.getD undef = .pointer (some ⟨g', 0, none⟩) := by simpa using hq
  simp [results, h, hp', hq', asAddr, load_sty hg, load_sty hg']
end

theorem draw_styleok (a : Option Addr) (len cap : Nat) (w : World) (hl : len ≤ 1048576) (hc : Code w a len) :
    Calls Try.prog 11 #[.slice a len cap] w (StyleDraw w) := by
  have hap := fun h0 => code_lt hc h0
  have bw := Go.Joins.below_alloc1 w (.cells (sCells fun _ => 0) 31)
  have hc0 := hc.below bw
  have hr0 := hp_new w (.cells (sCells fun _ => 0) 31)
  have hs0 : w.heap.size < (w.alloc (.cells (sCells fun _ => 0) 31)).heap.size := by simp
  obtain ⟨u, eu⟩ : ∃ u, u = w.alloc (.cells (sCells fun _ => 0) 31) := ⟨_, rfl⟩
  rw [← eu] at bw hc0 hr0 hs0
  have EU := Lib.hid eu
  clear eu
  go_enter Try.func11, Try.ntmps11
  go_wp2_with (first | (rw [← EU.out]) | ((with_reducible apply list_alloc_sty); exact rfl; exact rfl; simp only [World.size_alloc, Act.put, List.setIfInBounds_toArray, List.set_cons_succ, List.set_cons_zero]))
  refine (new_cur a len cap u hl hc0).mono ?_
  rintro e w1 ⟨rfl, c1, b1, s1⟩
  have hr1 := hp_below hr0 b1
  have B1 := bw.trans (b1.mono (Nat.le_of_lt hs0))
  have HAP := Lib.hid (show 0 < len → ∀ b off, a = some ⟨b, off, none⟩ → b < w.heap.size from hap)
  generalize u.heap.size = cb at *
  clear b1 bw hc0 hr0 hap
  (try dsimp only)
  go_wp2_with (fail)
  refine (anysty cb a len cap w1 s1 (fun h b off e => by have := HAP.out h b off e; have := B1.size; omega) c1).mono ?_
  rintro e w2 ⟨f, rfl, c2, g2⟩
  have hr2 := blk_kept hr1 g2 (by omega)
  have B2 := B1.grown g2 B1.size (fun k hk => by simp at hk; omega)
  have h9 := Lib.hid (setRow_heap _ _ _ (sCells f) _ _ hr2)
  have b9 := Lib.hid (below_setRow B2 (g := w.heap.size) (Nat.le_refl _) (sCells f))
  have HR := Lib.hid hr2
  clear hr2 hr1 B1 B2 g2 c1 c2
  (try dsimp only)
  go_wp2_with ((with_reducible apply list_store_sty); exact rfl; exact rfl; exact rfl; exact rfl; (with_reducible exact HR.out); simp only [World.size_alloc, Act.put, List.setIfInBounds_toArray, List.set_cons_succ, List.set_cons_zero])
  exact bodyPost_ret (results_sty rfl rfl h9.out) rfl ⟨_, rfl, b9.out⟩

set_option maxHeartbeats 1000000 in
theorem draw_samestyle (a : Option Addr) (len cap : Nat) (w : World) (hl : len ≤ 1048576) (hc : Code w a len) :
    Calls Try.prog 15 #[.slice a len cap] w (StylesDraw w) := by
  have hap := fun h0 => code_lt hc h0
  have bw := Go.Joins.below_alloc2 w (.cells (sCells fun _ => 0) 31) (.cells (sCells fun _ => 0) 31)
  have hc0 := hc.below bw
  have hr0 := hp_on (hp_new w (.cells (sCells fun _ => 0) 31)) (.cells (sCells fun _ => 0) 31)
  have hq0 := hp_new (w.alloc (.cells (sCells fun _ => 0) 31)) (.cells (sCells fun _ => 0) 31)
  have hs0 : w.heap.size + 1 < ((w.alloc (.cells (sCells fun _ => 0) 31)).alloc (.cells (sCells fun _ => 0) 31)).heap.size := by simp
  simp only [World.size_alloc] at hr0 hq0
  obtain ⟨u, eu⟩ : ∃ u, u = (w.alloc (.cells (sCells fun _ => 0) 31)).alloc (.cells (sCells fun _ => 0) 31) := ⟨_, rfl⟩
  rw [← eu] at bw hc0 hr0 hq0 hs0
  have EU := Lib.hid eu
  clear eu
  go_enter Try.func15, Try.ntmps15
  go_wp2_with (first | (rw [← EU.out]) | ((with_reducible apply list_alloc_sty); exact rfl; exact rfl; simp only [World.size_alloc, Act.put, List.setIfInBounds_toArray, List.set_cons_succ, List.set_cons_zero]))
  refine (new_cur a len cap u hl hc0).mono ?_
  rintro e w1 ⟨rfl, c1, b1, s1⟩
  have hr1 := hp_below hr0 b1
  have hq1 := hp_below hq0 b1
  have B1 := bw.trans (b1.mono (by omega))
  have HAP := Lib.hid (show 0 < len → ∀ b off, a = some ⟨b, off, none⟩ → b < w.heap.size from hap)
  generalize u.heap.size = cb at *
  clear b1 bw hc0 hr0 hq0 hap
  (try dsimp only)
  go_wp2_with (fail)
  refine (anysty cb a len cap w1 s1 (fun h b off e => by have := HAP.out h b off e; have := B1.size; omega) c1).mono ?_
  rintro e w2 ⟨f1, rfl, c2, g2⟩
  have hr2 := blk_kept hr1 g2 (by omega)
  have hq2 := blk_kept hq1 g2 (by omega)
  have B2 := B1.grown g2 B1.size (fun k hk => by simp at hk; omega)
  have l2 : cb < w2.heap.size := by have := g2.size; omega
  clear hr1 hq1 B1 g2 c1
  (try dsimp only)
  go_wp2_with ((with_reducible apply list_new_sty (f := f1)); exact rfl; exact rfl; exact rfl; exact rfl; exact rfl; exact rfl; exact rfl; intro v bv hv; simp only [World.size_alloc, Act.put, List.setIfInBounds_toArray, List.set_cons_succ, List.set_cons_zero])
  have hr3 := hp_below hr2 bv
  have hq3 := hp_below hq2 bv
  have B3 := B2.trans (bv.mono B2.size)
  have c3 := c2.kept l2 (gr_below bv none) (fun k hk => by cases hk)
  have l3 : w2.heap.size < v.heap.size := hp_lt hv
  clear bv hr2 hq2 B2 c2
  generalize w2.heap.size = ga at *
  refine (once_any 2 cb a len cap v (by omega) (by omega) c3).mono ?_
  rintro e w4 ⟨t, rfl, c4, g4⟩
  have hr4 := blk_kept hr3 g4 (by omega)
  have hq4 := blk_kept hq3 g4 (by omega)
  have hv4 := blk_kept hv g4 (by omega)
  have B4 := B3.grown g4 B3.size (fun k hk => by simp at hk; omega)
  have l4 : ga < w4.heap.size := hp_lt hv4
  clear hr3 hq3 hv B3 g4 c3
  cases t
  · (try dsimp only)
    go_wp2_with (fail)
    -- the second style is drawn: the load comes up wherever it may
    have hv4' : w4.drew.heap[ga]? = some (.cells (sCells f1) 31) := hv4
    refine wp_region_held_drew (S := fun w' => w'.heap[ga]? = some (.cells (sCells f1) 31)) (by kernel_rfl) hv4' (fun hHeld => ?_)
    refine wpAnyH_take (i := 0) (oi := ⟨some 14, Op.load 31 (Operand.tmp 5), 31, _, _, _⟩) (v := .agg (sCells f1)) rfl (by kernel_rfl) (by kernel_rfl) (by kernel_rfl) (fun _ _ _ h => h) (yields_sty rfl rfl rfl (fun _ h => h)) hHeld ?_
    simp only [World.size_alloc, Act.put, List.setIfInBounds_toArray, List.set_cons_succ, List.set_cons_zero]
    refine wpAnyH_take (i := 1) (oi := ⟨some 15, Op.move (Operand.tmp 4), 55, _, _, _⟩) (v := .pointer (some ⟨cb, 0, none⟩)) rfl (by kernel_rfl) (by kernel_rfl) (by kernel_rfl) (fun _ _ _ h => h) (Or.inl ⟨rfl, fun W hW => by rfl⟩) hHeld ?_
    simp only [World.size_alloc, Act.put, List.setIfInBounds_toArray, List.set_cons_succ, List.set_cons_zero]
    refine any_one 2 rfl (by kernel_rfl) rfl ?_
    go_wp2_with (fail)
    have c4' := c4.kept (w' := w4.drew) (row := none) (by omega) ⟨rfl, rfl, rfl, Nat.le_refl _, fun _ _ _ => rfl⟩ (fun k hk => by cases hk)
    refine (anysty cb a len cap w4.drew (show cb < w4.heap.size by omega) (fun h b off e => by have := HAP.out h b off e; have := B4.size; show b < w4.heap.size; omega) c4').mono ?_
    rintro e w5 ⟨f2, rfl, c5, g5⟩
    have hr5 := blk_kept (w := w4.drew) hr4 g5 (by omega)
    have hq5 := blk_kept (w := w4.drew) hq4 g5 (by omega)
    have hv5 := blk_kept (w := w4.drew) hv4 g5 (by omega)
    have B5 := B4.drew.grown g5 (show w.heap.size ≤ w4.heap.size from B4.size) (fun k hk => by simp at hk; omega)
    clear hr4 hq4 hv4 hv4' hHeld c4 c4' g5 B4 c5
    (try dsimp only)
    refine ⟨hv5, ?_⟩
    refine any_one 3 rfl (by kernel_rfl) rfl ?_
    refine wp_put_sty rfl rfl rfl hr5 ?_
    have hv6 := hp_row hv5 (show ga ≠ w.heap.size by omega) (sCells f1)
    refine ⟨hv6, ?_⟩
    refine any_one 4 rfl (by kernel_rfl) rfl ?_
    have hq6 := hp_row hq5 (show w.heap.size + 1 ≠ w.heap.size by omega) (sCells f1)
    refine wp_put_sty rfl rfl rfl hq6 ?_
    refine ⟨hp_row hv6 (show ga ≠ w.heap.size + 1 by omega) (sCells f2), ?_⟩
    refine wpAnyH_done (by kernel_rfl) ?_ _
    have h9 := Lib.hid (hp_row (setRow_heap _ _ _ (sCells f1) _ _ hr5) (show w.heap.size ≠ w.heap.size + 1 by omega) (sCells f2))
    have h8 := Lib.hid (setRow_heap _ _ _ (sCells f2) _ _ hq6)
    have b9 := Lib.hid (below_setRow (below_setRow B5 (g := w.heap.size) (Nat.le_refl _) (sCells f1)) (g := w.heap.size + 1) (by omega) (sCells f2))
    clear hr5 hq5 hv5 hv6 hq6 B5
    go_wp2_with (fail)
    exact bodyPost_ret (results_sty2 rfl rfl rfl h9.out h8.out) rfl ⟨_, _, rfl, b9.out⟩
  · (try dsimp only)
    go_wp2_with (fail)
    have hv4' : w4.drew.heap[ga]? = some (.cells (sCells f1) 31) := hv4
    refine wp_region_held_drew (S := fun w' => w'.heap[ga]? = some (.cells (sCells f1) 31)) (by kernel_rfl) hv4' (fun hHeld => ?_)
    refine wpAnyH_take (i := 0) (oi := ⟨some 12, Op.load 31 (Operand.tmp 5), 31, _, _, _⟩) (v := .agg (sCells f1)) rfl (by kernel_rfl) (by kernel_rfl) (by kernel_rfl) (fun _ _ _ h => h) (yields_sty rfl rfl rfl (fun _ h => h)) hHeld ?_
    simp only [World.size_alloc, Act.put, List.setIfInBounds_toArray, List.set_cons_succ, List.set_cons_zero]
    refine wpAnyH_take (i := 1) (oi := ⟨some 13, Op.load 31 (Operand.tmp 5), 31, _, _, _⟩) (v := .agg (sCells f1)) rfl (by kernel_rfl) (by kernel_rfl) (by kernel_rfl) (fun _ _ _ h => h) (yields_sty rfl rfl rfl (fun _ h => h)) hHeld ?_
    simp only [World.size_alloc, Act.put, List.setIfInBounds_toArray, List.set_cons_succ, List.set_cons_zero]
    have hr5 : w4.drew.heap[w.heap.size]? = some (.cells (sCells fun _ => 0) 31) := hr4
    have hq5 : w4.drew.heap[w.heap.size + 1]? = some (.cells (sCells fun _ => 0) 31) := hq4
    refine any_one 2 rfl (by kernel_rfl) rfl ?_
    refine wp_put_sty rfl rfl rfl hr5 ?_
    have hv6 := hp_row hv4' (show ga ≠ w.heap.size by omega) (sCells f1)
    refine ⟨hv6, ?_⟩
    refine any_one 3 rfl (by kernel_rfl) rfl ?_
    have hq6 := hp_row hq5 (show w.heap.size + 1 ≠ w.heap.size by omega) (sCells f1)
    refine wp_put_sty rfl rfl rfl hq6 ?_
    refine ⟨hp_row hv6 (show ga ≠ w.heap.size + 1 by omega) (sCells f1), ?_⟩
    refine wpAnyH_done (by kernel_rfl) ?_ _
    have h9 := Lib.hid (hp_row (setRow_heap _ _ _ (sCells f1) _ _ hr5) (show w.heap.size ≠ w.heap.size + 1 by omega) (sCells f1))
    have h8 := Lib.hid (setRow_heap _ _ _ (sCells f1) _ _ hq6)
    have b9 := Lib.hid (below_setRow (below_setRow B4.drew (g := w.heap.size) (Nat.le_refl _) (sCells f1)) (g := w.heap.size + 1) (by omega) (sCells f1))
    clear hr5 hq5 hr4 hq4 hv4 hv4' hHeld hv6 hq6 B4 c4
    go_wp2_with (fail)
    exact bodyPost_ret (results_sty2 rfl rfl rfl h9.out h8.out) rfl ⟨_, _, rfl, b9.out⟩
end Go.Proofs.Ytjkdbaanknppbaa

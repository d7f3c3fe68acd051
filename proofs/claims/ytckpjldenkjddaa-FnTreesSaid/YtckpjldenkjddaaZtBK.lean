import Derived.Deep.AppendLies
import Derived.Deep.RegionHeld3
import Derived.Test.YtckpjldenkjddaaZtAA
import Derived.Test.YtckpjldenkjddaaZtAE
import Derived.Test.YtckpjldenkjddaaZtAF
import Derived.Test.YtckpjldenkjddaaZtAM
section
namespace Go.Proofs.Ytckpjldenkjddaa
open Go.ChangeShapes Go.WideShapes Go.ChangeAt Go.RowKit
set_option linter.unusedVariables false
set_option linter.unusedSimpArgs false

/-- What the draw of a table leaves. -/
def TabDrew (lo hi cb : Nat) (a : Option Addr) (len cap : Nat) (w : World) (e : Ending) (w' : World) : Prop :=
  ∃ (v : Value) (n : Nat) (zs : List Int), e = .returned (.agg #[v]) ∧ lo ≤ n ∧ n ≤ hi ∧ AllI zs ∧ RowR w.heap.size v n zs w' ∧ Cur cb a len cap w' ∧ w.grownBy w' (some cb)
/-- What a round of the drawing leaves: g the block of the table under way. -/
def TRel (cb : Nat) (a : Option Addr) (len cap : Nat) (w : World) (i : Value) (wr : World) : Prop :=
  ∃ (k : Nat) (va : Option Addr) (vc : Nat) (zs : List Int), k ≤ 3 ∧ i = .int .i64 k ∧ AllI zs ∧ wr.heap[w.heap.size + 1]? = some (.cells #[.slice va k vc] 51) ∧ wr.heap[w.heap.size]? = some (.cells #[.slice none 0 0] 51) ∧
    RowR (w.heap.size + 2) (.slice va k vc) k zs wr ∧ Cur cb a len cap wr ∧ w.grownBy wr (some cb)
theorem hp_grown' {w w' : World} {g : Nat} {o : Obj} {row : Option Nat} (h : w.heap[g]? = some o) (hg : w.grownBy w' row) (hne : some g ≠ row) : w'.heap[g]? = some o := (hg.block g (hp_lt h) hne).trans h
theorem RowR.cur {b cb n : Nat} {v : Value} {zs : List Int} {w w' : World} (h : RowR b v n zs w) (hg : w.grownBy w' (some cb)) (hcb : cb < b) : RowR b v n zs w' := h.kept hg (by
  cases hv : v.ownBlock with
  | none => exact Or.inl rfl
  | some k =>
    refine Or.inr fun e => ?_
    have := (World.ownsRow.lt h k hv).1
    simp at e
    omega)

theorem gr_far {w v v' : World} {row row' : Option Nat} (h : w.grownBy v row) (k : v.grownBy v' row') (hr : ∀ b, row' = some b → w.heap.size ≤ b) : w.grownBy v' row :=
  ⟨k.os.trans h.os, k.tape.trans h.tape, k.output.trans h.output, Nat.le_trans h.size k.size, fun i hi hne => (k.block i (Nat.lt_of_lt_of_le hi h.size) (fun e => by have := hr i e.symm; omega)).trans (h.block i hi hne)⟩
theorem nodep {b : Bool} {p : Prop} (hb : b = false) : b = true → p := fun h => by rw [hb] at h; cases h
theorem AllI.three {zs : List Int} {x y z : Int} (h : AllI zs) (hx : -9223372036854775808 ≤ x ∧ x ≤ 9223372036854775807) (hy : -9223372036854775808 ≤ y ∧ y ≤ 9223372036854775807) (hz : -9223372036854775808 ≤ z ∧ z ≤ 9223372036854775807) : AllI (zs ++ [x, y, z]) := by
  intro q hq
  rcases List.mem_append.1 hq with hq | hq
  · exact h q hq
  · simp at hq
    rcases hq with rfl | rfl | rfl <;> assumption

set_option maxHeartbeats 2000000 in
set_option maxRecDepth 100000 in
theorem l09t_any (cb : Nat) (a : Option Addr) (len cap : Nat) (w : World) (hcb : cb < w.heap.size) (hap : 0 < len → ∀ b off, a = some ⟨b, off, none⟩ → b < w.heap.size) (hc : Cur cb a len cap w) :
    Calls Try.prog 126 #[.pointer (some ⟨cb, 0, none⟩)] w (TabDrew 1 3 cb a len cap w) := by
  have h0 := hp_on (hp_new w (.cells #[.slice none 0 0] 51)) (.cells #[.slice none 0 0] 51)
  have h1 := hp_new (w.alloc (.cells #[.slice none 0 0] 51)) (.cells #[.slice none 0 0] 51)
  simp only [World.size_alloc] at h0 h1
  have g0 : w.grownBy ((w.alloc (.cells #[.slice none 0 0] 51)).alloc (.cells #[.slice none 0 0] 51)) (some cb) := gr_trans (World.grownBy_alloc w _ (some cb)) (World.grownBy_alloc _ _ (some cb))
  have gn : w.grownBy ((w.alloc (.cells #[.slice none 0 0] 51)).alloc (.cells #[.slice none 0 0] 51)) none := gr_trans (World.grownBy_alloc w _ none) (World.grownBy_alloc _ _ none)
  have hc0 := hc.kept hcb gn (fun k hk => by cases hk)
  have hsz : ((w.alloc (.cells #[.slice none 0 0] 51)).alloc (.cells #[.slice none 0 0] 51)).heap.size = w.heap.size + 2 := by simp
  obtain ⟨u, eu⟩ : ∃ u, u = (w.alloc (.cells #[.slice none 0 0] 51)).alloc (.cells #[.slice none 0 0] 51) := ⟨_, rfl⟩
  rw [← eu] at h0 h1 g0 hc0 hsz
  have EU := Lib.hid eu
  have HAP := Lib.hid hap
  obtain ⟨i0, hi, hz0, hz1, hz2⟩ := info_parts info_rule
  clear eu gn hap hc
  go_enter Try.func126, Try.ntmps126
  go_wp2
  rw [← EU.out]
  go_loopw [4] (TRel cb a len cap w) (fun i _ => 3 - (intOf i).toNat)
  case atStart => exact ⟨0, none, 0, [], by omega, rfl, (fun z hz => by cases hz), h1, h0, World.ownsRow_nil _ _ _ _, hc0, g0⟩
  case round =>
    obtain ⟨k, va, vc, zs, hk, rfl, hza, hb1, hb0, hr, hcw, hg⟩ := hrel
    clear h0 h1 g0 hc0
    have hcbr : cb < wr.heap.size := Nat.lt_of_lt_of_le hcb hg.size
    go_wp2_with (fail)
    refine (below_pos 3 cb a len cap wr (by omega) (by omega) hcw).mono ?_
    rintro e w1 ⟨x, rfl, x0, x1, c1, g1, s1⟩
    have hg1 := gr_trans hg g1
    have hb1' := hp_grown' hb1 g1 (by simp; omega)
    have hb0' := hp_grown' hb0 g1 (by simp; omega)
    have hr1 := hr.cur g1 (by omega)
    clear hcw hb1 hb0 hr g1 hg
    by_cases hlt : (k : Int) ≤ x
    · go_wp2_with (fail)
      have cT : w1.drew.cell? ⟨w.heap.size + 1, 0, none⟩ = some (.slice va k vc) := by have h := Go.Joins.cell_of_block hb1' 0; simpa using h
      have c1d := c1.kept (w' := w1.drew) (row := none) (by have := hg1.size; omega) ⟨rfl, rfl, rfl, Nat.le_refl _, fun _ _ _ => rfl⟩ (fun k hk => by cases hk)
      have hg1d : w.grownBy w1.drew (some cb) := ⟨hg1.os, hg1.tape, hg1.output, hg1.size, hg1.block⟩
      have hr1d : RowR (w.heap.size + 2) (.slice va k vc) k zs w1.drew := hr1
      have hb1d : w1.drew.heap[w.heap.size + 1]? = _ := hb1'
      have hb0d : w1.drew.heap[w.heap.size]? = _ := hb0'
      clear c1 hr1 hb1' hb0' hg1
      refine wp_region_any (by kernel_rfl) ?_
      change wpAny _ _ _ _ 14 (Array.replicate 14 false) _ w1.drew
      generalize w1.drew = w2 at *
      refine wpAny_take (i := 0) (oi := ⟨some 12, Op.fieldAddr 51 (Operand.tmp 3) 0, _, _, _, _⟩) (v := .pointer (some ⟨w.heap.size + 1, 0, none⟩)) rfl (by kernel_rfl) (by kernel_rfl) (by kernel_rfl) (fun _ _ _ h => h) (Or.inl ⟨by rfl, fun W => by go_simp <;> with_reducible rfl⟩) ?_
      simp only [Act.put, List.setIfInBounds_toArray, List.set_cons_zero, List.set_cons_succ]
      refine wpAny_take (i := 2) (oi := ⟨some 14, Op.move (Operand.tmp 0), _, _, _, _⟩) (v := .pointer (some ⟨cb, 0, none⟩)) rfl (by kernel_rfl) (by kernel_rfl) (by kernel_rfl) (fun _ _ _ h => h) (Or.inl ⟨by rfl, fun W => by go_simp <;> with_reducible rfl⟩) ?_
      simp only [Act.put, List.setIfInBounds_toArray, List.set_cons_zero, List.set_cons_succ]
      refine wpAny_take (i := 5) (oi := ⟨some 17, Op.move (Operand.tmp 0), _, _, _, _⟩) (v := .pointer (some ⟨cb, 0, none⟩)) rfl (by kernel_rfl) (by kernel_rfl) (by kernel_rfl) (fun _ _ _ h => h) (Or.inl ⟨by rfl, fun W => by go_simp <;> with_reducible rfl⟩) ?_
      simp only [Act.put, List.setIfInBounds_toArray, List.set_cons_zero, List.set_cons_succ]
      refine wpAny_take (i := 7) (oi := ⟨some 19, Op.move (Operand.tmp 0), _, _, _, _⟩) (v := .pointer (some ⟨cb, 0, none⟩)) rfl (by kernel_rfl) (by kernel_rfl) (by kernel_rfl) (fun _ _ _ h => h) (Or.inl ⟨by rfl, fun W => by go_simp <;> with_reducible rfl⟩) ?_
      simp only [Act.put, List.setIfInBounds_toArray, List.set_cons_zero, List.set_cons_succ]
      refine wpAnyD_take (S := fun w' => w'.cell? ⟨w.heap.size + 1, 0, none⟩ = some (.slice va k vc)) (i := 1) (oi := ⟨some 13, Op.load 49 (Operand.tmp 12), _, _, _, _⟩) (v := .slice va k vc) rfl (by kernel_rfl) (by kernel_rfl) (by kernel_rfl) (by kernel_rfl) (fun _ _ _ h => h) (Or.inl ⟨by rfl, fun W hW => by go_simp <;> with_reducible rfl⟩) cT ?_
      simp only [Act.put, List.setIfInBounds_toArray, List.set_cons_zero, List.set_cons_succ]
      clear cT
      refine anyD_one 3 rfl (by kernel_rfl) rfl ?_
      go_wp2_with (fail)
      have hl3 := lit_ints w2 [-1, 0, 100, 640, 1000] (by decide)
      have ga := World.grownBy_alloc w2 (.cells ([-1, 0, 100, 640, 1000].map (Value.int .i64)).toArray 3) none
      have c3 := c1d.kept (by have := hg1d.size; omega) ga (fun k hk => by cases hk)
      have hg3 := gr_trans hg1d (gr_none ga (some cb))
      have hb13 := hp_on hb1d (.cells ([-1, 0, 100, 640, 1000].map (Value.int .i64)).toArray 3)
      have hb03 := hp_on hb0d (.cells ([-1, 0, 100, 640, 1000].map (Value.int .i64)).toArray 3)
      have hr3 : RowR (w.heap.size + 2) (.slice va k vc) k zs _ := World.ownsRow.alloc hr1d (.cells ([-1, 0, 100, 640, 1000].map (Value.int .i64)).toArray 3)
      have h2s : cb < w2.heap.size := by have := hg1d.size; omega
      refine ⟨fun _ => by have h := Go.Joins.cell_of_block hb13 0; simpa using h, ?_⟩
      refine anyD_one 4 rfl (by kernel_rfl) rfl ?_
      go_wp2_with (fail)
      refine (pick_any w2.heap.size 0 5 5 [-1, 0, 100, 640, 1000] cb a len cap _ (by omega) (by omega) hl3 (by omega) c3).mono ?_
      rintro e w4 ⟨x4, rfl, u4, v4, c4, g4⟩
      have hg4 := gr_trans hg3 g4
      have hb14 := hp_grown' hb13 g4 (by simp; omega)
      have hb04 := hp_grown' hb03 g4 (by simp; omega)
      have hr4 := hr3.cur g4 (by omega)
      clear hl3 ga c3 hg3 hb13 hb03 hr3 c1d hg1d hb1d hb0d hr1d g4
      (try dsimp only)
      refine ⟨fun _ => by have h := Go.Joins.cell_of_block hb14 0; simpa using h, ?_⟩
      refine anyD_one 6 rfl (by kernel_rfl) rfl ?_
      go_wp2_with (fail)
      refine (below_pos 1500 cb a len cap w4 (by omega) (by omega) c4).mono ?_
      rintro e w5 ⟨x5, rfl, u5, v5, c5, g5, s5⟩
      have hg5 := gr_trans hg4 g5
      have hb15 := hp_grown' hb14 g5 (by simp; omega)
      have hb05 := hp_grown' hb04 g5 (by simp; omega)
      have hr5 := hr4.cur g5 (by omega)
      clear c4 hg4 hb14 hb04 hr4 g5 s5
      (try dsimp only)
      refine ⟨fun _ => by have h := Go.Joins.cell_of_block hb15 0; simpa using h, ?_⟩
      refine anyD_one 8 rfl (by kernel_rfl) rfl ?_
      go_wp2_with (fail)
      refine (below_pos 600 cb a len cap w5 (by omega) (by omega) c5).mono ?_
      rintro e w6 ⟨x6, rfl, u6, v6, c6, g6, s6⟩
      have hg6 := gr_trans hg5 g6
      have hb16 := hp_grown' hb15 g6 (by simp; omega)
      have hb06 := hp_grown' hb05 g6 (by simp; omega)
      have hr6 := hr5.cur g6 (by omega)
      clear c5 hg5 hb15 hb05 hr5 g6 s6
      (try dsimp only)
      refine ⟨fun _ => by have h := Go.Joins.cell_of_block hb16 0; simpa using h, ?_⟩
      refine anyD_one 9 rfl (by kernel_rfl) rfl ?_
      go_wp2_with (fail)
      refine ⟨fun _ => by have h := Go.Joins.cell_of_block hb16 0; simpa using h, ?_⟩
      refine anyD_one 10 rfl (by kernel_rfl) rfl ?_
      go_wp2_with (fail)
      have ga := World.grownBy_alloc w6 (.cells #[.int .i64 x4, .int .i64 x5, .int .i64 x6] 137) none
      have h6s : cb < w6.heap.size := by have := hg6.size; omega
      have h6s2 : w.heap.size + 1 < w6.heap.size := hp_lt hb16
      have c7 := c6.kept h6s ga (fun k hk => by cases hk)
      have hg7 := gr_trans hg6 (gr_none ga (some cb))
      have hb17 := hp_on hb16 (.cells #[.int .i64 x4, .int .i64 x5, .int .i64 x6] 137)
      have hb07 := hp_on hb06 (.cells #[.int .i64 x4, .int .i64 x5, .int .i64 x6] 137)
      have hr7 : RowR (w.heap.size + 2) (.slice va k vc) k zs _ := World.ownsRow.alloc hr6 (.cells #[.int .i64 x4, .int .i64 x5, .int .i64 x6] 137)
      have hn7 := World.news_of_block (hp_new w6 (.cells #[.int .i64 x4, .int .i64 x5, .int .i64 x6] 137))
      refine ⟨fun _ => by have h := Go.Joins.cell_of_block hb17 0; simpa using h, ?_⟩
      refine anyD_one 11 rfl (by kernel_rfl) rfl ?_
      have hU := World.ownsRow.lt hr7
      refine wp_append_lies _ _ _ 49 rfl (w.heap.size + 2) 137 i0 (.agg #[.int .i64 0, .int .i64 0, .int .i64 0]) 3 24 Try.underlying49 hi hz0 hz1 hz2 rfl (by decide) (.slice va k vc) k (zs.map (Value.int .i64)) rfl hr7 ⟨w6.heap.size, 0, none⟩ 1 1 [.int .i64 x4, .int .i64 x5, .int .i64 x6] rfl rfl hn7 (by intro u hu; simp at hu; rcases hu with rfl | rfl | rfl <;> rfl) (by omega) (by unfold maxLen; omega) (by omega) (by simp; omega) _ rfl ?_
      intro g8 cap8 w8 hown8 hgrow8 hat8 hlt8
      have hb18 := hp_grown' hb17 hgrow8 (fun e => by have := (hU _ e.symm).1; omega)
      have hb08 := hp_grown' hb07 hgrow8 (fun e => by have := (hU _ e.symm).1; omega)
      have c8 := c7.kept (show cb < _ by simp; omega) hgrow8 (fun k hk => ⟨by have := (hU _ hk).1; omega, fun h b off e => by have := (hU _ hk).1; have := HAP.out h b off e; omega⟩)
      have hg8 := gr_far hg7 hgrow8 (fun k hk => by have := (hU _ hk).1; omega)
      have hr8 : RowR (w.heap.size + 2) (.slice (some ⟨g8, 0, none⟩) (k + 1) cap8) (k + 1) (zs ++ [x4, x5, x6]) w8 := by unfold RowR; simpa using hown8
      clear hown8 hgrow8 hat8 hU hn7 hr7 hb07 hb17 hg7 c7 ga hr6 hb06 hb16 hg6 c6
      (try dsimp only)
      refine ⟨nodep (by kernel_rfl), ?_⟩
      refine anyD_one 12 rfl (by kernel_rfl) rfl ?_
      go_wp2_with (fail)
      refine ⟨nodep (by kernel_rfl), ?_⟩
      refine anyD_one 13 rfl (by kernel_rfl) rfl ?_
      have cT8 := Go.Joins.cell_of_block hb18 0
      have fT8 := Go.Joins.unfrozen_of_block hb18 0
      simp at cT8
      have HR8 := Lib.hid hr8
      have HC8 := Lib.hid c8
      have HG8 := Lib.hid hg8
      have HB8 := Lib.hid hb08
      have HT8 := Lib.hid hb18
      clear hr8 c8 hg8 hb08 hb18
      go_wp2_with (fail)
      refine ⟨by kernel_rfl, ?_⟩
      refine anyD_done (by kernel_rfl) ?_ _
      have hgs := gr_self w8 (w.heap.size + 1) 0 (.slice (some ⟨g8, 0, none⟩) (k + 1) cap8)
      have hs8 : w.heap.size + 1 < w8.heap.size := hp_lt HT8.out
      have hb19 := Go.Joins.block_setCell HT8.out (i := 0) (.slice (some ⟨g8, 0, none⟩) (k + 1) cap8)
      have hb19' : (w8.setCell ⟨w.heap.size + 1, 0, none⟩ (.slice (some ⟨g8, 0, none⟩) (k + 1) cap8)).heap[w.heap.size + 1]? = some (.cells #[.slice (some ⟨g8, 0, none⟩) (k + 1) cap8] 51) := by simpa using hb19
      have HB9 := Lib.hid hb19'
      have HA9 := Lib.hid (hp_set HB8.out (show w.heap.size ≠ w.heap.size + 1 by omega) 0 (.slice (some ⟨g8, 0, none⟩) (k + 1) cap8))
      have HR9 := Lib.hid (ownsRow_setCell_below HR8.out (a := ⟨w.heap.size + 1, 0, none⟩) (by show w.heap.size + 1 < w.heap.size + 2; omega) (.slice (some ⟨g8, 0, none⟩) (k + 1) cap8))
      have HC9 := Lib.hid (HC8.out.kept (show cb < w8.heap.size by omega) hgs (fun k hk => by simp at hk; exact ⟨by omega, fun h b off e => by have := HAP.out h b off e; omega⟩))
      have HG9 := Lib.hid (gr_far HG8.out hgs (fun k hk => by simp at hk; omega))
      clear hgs hb19 hb19' cT8 fT8 HR8 HC8 HG8 HB8 HT8
      have hk2 : k ≤ 2 := by omega
      go_wp2
      go_roundw
      case rel => exact ⟨k + 1, _, _, zs ++ [x4, x5, x6], by omega, by go_num, hza.three ⟨u4, v4⟩ ⟨by omega, by omega⟩ ⟨by omega, by omega⟩, HB9.out, HA9.out, HR9.out, HC9.out, HG9.out⟩
      case measure => simp [intOf]; omega
    · have cT := Go.Joins.cell_of_block hb1' 0
      have cR := Go.Joins.cell_of_block hb0' 0
      have fR := Go.Joins.unfrozen_of_block hb0' 0
      simp at cT cR
      have HR := Lib.hid hr1
      have HC := Lib.hid c1
      have HG := Lib.hid hg1
      have HB := Lib.hid hb0'
      clear hr1 c1 hg1 hb0' hb1'
      have hgs := gr_self w1 w.heap.size 0 (.slice va k vc)
      have hb19 := Go.Joins.block_setCell HB.out (i := 0) (.slice va k vc)
      have cA : (w1.setCell ⟨w.heap.size, 0, none⟩ (.slice va k vc)).cell? ⟨w.heap.size, 0, none⟩ = some (.slice va k vc) := by have h := Go.Joins.cell_of_block hb19 0; simpa using h
      have HR9 := Lib.hid (ownsRow_setCell_below HR.out (a := ⟨w.heap.size, 0, none⟩) (by show w.heap.size < w.heap.size + 2; omega) (.slice va k vc))
      have HC9 := Lib.hid (HC.out.kept (show cb < w1.heap.size by have := HG.out.size; omega) hgs (fun k hk => by simp at hk; exact ⟨by omega, fun h b off e => by have := HAP.out h b off e; omega⟩))
      have HG9 := Lib.hid (gr_far HG.out hgs (fun k hk => by simp at hk; omega))
      clear hgs hb19 HR HC HG HB
      go_wp2
      refine bodyPost_ret (v := .agg #[.slice va k vc]) (by simp [results, Try.results126, go_sem, cA]) rfl ⟨_, k, zs, rfl, by omega, hk, hza, RowR.lower HR9.out (by omega), HC9.out, HG9.out⟩
end Go.Proofs.Ytckpjldenkjddaa
end

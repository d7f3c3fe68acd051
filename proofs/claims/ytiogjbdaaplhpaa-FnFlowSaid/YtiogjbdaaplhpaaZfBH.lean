import Derived.Test.YtiogjbdaaplhpaaZfAG
import Derived.Test.YtiogjbdaaplhpaaZfAY
section
namespace Go.Proofs.Ytiogjbdaaplhpaa
open Go.ChangeShapes Go.WideShapes Go.ChangeAt Go.RowKit
set_option linter.unusedVariables false
set_option linter.unusedSimpArgs false

theorem pick_rng (lo hi : Int) (b off n cap1 : Nat) (zs : List Int) (cb : Nat) (a : Option Addr) (len cap : Nat) (w : World) (h1 : 1 ≤ n) (h2 : n ≤ 1000) (hr : ∀ z ∈ zs, lo ≤ z ∧ z ≤ hi) (hz : Ints w (some ⟨b, off, none⟩) n zs) (hne : b ≠ cb) (hc : Cur cb a len cap w) :
    Calls Try.prog 60 #[.pointer (some ⟨cb, 0, none⟩), .slice (some ⟨b, off, none⟩) n cap1] w (DrewPost lo hi cb a len cap w) := by
  have HZ := Lib.hid hz
  clear hz
  go_enter Try.func60, Try.ntmps60
  go_wp2_with (fail)
  refine (below_pos n cb a len cap w (by omega) (by omega) hc).mono ?_
  rintro e w1 ⟨x, rfl, x0, x1, c1, g1, s1⟩
  obtain ⟨k, rfl⟩ := Int.eq_ofNat_of_zero_le x0
  have hz1 := HZ.out.grown g1 hne
  have hlt : k < n := by omega
  obtain ⟨b', off', hba, hbl, hcell⟩ := hz1.look hlt
  simp at hba
  obtain ⟨rfl, rfl⟩ := hba
  have hlo : (0 : Int) ≤ (k : Int) := Int.natCast_nonneg _
  have hhi : (k : Int) < (n : Int) := by omega
  have hin := hr (zs.getD k 0) (by
    have : k < zs.length := by rw [hz1.1]; exact hlt
    simp [List.getD, this])
  have S1 := Lib.hid s1
  clear s1 hz1
  generalize zs.getD k 0 = z at *
  go_wp2
  go_ret
  exact ⟨z, rfl, hin.1, hin.2, c1, g1⟩
theorem pick_r (lo hi : Int) (hlo : -9223372036854775808 ≤ lo) (hhi : hi ≤ 9223372036854775807) (zs : List Int) (n : Nat) (hn : zs.length = n) (h1 : 1 ≤ n) (h2 : n ≤ 1000) (hr : ∀ z ∈ zs, lo ≤ z ∧ z ≤ hi) (cb : Nat) (a : Option Addr) (len cap : Nat) (w : World) (hcb : cb < w.heap.size) (hc : Cur cb a len cap w) :
    Calls Try.prog 60 #[.pointer (some ⟨cb, 0, none⟩), .slice (some ⟨w.heap.size, 0, none⟩) n n] (w.alloc (.cells (zs.map (Value.int .i64)).toArray 3)) (DrewPost lo hi cb a len cap w) := by
  subst hn
  have ga := World.grownBy_alloc w (.cells (zs.map (Value.int .i64)).toArray 3) none
  refine (pick_rng lo hi w.heap.size 0 zs.length zs.length zs cb a len cap _ h1 h2 hr (lit_ints w zs (fun z hz => by have := hr z hz; omega)) (by omega) (hc.kept hcb ga (fun k hk => by cases hk))).mono ?_
  rintro e w2 ⟨y, rfl, y0, y1, c2, g2⟩
  exact ⟨y, rfl, y0, y1, c2, gr_trans (gr_none ga (some cb)) g2⟩
/-- A valid size, as it is drawn. -/
def VOk (k n : Int) : Prop := (k = 0 ∧ n = 0) ∨ (k = 1 ∧ 0 ≤ n ∧ n ≤ 3000) ∨ (k = 2 ∧ 0 ≤ n ∧ n ≤ 150)
def ValOkP (cb : Nat) (a : Option Addr) (len cap : Nat) (w : World) (e : Ending) (w' : World) : Prop :=
  ∃ k n : Int, e = .returned (.agg #[.int .i64 k, .int .i64 n]) ∧ VOk k n ∧ Cur cb a len cap w' ∧ w.grownBy w' (some cb)
theorem val_ok (cb : Nat) (a : Option Addr) (len cap : Nat) (w : World) (hcb : cb < w.heap.size) (hlt : 0 < len → ∀ b off, a = some ⟨b, off, none⟩ → b < w.heap.size) (hc : Cur cb a len cap w) :
    Calls Try.prog 103 #[.pointer (some ⟨cb, 0, none⟩)] w (ValOkP cb a len cap w) := by
  have ga := World.grownBy_alloc w (.cells #[.int .i64 0, .int .i64 0] 35) none
  have hc0 : Cur cb a len cap (w.alloc (.cells #[.int .i64 0, .int .i64 0] 35)) := hc.kept hcb ga (fun k hk => by cases hk)
  have HB := Lib.hid (blk_new w (.cells #[.int .i64 0, .int .i64 0] 35))
  have HL := Lib.hid hlt
  clear ga hlt
  go_enter Try.func103, Try.ntmps103
  go_wp2_with (fail)
  refine (below_pos 6 cb a len cap _ (by omega) (by omega) hc0).mono ?_
  rintro e w1 ⟨x, rfl, x0, x1, c1, g1, s1⟩
  have hcb1 : cb < w1.heap.size := Nat.lt_of_lt_of_le (by simp; omega) g1.size
  have hb1 := blk_kept HB.out g1 (by omega)
  have G1 := Lib.hid (gr_trans (gr_new w _ cb) g1)
  have S1 := Lib.hid s1
  clear s1 g1
  by_cases e0 : x = 0
  · subst e0
    go_wp2_with (fail)
    refine (pick_r 0 150 (by decide) (by decide) [0, 10, 25, 50, 100, 150, 33] 7 rfl (by omega) (by omega) (by decide) cb a len cap w1 hcb1 c1).mono ?_
    rintro e w2 ⟨y, rfl, y0, y1, c2, g2⟩
    have hb2 := blk_kept hb1 g2 (by omega)
    have hcb2 : cb < w2.heap.size := Nat.lt_of_lt_of_le hcb1 g2.size
    have G2 := Lib.hid (gr_trans G1.out g2)
    clear hb1 g2
    have C0 := Go.Joins.cell_of_block hb2 0
    have C1 := Go.Joins.cell_of_block hb2 1
    have F0 := Go.Joins.unfrozen_of_block hb2 0
    have F1 := Go.Joins.unfrozen_of_block hb2 1
    simp at C0 C1
    have HB2 := Lib.hid hb2
    clear hb2
    go_wp2
    have hb9 := blk_two (x' := .int .i64 2) (y' := .int .i64 y) HB2.out
    have G9 := Lib.hid (gr_store (j := 1) (u := .int .i64 y) (gr_store (j := 0) (u := .int .i64 2) G2.out (Nat.le_refl _)) (Nat.le_refl _))
    have c9 := (Cur.stored c2 hcb2 (j := 0) hcb HL.out (.int .i64 2)).stored (by rw [size_set]; exact hcb2) (j := 1) hcb HL.out (.int .i64 y)
    clear C0 C1 F0 F1
    generalize (w2.setCell ⟨w.heap.size, 0, none⟩ (.int .i64 2)).setCell ⟨w.heap.size, 1, none⟩ (.int .i64 y) = w9 at *
    have D0 := Go.Joins.cell_of_block hb9 0
    have D1 := Go.Joins.cell_of_block hb9 1
    simp at D0 D1
    exact bodyPost_ret (v := .agg #[.int .i64 2, .int .i64 y]) (by simp [results, Try.results103, go_sem, D0, D1]) rfl ⟨2, y, rfl, Or.inr (Or.inr ⟨rfl, y0, y1⟩), c9, G9.out⟩
  · by_cases e1 : x = 1 ∨ x = 2
    · have e2 : ((x == 1) || (x == 2)) = true := by simp; omega
      rcases e1 with rfl | rfl
      · clear e0 e2
        go_wp2_with (fail)
        refine (below_pos 3000 cb a len cap w1 (by omega) (by omega) c1).mono ?_
        rintro e w2 ⟨y, rfl, y0, y1, c2, g2, s2⟩
        have hb2 := blk_kept hb1 g2 (by omega)
        have hcb2 : cb < w2.heap.size := Nat.lt_of_lt_of_le hcb1 g2.size
        have G2 := Lib.hid (gr_trans G1.out g2)
        clear hb1 g2 s2
        go_wp2_with (fail)
        refine (pick_r 0 3000 (by decide) (by decide) [0, 64, 100, 640, 1000, 33, y] 7 rfl (by omega) (by omega) (by intro z hz; simp at hz; omega) cb a len cap w2 hcb2 c2).mono ?_
        rintro e w3 ⟨z, rfl, z0, z1, c3, g3⟩
        have hb3 := blk_kept hb2 g3 (by omega)
        have hcb3 : cb < w3.heap.size := Nat.lt_of_lt_of_le hcb2 g3.size
        have G3 := Lib.hid (gr_trans G2.out g3)
        clear hb2 g3
        have C0 := Go.Joins.cell_of_block hb3 0
        have C1 := Go.Joins.cell_of_block hb3 1
        have F0 := Go.Joins.unfrozen_of_block hb3 0
        have F1 := Go.Joins.unfrozen_of_block hb3 1
        simp at C0 C1
        have HB3 := Lib.hid hb3
        clear hb3
        go_wp2
        have hb9 := blk_two (x' := .int .i64 1) (y' := .int .i64 z) HB3.out
        have G9 := Lib.hid (gr_store (j := 1) (u := .int .i64 z) (gr_store (j := 0) (u := .int .i64 1) G3.out (Nat.le_refl _)) (Nat.le_refl _))
        have c9 := (Cur.stored c3 hcb3 (j := 0) hcb HL.out (.int .i64 1)).stored (by rw [size_set]; exact hcb3) (j := 1) hcb HL.out (.int .i64 z)
        clear C0 C1 F0 F1
        generalize (w3.setCell ⟨w.heap.size, 0, none⟩ (.int .i64 1)).setCell ⟨w.heap.size, 1, none⟩ (.int .i64 z) = w9 at *
        have D0 := Go.Joins.cell_of_block hb9 0
        have D1 := Go.Joins.cell_of_block hb9 1
        simp at D0 D1
        exact bodyPost_ret (v := .agg #[.int .i64 1, .int .i64 z]) (by simp [results, Try.results103, go_sem, D0, D1]) rfl ⟨1, z, rfl, Or.inr (Or.inl ⟨rfl, z0, z1⟩), c9, G9.out⟩
      · clear e0 e2
        go_wp2_with (fail)
        refine (below_pos 3000 cb a len cap w1 (by omega) (by omega) c1).mono ?_
        rintro e w2 ⟨y, rfl, y0, y1, c2, g2, s2⟩
        have hb2 := blk_kept hb1 g2 (by omega)
        have hcb2 : cb < w2.heap.size := Nat.lt_of_lt_of_le hcb1 g2.size
        have G2 := Lib.hid (gr_trans G1.out g2)
        clear hb1 g2 s2
        go_wp2_with (fail)
        refine (pick_r 0 3000 (by decide) (by decide) [0, 64, 100, 640, 1000, 33, y] 7 rfl (by omega) (by omega) (by intro z hz; simp at hz; omega) cb a len cap w2 hcb2 c2).mono ?_
        rintro e w3 ⟨z, rfl, z0, z1, c3, g3⟩
        have hb3 := blk_kept hb2 g3 (by omega)
        have hcb3 : cb < w3.heap.size := Nat.lt_of_lt_of_le hcb2 g3.size
        have G3 := Lib.hid (gr_trans G2.out g3)
        clear hb2 g3
        have C0 := Go.Joins.cell_of_block hb3 0
        have C1 := Go.Joins.cell_of_block hb3 1
        have F0 := Go.Joins.unfrozen_of_block hb3 0
        have F1 := Go.Joins.unfrozen_of_block hb3 1
        simp at C0 C1
        have HB3 := Lib.hid hb3
        clear hb3
        go_wp2
        have hb9 := blk_two (x' := .int .i64 1) (y' := .int .i64 z) HB3.out
        have G9 := Lib.hid (gr_store (j := 1) (u := .int .i64 z) (gr_store (j := 0) (u := .int .i64 1) G3.out (Nat.le_refl _)) (Nat.le_refl _))
        have c9 := (Cur.stored c3 hcb3 (j := 0) hcb HL.out (.int .i64 1)).stored (by rw [size_set]; exact hcb3) (j := 1) hcb HL.out (.int .i64 z)
        clear C0 C1 F0 F1
        generalize (w3.setCell ⟨w.heap.size, 0, none⟩ (.int .i64 1)).setCell ⟨w.heap.size, 1, none⟩ (.int .i64 z) = w9 at *
        have D0 := Go.Joins.cell_of_block hb9 0
        have D1 := Go.Joins.cell_of_block hb9 1
        simp at D0 D1
        exact bodyPost_ret (v := .agg #[.int .i64 1, .int .i64 z]) (by simp [results, Try.results103, go_sem, D0, D1]) rfl ⟨1, z, rfl, Or.inr (Or.inl ⟨rfl, z0, z1⟩), c9, G9.out⟩
    · have e2 : (x == 0) = false := by simp; omega
      have e3 : (x == 1) = false := by simp; omega
      have e4 : (x == 2) = false := by simp; omega
      clear e0 e1
      have C0 := Go.Joins.cell_of_block hb1 0
      have C1 := Go.Joins.cell_of_block hb1 1
      have F0 := Go.Joins.unfrozen_of_block hb1 0
      have F1 := Go.Joins.unfrozen_of_block hb1 1
      simp at C0 C1
      have HB1 := Lib.hid hb1
      clear hb1
      go_wp2
      have hb9 := blk_two (x' := .int .i64 0) (y' := .int .i64 0) HB1.out
      have G9 := Lib.hid (gr_store (j := 1) (u := .int .i64 0) (gr_store (j := 0) (u := .int .i64 0) G1.out (Nat.le_refl _)) (Nat.le_refl _))
      have c9 := (Cur.stored c1 hcb1 (j := 0) hcb HL.out (.int .i64 0)).stored (by rw [size_set]; exact hcb1) (j := 1) hcb HL.out (.int .i64 0)
      clear C0 C1 F0 F1
      generalize (w1.setCell ⟨w.heap.size, 0, none⟩ (.int .i64 0)).setCell ⟨w.heap.size, 1, none⟩ (.int .i64 0) = w9 at *
      have D0 := Go.Joins.cell_of_block hb9 0
      have D1 := Go.Joins.cell_of_block hb9 1
      simp at D0 D1
      exact bodyPost_ret (v := .agg #[.int .i64 0, .int .i64 0]) (by simp [results, Try.results103, go_sem, D0, D1]) rfl ⟨0, 0, rfl, Or.inl ⟨rfl, rfl⟩, c9, G9.out⟩
end Go.Proofs.Ytiogjbdaaplhpaa
end
section
namespace Go.Proofs.Ytiogjbdaaplhpaa
open Go.ChangeShapes Go.WideShapes Go.ChangeAt Go.RowKit
set_option linter.unusedVariables false
set_option linter.unusedSimpArgs false
set_option maxRecDepth 8000

set_option maxHeartbeats 1000000 in
theorem l10at_any (va : Option Addr) (vc n cb : Nat) (a : Option Addr) (len cap : Nat) (w : World) (hn : 1 ≤ n) (hn2 : n ≤ 1000) (hcb : cb < w.heap.size) (hlt : 0 < len → ∀ b off, a = some ⟨b, off, none⟩ → b < w.heap.size) (hc : Cur cb a len cap w) :
    Calls Try.prog 57 #[.pointer (some ⟨cb, 0, none⟩), .agg #[.slice va n vc]] w (DrewPost (-1) 1000 cb a len cap w) := by
  have g0 := gr_new w (.cells #[.slice va n vc] 26) cb
  have c0 := hc.kept hcb (World.grownBy_alloc w (.cells #[.slice va n vc] 26) none) (fun k hk => by cases hk)
  have h0 := hp_new w (.cells #[.slice va n vc] 26)
  obtain ⟨u, eu⟩ : ∃ u, u = w.alloc (.cells #[.slice va n vc] 26) := ⟨_, rfl⟩
  rw [← eu] at g0 c0 h0
  have EU := Lib.hid eu
  have zt : u.cell? ⟨w.heap.size, 0, none⟩ = some (.slice va n vc) := (Go.Joins.cell_of_block h0 0).trans rfl
  have hcu : cb < u.heap.size := Nat.lt_of_lt_of_le hcb g0.size
  clear eu h0
  go_enter Try.func57, Try.ntmps57
  go_wp2_with (first | (rw [← EU.out]) | fail)
  refine (below_pos (n : Int) cb a len cap u (by omega) (by omega) c0).mono ?_
  rintro e w1 ⟨x, rfl, x0, x1, c1, g1, s1⟩
  clear s1
  have hx : IntKind.i64.wrap (x + 1) = x + 1 := IntWalk.i64_in _ (by omega)
  have hcb1 : cb < w1.heap.size := Nat.lt_of_lt_of_le hcu g1.size
  have G1 := Lib.hid (gr_trans g0 g1)
  clear zt EU g0 g1 c0
  (try dsimp only)
  go_wp2_with (fail)
  refine (pick_r (-1) 1000 (by decide) (by decide) [1, 1, 2, 3, x + 1, 0, -1, 13] 8 rfl (by omega) (by omega) (by intro z hz; simp at hz; omega) cb a len cap w1 hcb1 c1).mono ?_
  rintro e w2 ⟨y, rfl, y0, y1, c2, g2⟩
  (try dsimp only)
  go_wp2
  go_ret
  exact ⟨y, rfl, y0, y1, c2, gr_trans G1.out g2⟩
end Go.Proofs.Ytiogjbdaaplhpaa
end

import Derived.Lib.SmallJoins
import Derived.Test.YtckpjldenkjddaaZtAB
import Derived.Test.YtckpjldenkjddaaZtAE
section
namespace Go.Proofs.Ytckpjldenkjddaa
open Go.ChangeShapes Go.WideShapes Go.ChangeAt Go.RowKit

theorem code_lt {w : World} {a : Option Addr} {len : Nat} (h : Code w a len) (h0 : 0 < len) : ∀ b off, a = some ⟨b, off, none⟩ → b < w.heap.size := by
  intro b off ha
  rcases h with h | ⟨b', off', ha', hb, _⟩
  · omega
  · rw [ha] at ha'; simp at ha'; rw [ha'.1]; exact hb

/-- The new cursor, as every draw wants it. -/
theorem new_cur (a : Option Addr) (len cap : Nat) (w : World) (hl : len ≤ 1048576) (hc : Code w a len) :
    Calls Try.prog 55 #[.slice a len cap] w fun e w' => e = .returned (.pointer (some ⟨w.heap.size, 0, none⟩)) ∧ Cur w.heap.size a len cap w' ∧ Below w.heap.size w w' ∧ w.heap.size < w'.heap.size := by
  have hap := fun h0 => code_lt hc h0
  refine (new_any a len cap w hl hc).mono ?_
  rintro e w1 ⟨h, rfl, hcur, hb, hsz⟩
  exact ⟨rfl, ⟨⟨0, h, Nat.zero_le _, hcur⟩, hc.below hb, hl, fun h0 b off e => by have := hap h0 b off e; omega⟩, hb, by omega⟩
end Go.Proofs.Ytckpjldenkjddaa
end
section
namespace Go.Proofs.Ytckpjldenkjddaa
open Go.ChangeShapes Go.WideShapes Go.ChangeAt Go.RowKit

def IsI (x : Int) : Prop := -9223372036854775808 ≤ x ∧ x ≤ 9223372036854775807
/-- What a draw of a value leaves. -/
def ValPost (cb : Nat) (a : Option Addr) (len cap : Nat) (w : World) (e : Ending) (w' : World) : Prop :=
  ∃ k n : Int, e = .returned (.agg #[.int .i64 k, .int .i64 n]) ∧ IsI k ∧ IsI n ∧ Cur cb a len cap w' ∧ w.grownBy w' (some cb)

/-- A number drawn out of a list that was just written down. -/
theorem pick_lit (zs : List Int) (n : Nat) (hn : zs.length = n) (h1 : 1 ≤ n) (h2 : n ≤ 1000) (hr : ∀ z ∈ zs, -9223372036854775808 ≤ z ∧ z ≤ 9223372036854775807) (cb : Nat) (a : Option Addr) (len cap : Nat) (w : World) (hcb : cb < w.heap.size) (hc : Cur cb a len cap w) :
    Calls Try.prog 60 #[.pointer (some ⟨cb, 0, none⟩), .slice (some ⟨w.heap.size, 0, none⟩) n n] (w.alloc (.cells (zs.map (Value.int .i64)).toArray 3)) (DrewPost (-9223372036854775808) 9223372036854775807 cb a len cap w) := by
  subst hn
  have ga := World.grownBy_alloc w (.cells (zs.map (Value.int .i64)).toArray 3) none
  refine (pick_any w.heap.size 0 zs.length zs.length zs cb a len cap _ h1 h2 (lit_ints w zs hr) (by omega) (hc.kept hcb ga (fun k hk => by cases hk))).mono ?_
  rintro e w2 ⟨y, rfl, y0, y1, c2, g2⟩
  exact ⟨y, rfl, y0, y1, c2, gr_trans (gr_none ga (some cb)) g2⟩
/-- A block of two cells, stored into whole. -/
theorem blk_two {w : World} {g : Nat} {x y x' y' : Value} {t : TypeId} (h : w.heap[g]? = some (.cells #[x, y] t (0, 0))) : ((w.setCell ⟨g, 0, none⟩ x').setCell ⟨g, 1, none⟩ y').heap[g]? = some (.cells #[x', y'] t (0, 0)) := by
  rw [Go.Joins.block_setCell (Go.Joins.block_setCell h x') y']; rfl
set_option maxHeartbeats 400000 in
theorem val_any (cb : Nat) (a : Option Addr) (len cap : Nat) (w : World) (hcb : cb < w.heap.size) (hlt : 0 < len → ∀ b off, a = some ⟨b, off, none⟩ → b < w.heap.size) (hc : Cur cb a len cap w) :
    Calls Try.prog 103 #[.pointer (some ⟨cb, 0, none⟩)] w (ValPost cb a len cap w) := by
  have ga := World.grownBy_alloc w (.cells #[.int .i64 0, .int .i64 0] 35) none
  have hc0 : Cur cb a len cap (w.alloc (.cells #[.int .i64 0, .int .i64 0] 35)) := hc.kept hcb ga (fun k hk => by cases hk)
  have HB := Lib.hid (blk_new w (.cells #[.int .i64 0, .int .i64 0] 35))
  have HL := Lib.hid hlt
  clear ga hlt
  go_enter Try.func103, Try.ntmps103
  go_wp2_with (fail)
  refine (below_pos 6 cb a len cap _ (by omega) (by omega) hc0).mono ?_
  rintro e w1 ⟨x, rfl, x0, x1, c1, g1, s1⟩
  have hcb1 : cb < w1.heap.size := Nat.lt_of_lt_of_le (by simp; omega) g1.size
  have hb1 := blk_kept HB.out g1 (by omega)
  have G1 := Lib.hid (gr_trans (gr_new w _ cb) g1)
  have S1 := Lib.hid s1
  clear s1 g1
  by_cases e0 : x = 0
  · subst e0
    go_wp2_with (fail)
    refine (pick_lit [0, 10, 25, 50, 100, 150, 33] 7 rfl (by omega) (by omega) (by decide) cb a len cap w1 hcb1 c1).mono ?_
    rintro e w2 ⟨y, rfl, y0, y1, c2, g2⟩
    have hb2 := blk_kept hb1 g2 (by omega)
    have hcb2 : cb < w2.heap.size := Nat.lt_of_lt_of_le hcb1 g2.size
    have G2 := Lib.hid (gr_trans G1.out g2)
    clear hb1 g2
    have C0 := Go.Joins.cell_of_block hb2 0
    have C1 := Go.Joins.cell_of_block hb2 1
    have F0 := Go.Joins.unfrozen_of_block hb2 0
    have F1 := Go.Joins.unfrozen_of_block hb2 1
    simp at C0 C1
    have HB2 := Lib.hid hb2
    clear hb2
    go_wp2
    have hb9 := blk_two (x' := .int .i64 2) (y' := .int .i64 y) HB2.out
    have G9 := Lib.hid (gr_store (j := 1) (u := .int .i64 y) (gr_store (j := 0) (u := .int .i64 2) G2.out (Nat.le_refl _)) (Nat.le_refl _))
    have c9 := (Cur.stored c2 hcb2 (j := 0) hcb HL.out (.int .i64 2)).stored (by rw [size_set]; exact hcb2) (j := 1) hcb HL.out (.int .i64 y)
    clear C0 C1 F0 F1
    generalize (w2.setCell ⟨w.heap.size, 0, none⟩ (.int .i64 2)).setCell ⟨w.heap.size, 1, none⟩ (.int .i64 y) = w9 at *
    have D0 := Go.Joins.cell_of_block hb9 0
    have D1 := Go.Joins.cell_of_block hb9 1
    simp at D0 D1
    exact bodyPost_ret (v := .agg #[.int .i64 2, .int .i64 y]) (by simp [results, Try.results103, go_sem, D0, D1]) rfl ⟨2, y, rfl, ⟨by omega, by omega⟩, ⟨y0, y1⟩, c9, G9.out⟩
  · by_cases e1 : x = 1 ∨ x = 2
    · have e2 : ((x == 1) || (x == 2)) = true := by simp; omega
      rcases e1 with rfl | rfl
      · clear e0 e2
        go_wp2_with (fail)
        refine (below_pos 3000 cb a len cap w1 (by omega) (by omega) c1).mono ?_
        rintro e w2 ⟨y, rfl, y0, y1, c2, g2, s2⟩
        have hb2 := blk_kept hb1 g2 (by omega)
        have hcb2 : cb < w2.heap.size := Nat.lt_of_lt_of_le hcb1 g2.size
        have G2 := Lib.hid (gr_trans G1.out g2)
        clear hb1 g2 s2
        go_wp2_with (fail)
        refine (pick_lit [0, 64, 100, 640, 1000, 33, y] 7 rfl (by omega) (by omega) (by intro z hz; simp at hz; omega) cb a len cap w2 hcb2 c2).mono ?_
        rintro e w3 ⟨z, rfl, z0, z1, c3, g3⟩
        have hb3 := blk_kept hb2 g3 (by omega)
        have hcb3 : cb < w3.heap.size := Nat.lt_of_lt_of_le hcb2 g3.size
        have G3 := Lib.hid (gr_trans G2.out g3)
        clear hb2 g3
        have C0 := Go.Joins.cell_of_block hb3 0
        have C1 := Go.Joins.cell_of_block hb3 1
        have F0 := Go.Joins.unfrozen_of_block hb3 0
        have F1 := Go.Joins.unfrozen_of_block hb3 1
        simp at C0 C1
        have HB3 := Lib.hid hb3
        clear hb3
        go_wp2
        have hb9 := blk_two (x' := .int .i64 1) (y' := .int .i64 z) HB3.out
        have G9 := Lib.hid (gr_store (j := 1) (u := .int .i64 z) (gr_store (j := 0) (u := .int .i64 1) G3.out (Nat.le_refl _)) (Nat.le_refl _))
        have c9 := (Cur.stored c3 hcb3 (j := 0) hcb HL.out (.int .i64 1)).stored (by rw [size_set]; exact hcb3) (j := 1) hcb HL.out (.int .i64 z)
        clear C0 C1 F0 F1
        generalize (w3.setCell ⟨w.heap.size, 0, none⟩ (.int .i64 1)).setCell ⟨w.heap.size, 1, none⟩ (.int .i64 z) = w9 at *
        have D0 := Go.Joins.cell_of_block hb9 0
        have D1 := Go.Joins.cell_of_block hb9 1
        simp at D0 D1
        exact bodyPost_ret (v := .agg #[.int .i64 1, .int .i64 z]) (by simp [results, Try.results103, go_sem, D0, D1]) rfl ⟨1, z, rfl, ⟨by omega, by omega⟩, ⟨z0, z1⟩, c9, G9.out⟩
      · clear e0 e2
        go_wp2_with (fail)
        refine (below_pos 3000 cb a len cap w1 (by omega) (by omega) c1).mono ?_
        rintro e w2 ⟨y, rfl, y0, y1, c2, g2, s2⟩
        have hb2 := blk_kept hb1 g2 (by omega)
        have hcb2 : cb < w2.heap.size := Nat.lt_of_lt_of_le hcb1 g2.size
        have G2 := Lib.hid (gr_trans G1.out g2)
        clear hb1 g2 s2
        go_wp2_with (fail)
        refine (pick_lit [0, 64, 100, 640, 1000, 33, y] 7 rfl (by omega) (by omega) (by intro z hz; simp at hz; omega) cb a len cap w2 hcb2 c2).mono ?_
        rintro e w3 ⟨z, rfl, z0, z1, c3, g3⟩
        have hb3 := blk_kept hb2 g3 (by omega)
        have hcb3 : cb < w3.heap.size := Nat.lt_of_lt_of_le hcb2 g3.size
        have G3 := Lib.hid (gr_trans G2.out g3)
        clear hb2 g3
        have C0 := Go.Joins.cell_of_block hb3 0
        have C1 := Go.Joins.cell_of_block hb3 1
        have F0 := Go.Joins.unfrozen_of_block hb3 0
        have F1 := Go.Joins.unfrozen_of_block hb3 1
        simp at C0 C1
        have HB3 := Lib.hid hb3
        clear hb3
        go_wp2
        have hb9 := blk_two (x' := .int .i64 1) (y' := .int .i64 z) HB3.out
        have G9 := Lib.hid (gr_store (j := 1) (u := .int .i64 z) (gr_store (j := 0) (u := .int .i64 1) G3.out (Nat.le_refl _)) (Nat.le_refl _))
        have c9 := (Cur.stored c3 hcb3 (j := 0) hcb HL.out (.int .i64 1)).stored (by rw [size_set]; exact hcb3) (j := 1) hcb HL.out (.int .i64 z)
        clear C0 C1 F0 F1
        generalize (w3.setCell ⟨w.heap.size, 0, none⟩ (.int .i64 1)).setCell ⟨w.heap.size, 1, none⟩ (.int .i64 z) = w9 at *
        have D0 := Go.Joins.cell_of_block hb9 0
        have D1 := Go.Joins.cell_of_block hb9 1
        simp at D0 D1
        exact bodyPost_ret (v := .agg #[.int .i64 1, .int .i64 z]) (by simp [results, Try.results103, go_sem, D0, D1]) rfl ⟨1, z, rfl, ⟨by omega, by omega⟩, ⟨z0, z1⟩, c9, G9.out⟩
    · have e2 : (x == 0) = false := by simp; omega
      have e3 : (x == 1) = false := by simp; omega
      have e4 : (x == 2) = false := by simp; omega
      clear e0 e1
      have C0 := Go.Joins.cell_of_block hb1 0
      have C1 := Go.Joins.cell_of_block hb1 1
      have F0 := Go.Joins.unfrozen_of_block hb1 0
      have F1 := Go.Joins.unfrozen_of_block hb1 1
      simp at C0 C1
      have HB1 := Lib.hid hb1
      clear hb1
      go_wp2
      have hb9 := blk_two (x' := .int .i64 0) (y' := .int .i64 0) HB1.out
      have G9 := Lib.hid (gr_store (j := 1) (u := .int .i64 0) (gr_store (j := 0) (u := .int .i64 0) G1.out (Nat.le_refl _)) (Nat.le_refl _))
      have c9 := (Cur.stored c1 hcb1 (j := 0) hcb HL.out (.int .i64 0)).stored (by rw [size_set]; exact hcb1) (j := 1) hcb HL.out (.int .i64 0)
      clear C0 C1 F0 F1
      generalize (w1.setCell ⟨w.heap.size, 0, none⟩ (.int .i64 0)).setCell ⟨w.heap.size, 1, none⟩ (.int .i64 0) = w9 at *
      have D0 := Go.Joins.cell_of_block hb9 0
      have D1 := Go.Joins.cell_of_block hb9 1
      simp at D0 D1
      exact bodyPost_ret (v := .agg #[.int .i64 0, .int .i64 0]) (by simp [results, Try.results103, go_sem, D0, D1]) rfl ⟨0, 0, rfl, ⟨by omega, by omega⟩, ⟨by omega, by omega⟩, c9, G9.out⟩
end Go.Proofs.Ytckpjldenkjddaa
end

/-
  What a draw keeps; the drawing of a number out of a written list, within the list's bounds. Conditions: those of the cursor.
-/
import Derived.Test.YtdpibpelghnihaaPick
namespace Go.Proofs.Ytdpibpelghnihaa
open Go.ChangeShapes Go.WideShapes Go.ChangeAt Go.RowKit
set_option linter.unusedVariables false
set_option linter.unusedSimpArgs false

theorem gr_store {w w1 : World} {cb g j : Nat} {u : Value} (h : w.grownBy w1 (some cb)) (hg : w.heap.size ≤ g) : w.grownBy (w1.setCell ⟨g, j, none⟩ u) (some cb) :=
  ⟨h.os, h.tape, h.output, by simpa [World.setCell] using h.size, fun i hi hne => (Below.heap_setCell w1 ⟨g, j, none⟩ u i (show i ≠ g by omega)).trans (h.block i hi hne)⟩
theorem gr_new (w : World) (o : Obj) (cb : Nat) : w.grownBy (w.alloc o) (some cb) := gr_none (World.grownBy_alloc w o none) (some cb)
/-- A block that the call made, behind a draw. -/
theorem blk_kept {w w' : World} {cb g : Nat} {o : Obj} (h : w.heap[g]? = some o) (hg : w.grownBy w' (some cb)) (hne : g ≠ cb) : w'.heap[g]? = some o := by
  have hlt : g < w.heap.size := by
    apply Nat.lt_of_not_le
    intro hge
    rw [Array.getElem?_eq_none hge] at h
    cases h
  rw [hg.block g hlt (by simpa using hne)]
  exact h
theorem blk_new (w : World) (o : Obj) : (w.alloc o).heap[w.heap.size]? = some o := (MapKept.heap_alloc w o).1
theorem Cur.stored {cb : Nat} {a : Option Addr} {len cap : Nat} {w : World} (h : Cur cb a len cap w) (hcb : cb < w.heap.size) {g j : Nat} (hg : cb < g) (hg' : 0 < len → ∀ b off, a = some ⟨b, off, none⟩ → b < g) (u : Value) : Cur cb a len cap (w.setCell ⟨g, j, none⟩ u) :=
  h.kept hcb (gr_self w g j u) (fun k hk => by simp at hk; subst hk; exact ⟨hg, hg'⟩)

theorem pick_rng (lo hi : Int) (b off n cap1 : Nat) (zs : List Int) (cb : Nat) (a : Option Addr) (len cap : Nat) (w : World) (h1 : 1 ≤ n) (h2 : n ≤ 1000) (hr : ∀ z ∈ zs, lo ≤ z ∧ z ≤ hi) (hz : Ints w (some ⟨b, off, none⟩) n zs) (hne : b ≠ cb) (hc : Cur cb a len cap w) :
    Calls Try.prog 31 #[.pointer (some ⟨cb, 0, none⟩), .slice (some ⟨b, off, none⟩) n cap1] w (DrewPost lo hi cb a len cap w) := by
  have HZ := Lib.hid hz
  clear hz
  go_enter Try.func31, Try.ntmps31
  go_wp2_with (fail)
  refine (below_pos n cb a len cap w (by omega) (by omega) hc).mono ?_
  rintro e w1 ⟨x, rfl, x0, x1, c1, g1, s1⟩
  obtain ⟨k, rfl⟩ := Int.eq_ofNat_of_zero_le x0
  have hz1 := HZ.out.grown g1 hne
  have hlt : k < n := by omega
  obtain ⟨b', off', hba, hbl, hcell⟩ := hz1.look hlt
  simp at hba
  obtain ⟨rfl, rfl⟩ := hba
  have hlo : (0 : Int) ≤ (k : Int) := Int.natCast_nonneg _
  have hhi : (k : Int) < (n : Int) := by omega
  have hin := hr (zs.getD k 0) (by
    have : k < zs.length := by rw [hz1.1]; exact hlt
    simp [List.getD, this])
  have S1 := Lib.hid s1
  clear s1 hz1
  generalize zs.getD k 0 = z at *
  go_wp2
  go_ret
  exact ⟨z, rfl, hin.1, hin.2, c1, g1⟩
theorem pick_r (lo hi : Int) (hlo : -9223372036854775808 ≤ lo) (hhi : hi ≤ 9223372036854775807) (zs : List Int) (n : Nat) (hn : zs.length = n) (h1 : 1 ≤ n) (h2 : n ≤ 1000) (hr : ∀ z ∈ zs, lo ≤ z ∧ z ≤ hi) (cb : Nat) (a : Option Addr) (len cap : Nat) (w : World) (hcb : cb < w.heap.size) (hc : Cur cb a len cap w) :
    Calls Try.prog 31 #[.pointer (some ⟨cb, 0, none⟩), .slice (some ⟨w.heap.size, 0, none⟩) n n] (w.alloc (.cells (zs.map (Value.int .i64)).toArray 3)) (DrewPost lo hi cb a len cap w) := by
  subst hn
  have ga := World.grownBy_alloc w (.cells (zs.map (Value.int .i64)).toArray 3) none
  refine (pick_rng lo hi w.heap.size 0 zs.length zs.length zs cb a len cap _ h1 h2 hr (lit_ints w zs (fun z hz => by have := hr z hz; omega)) (by omega) (hc.kept hcb ga (fun k hk => by cases hk))).mono ?_
  rintro e w2 ⟨y, rfl, y0, y1, c2, g2⟩
  exact ⟨y, rfl, y0, y1, c2, gr_trans (gr_none ga (some cb)) g2⟩
end Go.Proofs.Ytdpibpelghnihaa

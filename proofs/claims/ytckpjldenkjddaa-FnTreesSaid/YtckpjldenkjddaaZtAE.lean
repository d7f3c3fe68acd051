import Derived.Test.YtckpjldenkjddaaZtAA
import Derived.Test.YtckpjldenkjddaaZtAB
section
namespace Go.Proofs.Ytckpjldenkjddaa
open Go.ChangeShapes Go.WideShapes Go.ChangeAt Go.RowKit

/-- What a draw of a number leaves that may have made memory of its own. -/
def DrewPost (lo hi : Int) (cb : Nat) (a : Option Addr) (len cap : Nat) (w : World) (e : Ending) (w' : World) : Prop :=
  ∃ x : Int, e = .returned (.int .i64 x) ∧ lo ≤ x ∧ x ≤ hi ∧ Cur cb a len cap w' ∧ w.grownBy w' (some cb)

theorem gr_none {w w' : World} (h : w.grownBy w' none) (row : Option Nat) : w.grownBy w' row := ⟨h.os, h.tape, h.output, h.size, fun i hi _ => h.block i hi (by simp)⟩
theorem Ints.grown {w w' : World} {b off len : Nat} {zs : List Int} {cb : Nat} (h : Ints w (some ⟨b, off, none⟩) len zs) (hg : w.grownBy w' (some cb)) (hne : b ≠ cb) : Ints w' (some ⟨b, off, none⟩) len zs := by
  refine ⟨h.1, h.2.1, ?_⟩
  rcases h.2.2 with h0 | ⟨b', off', ha, hlt, hc⟩
  · exact Or.inl h0
  · simp at ha
    obtain ⟨rfl, rfl⟩ := ha
    exact Or.inr ⟨b, off, rfl, Nat.lt_of_lt_of_le hlt hg.size, fun i hi => hg.cell (hc i hi) (by simpa using hne)⟩
/-- A list that was just written down. -/
theorem lit_ints (w : World) (zs : List Int) (hr : ∀ z ∈ zs, -9223372036854775808 ≤ z ∧ z ≤ 9223372036854775807) :
    Ints (w.alloc (.cells (zs.map (Value.int .i64)).toArray 3)) (some ⟨w.heap.size, 0, none⟩) zs.length zs := by
  refine ⟨rfl, hr, Or.inr ⟨w.heap.size, 0, rfl, by simp, fun j hj => ?_⟩⟩
  have h := (MapKept.heap_alloc w (.cells (zs.map (Value.int .i64)).toArray 3)).1
  simp only [World.cell?, h]
  simp [hj]

theorem pick_any (b off n cap1 : Nat) (zs : List Int) (cb : Nat) (a : Option Addr) (len cap : Nat) (w : World) (h1 : 1 ≤ n) (h2 : n ≤ 1000) (hz : Ints w (some ⟨b, off, none⟩) n zs) (hne : b ≠ cb) (hc : Cur cb a len cap w) :
    Calls Try.prog 60 #[.pointer (some ⟨cb, 0, none⟩), .slice (some ⟨b, off, none⟩) n cap1] w (DrewPost (-9223372036854775808) 9223372036854775807 cb a len cap w) := by
  have HZ := Lib.hid hz
  clear hz
  go_enter Try.func60, Try.ntmps60
  go_wp2_with (fail)
  refine (below_pos n cb a len cap w (by omega) (by omega) hc).mono ?_
  rintro e w1 ⟨x, rfl, x0, x1, c1, g1, s1⟩
  obtain ⟨k, rfl⟩ := Int.eq_ofNat_of_zero_le x0
  have hz1 := HZ.out.grown g1 hne
  have hlt : k < n := by omega
  obtain ⟨b', off', hba, hbl, hcell⟩ := hz1.look hlt
  simp at hba
  obtain ⟨rfl, rfl⟩ := hba
  have hlo : (0 : Int) ≤ (k : Int) := Int.natCast_nonneg _
  have hhi : (k : Int) < (n : Int) := by omega
  have hin := hz1.2.1 (zs.getD k 0) (by
    have : k < zs.length := by rw [hz1.1]; exact hlt
    simp [List.getD, this])
  have S1 := Lib.hid s1
  clear s1 hz1
  generalize zs.getD k 0 = z at *
  go_wp2
  go_ret
  exact ⟨z, rfl, hin.1, hin.2, c1, g1⟩
end Go.Proofs.Ytckpjldenkjddaa
end
section
namespace Go.Proofs.Ytckpjldenkjddaa
open Go.ChangeShapes Go.WideShapes Go.ChangeAt Go.RowKit

set_option maxHeartbeats 400000 in
theorem l02_any (cb : Nat) (a : Option Addr) (len cap : Nat) (w : World) (hcb : cb < w.heap.size) (hc : Cur cb a len cap w) :
    Calls Try.prog 127 #[.pointer (some ⟨cb, 0, none⟩)] w (DrewPost (-9223372036854775808) 9223372036854775807 cb a len cap w) := by
  go_enter Try.func127, Try.ntmps127
  go_wp2_with (fail)
  refine (below_pos 6 cb a len cap w (by omega) (by omega) hc).mono ?_
  rintro e w1 ⟨x, rfl, x0, x1, c1, g1, s1⟩
  have hcb1 : cb < w1.heap.size := Nat.lt_of_lt_of_le hcb g1.size
  have S1 := Lib.hid s1
  clear s1
  by_cases e0 : x = 0
  · subst e0
    go_wp2_with (fail)
    have hl := lit_ints w1 [0, 1, -1, 64, 1048576, 1048577, -1048576, -1048577, 9223372036854775807, -9223372036854775808] (by decide)
    have ga := World.grownBy_alloc w1 (.cells ([0, 1, -1, 64, 1048576, 1048577, -1048576, -1048577, 9223372036854775807, -9223372036854775808].map (Value.int .i64)).toArray 3) none
    have hc2 : Cur cb a len cap (w1.alloc (.cells ([0, 1, -1, 64, 1048576, 1048577, -1048576, -1048577, 9223372036854775807, -9223372036854775808].map (Value.int .i64)).toArray 3)) := c1.kept hcb1 ga (fun k hk => by cases hk)
    refine (pick_any w1.heap.size 0 10 10 _ cb a len cap _ (by omega) (by omega) hl (by omega) hc2).mono ?_
    rintro e w2 ⟨y, rfl, y0, y1, c2, g2⟩
    have G := Lib.hid (gr_trans (gr_trans g1 (gr_none ga (some cb))) g2)
    clear hl ga hc2 g2
    go_wp2
    go_ret
    exact ⟨y, rfl, y0, y1, c2, G.out⟩
  · by_cases e1 : x = 1
    · subst e1
      go_wp2_with (fail)
      refine (below_pos 5000 cb a len cap w1 (by omega) (by omega) c1).mono ?_
      rintro e w2 ⟨y, rfl, y0, y1, c2, g2, s2⟩
      have S2 := Lib.hid s2
      clear s2
      go_wp2
      go_ret
      exact ⟨_, rfl, by omega, by omega, c2, gr_trans g1 g2⟩
    · go_wp2_with (fail)
      refine (below_pos 8000 cb a len cap w1 (by omega) (by omega) c1).mono ?_
      rintro e w2 ⟨y, rfl, y0, y1, c2, g2, s2⟩
      have S2 := Lib.hid s2
      clear s2
      go_wp2
      go_ret
      exact ⟨_, rfl, by omega, by omega, c2, gr_trans g1 g2⟩
end Go.Proofs.Ytckpjldenkjddaa
end
section
namespace Go.Proofs.Ytckpjldenkjddaa
open Go.ChangeShapes Go.WideShapes Go.ChangeAt Go.RowKit
set_option linter.unusedVariables false
set_option linter.unusedSimpArgs false

theorem gr_store {w w1 : World} {cb g j : Nat} {u : Value} (h : w.grownBy w1 (some cb)) (hg : w.heap.size ≤ g) : w.grownBy (w1.setCell ⟨g, j, none⟩ u) (some cb) :=
  ⟨h.os, h.tape, h.output, by simpa [World.setCell] using h.size, fun i hi hne => (Below.heap_setCell w1 ⟨g, j, none⟩ u i (show i ≠ g by omega)).trans (h.block i hi hne)⟩
theorem gr_new (w : World) (o : Obj) (cb : Nat) : w.grownBy (w.alloc o) (some cb) := gr_none (World.grownBy_alloc w o none) (some cb)
/-- A block that the call made, behind a draw. -/
theorem blk_kept {w w' : World} {cb g : Nat} {o : Obj} (h : w.heap[g]? = some o) (hg : w.grownBy w' (some cb)) (hne : g ≠ cb) : w'.heap[g]? = some o := by
  have hlt : g < w.heap.size := by
    apply Nat.lt_of_not_le
    intro hge
    rw [Array.getElem?_eq_none hge] at h
    cases h
  rw [hg.block g hlt (by simpa using hne)]
  exact h
theorem blk_new (w : World) (o : Obj) : (w.alloc o).heap[w.heap.size]? = some o := (MapKept.heap_alloc w o).1
theorem Cur.stored {cb : Nat} {a : Option Addr} {len cap : Nat} {w : World} (h : Cur cb a len cap w) (hcb : cb < w.heap.size) {g j : Nat} (hg : cb < g) (hg' : 0 < len → ∀ b off, a = some ⟨b, off, none⟩ → b < g) (u : Value) : Cur cb a len cap (w.setCell ⟨g, j, none⟩ u) :=
  h.kept hcb (gr_self w g j u) (fun k hk => by simp at hk; subst hk; exact ⟨hg, hg'⟩)

theorem pick_rng (lo hi : Int) (b off n cap1 : Nat) (zs : List Int) (cb : Nat) (a : Option Addr) (len cap : Nat) (w : World) (h1 : 1 ≤ n) (h2 : n ≤ 1000) (hr : ∀ z ∈ zs, lo ≤ z ∧ z ≤ hi) (hz : Ints w (some ⟨b, off, none⟩) n zs) (hne : b ≠ cb) (hc : Cur cb a len cap w) :
    Calls Try.prog 60 #[.pointer (some ⟨cb, 0, none⟩), .slice (some ⟨b, off, none⟩) n cap1] w (DrewPost lo hi cb a len cap w) := by
  have HZ := Lib.hid hz
  clear hz
  go_enter Try.func60, Try.ntmps60
  go_wp2_with (fail)
  refine (below_pos n cb a len cap w (by omega) (by omega) hc).mono ?_
  rintro e w1 ⟨x, rfl, x0, x1, c1, g1, s1⟩
  obtain ⟨k, rfl⟩ := Int.eq_ofNat_of_zero_le x0
  have hz1 := HZ.out.grown g1 hne
  have hlt : k < n := by omega
  obtain ⟨b', off', hba, hbl, hcell⟩ := hz1.look hlt
  simp at hba
  obtain ⟨rfl, rfl⟩ := hba
  have hlo : (0 : Int) ≤ (k : Int) := Int.natCast_nonneg _
  have hhi : (k : Int) < (n : Int) := by omega
  have hin := hr (zs.getD k 0) (by
    have : k < zs.length := by rw [hz1.1]; exact hlt
    simp [List.getD, this])
  have S1 := Lib.hid s1
  clear s1 hz1
  generalize zs.getD k 0 = z at *
  go_wp2
  go_ret
  exact ⟨z, rfl, hin.1, hin.2, c1, g1⟩
theorem pick_r (lo hi : Int) (hlo : -9223372036854775808 ≤ lo) (hhi : hi ≤ 9223372036854775807) (zs : List Int) (n : Nat) (hn : zs.length = n) (h1 : 1 ≤ n) (h2 : n ≤ 1000) (hr : ∀ z ∈ zs, lo ≤ z ∧ z ≤ hi) (cb : Nat) (a : Option Addr) (len cap : Nat) (w : World) (hcb : cb < w.heap.size) (hc : Cur cb a len cap w) :
    Calls Try.prog 60 #[.pointer (some ⟨cb, 0, none⟩), .slice (some ⟨w.heap.size, 0, none⟩) n n] (w.alloc (.cells (zs.map (Value.int .i64)).toArray 3)) (DrewPost lo hi cb a len cap w) := by
  subst hn
  have ga := World.grownBy_alloc w (.cells (zs.map (Value.int .i64)).toArray 3) none
  refine (pick_rng lo hi w.heap.size 0 zs.length zs.length zs cb a len cap _ h1 h2 hr (lit_ints w zs (fun z hz => by have := hr z hz; omega)) (by omega) (hc.kept hcb ga (fun k hk => by cases hk))).mono ?_
  rintro e w2 ⟨y, rfl, y0, y1, c2, g2⟩
  exact ⟨y, rfl, y0, y1, c2, gr_trans (gr_none ga (some cb)) g2⟩
end Go.Proofs.Ytckpjldenkjddaa
end

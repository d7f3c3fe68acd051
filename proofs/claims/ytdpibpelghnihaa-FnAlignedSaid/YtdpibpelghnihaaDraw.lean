/-
  The drawing of inputs from bytes (spec.l01New, l01Byte, l01Below, DrawPlaces): each returns, its numbers lie in their ranges, and it turns nothing but its own cursor. Conditions: at most 1048576 bytes.
-/
import Derived.Test.YtdpibpelghnihaaKit
import Derived.Deep.QuietTactic
import Derived.BigQuiet
namespace Go.Proofs.Ytdpibpelghnihaa
open Go.ChangeShapes Go.WideShapes Go.ChangeAt Go.RowKit

/-- The bytes of a drawn code, as they lie in w. -/
def Code (w : World) (a : Option Addr) (len : Nat) : Prop :=
  len = 0 ∨ ∃ b off, a = some ⟨b, off, none⟩ ∧ b < w.heap.size ∧ ∀ i, i < len → ∃ z : Int, 0 ≤ z ∧ z ≤ 255 ∧ w.cell? ⟨b, off + i, none⟩ = some (.int .u8 z)
/-- The cursor. -/
def CurAt (cb : Nat) (a : Option Addr) (len cap i : Nat) (h : Int) (w : World) : Prop :=
  w.heap[cb]? = some (.cells #[.slice a len cap, .int .i64 i, .int .i64 h] 58 (0, 0))

theorem and_le (m : Nat) (hm : m < 4294967296) (x : Int) : 0 ≤ bits .and .i64 x (m : Int) ∧ bits .and .i64 x (m : Int) ≤ m := by
  have h1 : (BitVec.ofInt 64 x &&& BitVec.ofInt 64 (m : Int)).toNat ≤ m := by
    rw [BitVec.toNat_and]
    have : (BitVec.ofInt 64 (m : Int)).toNat = m := by rw [BitVec.ofInt_natCast, BitVec.toNat_ofNat]; exact Nat.mod_eq_of_lt (by omega)
    rw [this]
    exact Nat.and_le_right
  show 0 ≤ IntKind.i64.wrap ((BitVec.ofInt 64 x &&& BitVec.ofInt 64 (m : Int)).toNat : Int) ∧ IntKind.i64.wrap ((BitVec.ofInt 64 x &&& BitVec.ofInt 64 (m : Int)).toNat : Int) ≤ m
  rw [IntWalk.i64_in _ (by omega)]
  omega
theorem and_255 (x : Int) : 0 ≤ bits .and .i64 x 255 ∧ bits .and .i64 x 255 ≤ 255 := and_le 255 (by omega) x
theorem and_30 (x : Int) : 0 ≤ bits .and .i64 x 1073741823 ∧ bits .and .i64 x 1073741823 ≤ 1073741823 := and_le 1073741823 (by omega) x

def NewPost (a : Option Addr) (len cap : Nat) (w : World) (e : Ending) (w' : World) : Prop :=
  ∃ h, e = .returned (.pointer (some ⟨w.heap.size, 0, none⟩)) ∧ CurAt w.heap.size a len cap 0 h w' ∧ Below w.heap.size w w' ∧ w'.heap.size = w.heap.size + 1

set_option maxHeartbeats 400000 in
set_option maxRecDepth 100000 in
theorem new_any (a : Option Addr) (len cap : Nat) (w : World) (hl : len ≤ 1048576) (hc : Code w a len) :
    Calls Try.prog 29 #[.slice a len cap] w (NewPost a len cap w) := by
  go_enter Try.func29, Try.ntmps29
  go_wp2
  go_loop [3, 4] (fun h i => ∃ (k : Nat) (x : Int), k ≤ len ∧ 0 ≤ x ∧ x ≤ 2000000000 ∧ h = .int .i64 x ∧ i = .int .i64 k) (fun _ i => len - (intOf i).toNat)
  case atStart => exact ⟨0, _, Nat.zero_le _, by omega, by omega, rfl, rfl⟩
  case round =>
    obtain ⟨k, x, hk, hx0, hx1, rfl, rfl⟩ := hrel
    by_cases hlt : k < len ∧ k < 4000
    · obtain ⟨hlt, h4⟩ := hlt
      obtain ⟨b, off, rfl, hb, hz⟩ : ∃ b off, a = some ⟨b, off, none⟩ ∧ b < w.heap.size ∧ ∀ i, i < len → ∃ z : Int, 0 ≤ z ∧ z ≤ 255 ∧ w.cell? ⟨b, off + i, none⟩ = some (.int .u8 z) := by
        rcases hc with h | h
        · omega
        · exact h
      obtain ⟨z, hz0, hz1, hcell⟩ := hz k hlt
      have hlo : (0 : Int) ≤ (k : Int) := Int.natCast_nonneg _
      have hhi : (k : Int) < (len : Int) := by omega
      have HZ := Lib.hid hz
      clear hz hc
      go_wp2
      go_round
      case rel =>
        have hand := and_30 (x * 131 + z + 7)
        exact ⟨k + 1, _, by omega, hand.1, by omega, rfl, by go_num⟩
      case measure => simp [intOf]; omega
    · have hcase : (len ≤ k) ∨ (k < len ∧ 4000 ≤ k) := by omega
      clear hlt
      rcases hcase with h1 | ⟨h1, h2⟩
      all_goals
        go_wp2
        go_ret
        exact ⟨x, rfl, (MapKept.heap_alloc w _).1, (Below.refl _ _).alloc (Nat.le_refl _) _, by simp⟩

theorem CurAt.set2 {cb : Nat} {a : Option Addr} {len cap i : Nat} {h : Int} {w : World} (hc : CurAt cb a len cap i h w) (h2 : Int) : CurAt cb a len cap i h2 (w.setCell ⟨cb, 2, none⟩ (.int .i64 h2)) := by
  unfold CurAt; rw [heap_setCell_same w cb 2 _ _ _ hc]; rfl
theorem CurAt.set1 {cb : Nat} {a : Option Addr} {len cap i : Nat} {h : Int} {w : World} (hc : CurAt cb a len cap i h w) (j : Nat) : CurAt cb a len cap j h (w.setCell ⟨cb, 1, none⟩ (.int .i64 j)) := by
  unfold CurAt; rw [heap_setCell_same w cb 1 _ _ _ hc]; rfl
theorem CurAt.c0 {cb : Nat} {a : Option Addr} {len cap i : Nat} {h : Int} {w : World} (hc : CurAt cb a len cap i h w) : w.cell? ⟨cb, 0, none⟩ = some (.slice a len cap) := by simp [World.cell?, show w.heap[cb]? = _ from hc]
theorem CurAt.c1 {cb : Nat} {a : Option Addr} {len cap i : Nat} {h : Int} {w : World} (hc : CurAt cb a len cap i h w) : w.cell? ⟨cb, 1, none⟩ = some (.int .i64 i) := by simp [World.cell?, show w.heap[cb]? = _ from hc]
theorem CurAt.c2 {cb : Nat} {a : Option Addr} {len cap i : Nat} {h : Int} {w : World} (hc : CurAt cb a len cap i h w) : w.cell? ⟨cb, 2, none⟩ = some (.int .i64 h) := by simp [World.cell?, show w.heap[cb]? = _ from hc]
theorem CurAt.fz {cb : Nat} {a : Option Addr} {len cap i : Nat} {h : Int} {w : World} (hc : CurAt cb a len cap i h w) (j : Nat) : w.frozen? ⟨cb, j, none⟩ = false := by simp [World.frozen?, show w.heap[cb]? = _ from hc]
theorem gr_self (w : World) (cb j : Nat) (u : Value) : w.grownBy (w.setCell ⟨cb, j, none⟩ u) (some cb) :=
  ⟨rfl, rfl, rfl, by simp [World.setCell], fun i _ hne => Below.heap_setCell w ⟨cb, j, none⟩ u i (by rintro rfl; exact hne rfl)⟩
theorem gr_set1 {a b : World} {g j : Nat} {u : Value} (h : a.grownBy b (some g)) : a.grownBy (b.setCell ⟨g, j, none⟩ u) (some g) :=
  ⟨h.os, h.tape, h.output, by simpa [World.setCell] using h.size, fun i hi hne => (Below.heap_setCell b ⟨g, j, none⟩ u i (by rintro rfl; exact hne rfl)).trans (h.block i hi hne)⟩
theorem size_set (w : World) (p : Addr) (u : Value) : (w.setCell p u).heap.size = w.heap.size := by simp [World.setCell]
theorem gr_trans {a b c : World} {row : Option Nat} (h : a.grownBy b row) (k : b.grownBy c row) : a.grownBy c row :=
  ⟨k.os.trans h.os, k.tape.trans h.tape, k.output.trans h.output, Nat.le_trans h.size k.size, fun i hi hne => (k.block i (Nat.lt_of_lt_of_le hi h.size) hne).trans (h.block i hi hne)⟩
theorem gr_drawn {a b : World} {row : Option Nat} (h : a.grownBy b row) (m : Nat) : a.grownBy (b.drewN m) row := ⟨h.os, h.tape, h.output, h.size, h.block⟩
theorem CurAt.drawn {cb : Nat} {a : Option Addr} {len cap i : Nat} {h : Int} {w : World} (hc : CurAt cb a len cap i h w) (m : Nat) : CurAt cb a len cap i h (w.drewN m) := hc

/-- What l01Byte leaves: a byte; the cursor, its index not beyond the code. -/
def BytePost (cb : Nat) (a : Option Addr) (len cap : Nat) (w : World) (e : Ending) (w' : World) : Prop :=
  ∃ (x h : Int) (i : Nat), e = .returned (.int .i64 x) ∧ 0 ≤ x ∧ x ≤ 255 ∧ i ≤ len ∧ CurAt cb a len cap i h w' ∧ w.grownBy w' (some cb) ∧ w'.heap.size = w.heap.size

theorem byte_done {cb : Nat} {a : Option Addr} {len cap i : Nat} {h : Int} {w w1 : World} (hc : CurAt cb a len cap i h w1) (hg : w.grownBy w1 (some cb)) (hs : w1.heap.size = w.heap.size) (hi : i < len) (y : Int) (N : Nat) :
    BytePost cb a len cap w (.returned (.int .i64 (bits .and .i64 y 255))) ((w1.drewN N).setCell ⟨cb, 1, none⟩ (.int .i64 ((i : Int) + 1))) :=
  ⟨_, h, i + 1, rfl, (and_255 y).1, (and_255 y).2, by omega, (hc.drawn N).set1 (i + 1), gr_set1 (gr_drawn hg N), by rw [size_set]; exact hs⟩
theorem byte_rest {cb : Nat} {a : Option Addr} {len cap i : Nat} {h : Int} {w w1 : World} (hc : CurAt cb a len cap i h w1) (hg : w.grownBy w1 (some cb)) (hs : w1.heap.size = w.heap.size) (hi : i ≤ len) (y : Int) (N : Nat) :
    BytePost cb a len cap w (.returned (.int .i64 (bits .and .i64 y 255))) (w1.drewN N) :=
  ⟨_, h, i, rfl, (and_255 y).1, (and_255 y).2, hi, hc.drawn N, gr_drawn hg N, hs⟩

set_option maxRecDepth 100000 in
set_option maxHeartbeats 400000 in
theorem byte_any (cb : Nat) (a : Option Addr) (len cap i : Nat) (h : Int) (w : World) (hl : len ≤ 1048576) (hi : i ≤ len) (hcur : CurAt cb a len cap i h w)
    (hc : i < len → ∃ b off z, a = some ⟨b, off, none⟩ ∧ b ≠ cb ∧ (0 : Int) ≤ z ∧ z ≤ 255 ∧ w.cell? ⟨b, off + i, none⟩ = some (.int .u8 z)) :
    Calls Try.prog 54 #[.pointer (some ⟨cb, 0, none⟩)] w (BytePost cb a len cap w) := by
  have c2 := hcur.c2
  have f2 := hcur.fz 2
  by_cases hlt : i < len
  · obtain ⟨b, off, z, rfl, hne, hz0, hz1, hz⟩ := hc hlt
    clear hc
    have hlo : (0 : Int) ≤ (i : Int) := Int.natCast_nonneg _
    have hhi : (i : Int) < (len : Int) := by omega
    go_enter Try.func54, Try.ntmps54
    go_wp2
    generalize wrap64 (wrap64 (h * 6364136223846793005) + 1442695040888963407) = h2
    have hcur1 := hcur.set2 h2
    have hg1 := gr_self w cb 2 (.int .i64 h2)
    have hs1 : (w.setCell ⟨cb, 2, none⟩ (.int .i64 h2)).heap.size = w.heap.size := by simp [World.setCell]
    have hz' : (w.setCell ⟨cb, 2, none⟩ (.int .i64 h2)).cell? ⟨b, off + i, none⟩ = some (.int .u8 z) := hg1.cell hz (by simpa using hne)
    clear c2 f2 hz
    generalize w.setCell ⟨cb, 2, none⟩ (.int .i64 h2) = w1 at *
    have HS := Lib.hid hs1
    clear hs1
    have c0 := hcur1.c0
    have c1 := hcur1.c1
    have c2 := hcur1.c2
    have f1 := hcur1.fz 1
    go_quiet (fail)
    go_wp2
    go_quiet (fail)
    go_wp2
    go_quiet (fail)
    go_wp2
    go_ret
    exact byte_done hcur1 hg1 HS.out hlt _ _
  · clear hc
    have hge : ¬ (i : Int) < (len : Int) := by omega
    go_enter Try.func54, Try.ntmps54
    go_wp2
    generalize wrap64 (wrap64 (h * 6364136223846793005) + 1442695040888963407) = h2
    have hcur1 := hcur.set2 h2
    have hg1 := gr_self w cb 2 (.int .i64 h2)
    have hs1 : (w.setCell ⟨cb, 2, none⟩ (.int .i64 h2)).heap.size = w.heap.size := by simp [World.setCell]
    clear c2 f2
    generalize w.setCell ⟨cb, 2, none⟩ (.int .i64 h2) = w1 at *
    have HS := Lib.hid hs1
    clear hs1
    have c0 := hcur1.c0
    have c1 := hcur1.c1
    have c2 := hcur1.c2
    go_quiet (fail)
    go_wp2
    go_quiet (fail)
    go_wp2
    go_ret
    exact byte_rest (hcur1.drawn _) (gr_drawn hg1 _) HS.out hi _ _

/-- The code's bytes stay where only the cursor and new memory turn. -/
theorem Code.kept {w w' : World} {a : Option Addr} {len cb : Nat} (h : Code w a len) (hg : w.grownBy w' (some cb)) (hcb : 0 < len → ∀ b off, a = some ⟨b, off, none⟩ → b ≠ cb) : Code w' a len := by
  by_cases hz0 : len = 0
  · exact Or.inl hz0
  have hcb := hcb (by omega)
  rcases h with h | ⟨b, off, rfl, hb, hz⟩
  · exact Or.inl h
  · refine Or.inr ⟨b, off, rfl, Nat.lt_of_lt_of_le hb hg.size, fun i hi => ?_⟩
    obtain ⟨z, h0, h1, hc⟩ := hz i hi
    exact ⟨z, h0, h1, hg.cell hc (by simpa using hcb b off rfl)⟩
theorem Code.below {w w' : World} {a : Option Addr} {len : Nat} (h : Code w a len) (hb : Below w.heap.size w w') : Code w' a len := by
  rcases h with h | ⟨b, off, rfl, hlt, hz⟩
  · exact Or.inl h
  · refine Or.inr ⟨b, off, rfl, Nat.lt_of_lt_of_le hlt hb.size, fun i hi => ?_⟩
    obtain ⟨z, h0, h1, hc⟩ := hz i hi
    exact ⟨z, h0, h1, by rw [hb.cell (p := ⟨b, off + i, none⟩) hlt]; exact hc⟩

/-- A cursor with its code: what every draw keeps. -/
structure Cur (cb : Nat) (a : Option Addr) (len cap : Nat) (w : World) : Prop where
  at_ : ∃ (i : Nat) (h : Int), i ≤ len ∧ CurAt cb a len cap i h w
  code : Code w a len
  small : len ≤ 1048576
  apart : 0 < len → ∀ b off, a = some ⟨b, off, none⟩ → b ≠ cb

/-- What a draw of a number leaves. -/
def DrawPost (lo hi : Int) (cb : Nat) (a : Option Addr) (len cap : Nat) (w : World) (e : Ending) (w' : World) : Prop :=
  ∃ x : Int, e = .returned (.int .i64 x) ∧ lo ≤ x ∧ x ≤ hi ∧ Cur cb a len cap w' ∧ w.grownBy w' (some cb) ∧ w'.heap.size = w.heap.size

theorem byte_cur (cb : Nat) (a : Option Addr) (len cap : Nat) (w : World) (hc : Cur cb a len cap w) :
    Calls Try.prog 54 #[.pointer (some ⟨cb, 0, none⟩)] w (DrawPost 0 255 cb a len cap w) := by
  obtain ⟨⟨i, h, hi, hcur⟩, hcode, hs, hap⟩ := hc
  refine (byte_any cb a len cap i h w hs hi hcur ?_).mono ?_
  · intro hlt
    rcases hcode with h0 | ⟨b, off, rfl, hb, hz⟩
    · omega
    · obtain ⟨z, h0, h1, hcell⟩ := hz i hlt
      exact ⟨b, off, z, rfl, hap (by omega) b off rfl, h0, h1, hcell⟩
  · rintro e w' ⟨x, h', i', he, hx0, hx1, hi', hcur', hg, hsz⟩
    exact ⟨x, he, hx0, hx1, ⟨⟨i', h', hi', hcur'⟩, hcode.kept hg hap, hs, hap⟩, hg, hsz⟩

set_option maxHeartbeats 400000 in
theorem below_pos (n : Int) (cb : Nat) (a : Option Addr) (len cap : Nat) (w : World) (h1 : 1 ≤ n) (h2 : n ≤ 4611686018427387904) (hc : Cur cb a len cap w) :
    Calls Try.prog 44 #[.pointer (some ⟨cb, 0, none⟩), .int .i64 n] w (DrawPost 0 (n - 1) cb a len cap w) := by
  have hn0 : (n == 0) = false := by simp; omega
  by_cases h3 : n ≤ 256
  · go_enter Try.func44, Try.ntmps44
    go_wp2_with (fail)
    refine (byte_cur cb a len cap w hc).mono ?_
    rintro e w1 ⟨x, rfl, x0, x1, c1, g1, s1⟩
    have S1 := Lib.hid s1
    clear s1
    go_wp2
    go_ret
    have hm := Int.emod_lt_of_pos x (show 0 < n by omega)
    exact ⟨_, rfl, Int.emod_nonneg _ (by omega), by omega, c1, g1, S1.out⟩
  · go_enter Try.func44, Try.ntmps44
    go_wp2_with (fail)
    refine (byte_cur cb a len cap w hc).mono ?_
    rintro e w1 ⟨x, rfl, x0, x1, c1, g1, s1⟩
    have S1 := Lib.hid s1
    clear s1
    go_wp2_with (fail)
    refine (byte_cur cb a len cap w1 c1).mono ?_
    rintro e w2 ⟨y, rfl, y0, y1, c2, g2, s2⟩
    have S2 := Lib.hid s2
    clear s2
    go_wp2_with (fail)
    refine (byte_cur cb a len cap w2 c2).mono ?_
    rintro e w3 ⟨z, rfl, z0, z1, c3, g3, s3⟩
    have S3 := Lib.hid s3
    clear s3
    go_wp2_with (fail)
    refine (byte_cur cb a len cap w3 c3).mono ?_
    rintro e w4 ⟨v, rfl, v0, v1, c4, g4, s4⟩
    have S4 := Lib.hid s4
    clear s4
    go_wp2
    go_ret
    have hm := Int.emod_lt_of_pos (x * 16777216 + y * 65536 + z * 256 + v) (show 0 < n by omega)
    exact ⟨_, rfl, Int.emod_nonneg _ (by omega), by omega, c4, gr_trans (gr_trans (gr_trans g1 g2) g3) g4, by rw [S4.out, S3.out, S2.out, S1.out]⟩

/-- The row of integers that a draw makes. -/
def OwnI (base : Nat) (v : Value) (xs : List Int) (w : World) : Prop := w.ownsRow base 3 1 v xs.length (xs.map (Value.int .i64))
theorem info_int : (Try.prog.info? 3).map (fun i => (i.zero, i.size, i.bytes)) = some (some (.int .i64 0), 1, 8) := by kernel_rfl
theorem Cur.kept {cb : Nat} {a : Option Addr} {len cap : Nat} {w w' : World} (h : Cur cb a len cap w) (hcb : cb < w.heap.size) {row : Option Nat} (hg : w.grownBy w' row) (hr : ∀ k, row = some k → cb < k ∧ (0 < len → ∀ b off, a = some ⟨b, off, none⟩ → b < k)) : Cur cb a len cap w' := by
  obtain ⟨⟨i, x, hi, hcur⟩, hcode, hs, hap⟩ := h
  refine ⟨⟨i, x, hi, ?_⟩, ?_, hs, hap⟩
  · unfold CurAt
    rw [hg.block cb hcb (fun e => by have := (hr cb e.symm).1; omega)]
    exact hcur
  · rcases hcode with h | ⟨b, off, rfl, hb, hz⟩
    · exact Or.inl h
    · refine Or.inr ⟨b, off, rfl, Nat.lt_of_lt_of_le hb hg.size, fun i hi => ?_⟩
      obtain ⟨z, h0, h1, hc⟩ := hz i hi
      exact ⟨z, h0, h1, hg.cell hc (fun e => by have := (hr b e.symm).2 (by omega) b off rfl; omega)⟩
end Go.Proofs.Ytdpibpelghnihaa

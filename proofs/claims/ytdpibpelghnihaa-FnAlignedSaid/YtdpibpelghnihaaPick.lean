/-
  The drawing of one number out of a list of ints (spec.l01PickInt): it returns an int, and turns nothing but its own cursor. Conditions: the list is not empty, has at most 1000 ints and lies apart from the cursor.
-/
import Derived.Test.YtdpibpelghnihaaDraw
import Derived.Test.YtdpibpelghnihaaIntS
namespace Go.Proofs.Ytdpibpelghnihaa
open Go.ChangeShapes Go.WideShapes Go.ChangeAt Go.RowKit

/-- What a draw of a number leaves that may have made memory of its own. -/
def DrewPost (lo hi : Int) (cb : Nat) (a : Option Addr) (len cap : Nat) (w : World) (e : Ending) (w' : World) : Prop :=
  ∃ x : Int, e = .returned (.int .i64 x) ∧ lo ≤ x ∧ x ≤ hi ∧ Cur cb a len cap w' ∧ w.grownBy w' (some cb)

theorem gr_none {w w' : World} (h : w.grownBy w' none) (row : Option Nat) : w.grownBy w' row := ⟨h.os, h.tape, h.output, h.size, fun i hi _ => h.block i hi (by simp)⟩
theorem Ints.grown {w w' : World} {b off len : Nat} {zs : List Int} {cb : Nat} (h : Ints w (some ⟨b, off, none⟩) len zs) (hg : w.grownBy w' (some cb)) (hne : b ≠ cb) : Ints w' (some ⟨b, off, none⟩) len zs := by
  refine ⟨h.1, h.2.1, ?_⟩
  rcases h.2.2 with h0 | ⟨b', off', ha, hlt, hc⟩
  · exact Or.inl h0
  · simp at ha
    obtain ⟨rfl, rfl⟩ := ha
    exact Or.inr ⟨b, off, rfl, Nat.lt_of_lt_of_le hlt hg.size, fun i hi => hg.cell (hc i hi) (by simpa using hne)⟩
/-- A list that was just written down. -/
theorem lit_ints (w : World) (zs : List Int) (hr : ∀ z ∈ zs, -9223372036854775808 ≤ z ∧ z ≤ 9223372036854775807) :
    Ints (w.alloc (.cells (zs.map (Value.int .i64)).toArray 3)) (some ⟨w.heap.size, 0, none⟩) zs.length zs := by
  refine ⟨rfl, hr, Or.inr ⟨w.heap.size, 0, rfl, by simp, fun j hj => ?_⟩⟩
  have h := (MapKept.heap_alloc w (.cells (zs.map (Value.int .i64)).toArray 3)).1
  simp only [World.cell?, h]
  simp [hj]

theorem pick_any (b off n cap1 : Nat) (zs : List Int) (cb : Nat) (a : Option Addr) (len cap : Nat) (w : World) (h1 : 1 ≤ n) (h2 : n ≤ 1000) (hz : Ints w (some ⟨b, off, none⟩) n zs) (hne : b ≠ cb) (hc : Cur cb a len cap w) :
    Calls Try.prog 31 #[.pointer (some ⟨cb, 0, none⟩), .slice (some ⟨b, off, none⟩) n cap1] w (DrewPost (-9223372036854775808) 9223372036854775807 cb a len cap w) := by
  have HZ := Lib.hid hz
  clear hz
  go_enter Try.func31, Try.ntmps31
  go_wp2_with (fail)
  refine (below_pos n cb a len cap w (by omega) (by omega) hc).mono ?_
  rintro e w1 ⟨x, rfl, x0, x1, c1, g1, s1⟩
  obtain ⟨k, rfl⟩ := Int.eq_ofNat_of_zero_le x0
  have hz1 := HZ.out.grown g1 hne
  have hlt : k < n := by omega
  obtain ⟨b', off', hba, hbl, hcell⟩ := hz1.look hlt
  simp at hba
  obtain ⟨rfl, rfl⟩ := hba
  have hlo : (0 : Int) ≤ (k : Int) := Int.natCast_nonneg _
  have hhi : (k : Int) < (n : Int) := by omega
  have hin := hz1.2.1 (zs.getD k 0) (by
    have : k < zs.length := by rw [hz1.1]; exact hlt
    simp [List.getD, this])
  have S1 := Lib.hid s1
  clear s1 hz1
  generalize zs.getD k 0 = z at *
  go_wp2
  go_ret
  exact ⟨z, rfl, hin.1, hin.2, c1, g1⟩
end Go.Proofs.Ytdpibpelghnihaa

/-
  The laws' helpers toIntS (a copy of a slice of ints) and eqIntS (two slices of the same ints). Conditions: at most 1048576 ints for the copy.
-/
import Derived.Test.YtnncdpkmhpjmbaaIntsIn
import Derived.OwnWalk
import Derived.Deep.QuietTactic
import Derived.BigQuiet
namespace Go.Proofs.Ytnncdpkmhpjmbaa
open Go.ChangeShapes Go.WideShapes Go.ChangeAt Go.RowKit

theorem Ints.below {w w' : World} {a : Option Addr} {len : Nat} {zs : List Int} (h : Ints w a len zs) (hb : Below w.heap.size w w') : Ints w' a len zs := by
  refine ⟨h.1, h.2.1, ?_⟩
  rcases h.2.2 with h0 | ⟨b, off, ha, hlt, hc⟩
  · exact Or.inl h0
  · exact Or.inr ⟨b, off, ha, Nat.lt_of_lt_of_le hlt hb.size, fun i hi => (hb.cell (p := ⟨b, off + i, none⟩) hlt).trans (hc i hi)⟩
theorem Ints.look {w : World} {a : Option Addr} {len : Nat} {zs : List Int} (h : Ints w a len zs) {k : Nat} (hk : k < len) : ∃ b off, a = some ⟨b, off, none⟩ ∧ b < w.heap.size ∧ w.cell? ⟨b, off + k, none⟩ = some (.int .i64 (zs.getD k 0)) := by
  rcases h.2.2 with h0 | ⟨b, off, ha, hb, hc⟩
  · omega
  · exact ⟨b, off, ha, hb, hc k hk⟩
/-- A row of ints of one's own. -/
def RowI (base : Nat) (v : Value) (xs : List Int) (w : World) : Prop := w.ownsRow base 3 1 v xs.length (xs.map (Value.int .i64))
theorem RowI.ints {base g n cap : Nat} {xs : List Int} {w : World} (h : RowI base (.slice (some ⟨g, 0, none⟩) n cap) xs w) (hn : xs.length = n) (hr : ∀ z ∈ xs, -9223372036854775808 ≤ z ∧ z ≤ 9223372036854775807) : Ints w (some ⟨g, 0, none⟩) n xs := by
  subst hn
  refine ⟨rfl, hr, Or.inr ⟨g, 0, rfl, (World.ownsRow.lt h g rfl).2, fun j hj => ?_⟩⟩
  rw [Nat.zero_add, World.ownsRow.cellAt h j (by omega)]
  simp [hj]
theorem take_set {zs l : List Int} {k : Nat} (h1 : k < zs.length) (h2 : k < l.length) : (zs.take k ++ l.drop k).set k (zs.getD k 0) = zs.take (k + 1) ++ l.drop (k + 1) := by
  rw [List.set_append_right _ _ (by simp; omega), List.drop_eq_getElem_cons h2, show k - (zs.take k).length = 0 by simp; omega, List.set_cons_zero]
  rw [List.take_succ_eq_append_getElem h1, List.append_assoc, List.singleton_append, show zs.getD k 0 = zs[k] by simp [List.getD, h1]]
theorem info_intS : (Try.prog.info? 3).map (fun i => (i.zero, i.size, i.bytes)) = some (some (.int .i64 0), 1, 8) := by kernel_rfl

def ToPost (len : Nat) (zs : List Int) (w : World) (e : Ending) (w' : World) : Prop :=
  e = .returned (.slice (some ⟨w.heap.size, 0, none⟩) len len) ∧ RowI w.heap.size (.slice (some ⟨w.heap.size, 0, none⟩) len len) zs w' ∧ Below w.heap.size w w'
def ToRel (len : Nat) (zs : List Int) (w : World) (i : Value) (wr : World) : Prop :=
  ∃ k : Nat, k ≤ len ∧ i = .int .i64 k ∧ RowI w.heap.size (.slice (some ⟨w.heap.size, 0, none⟩) len len) (zs.take k ++ (List.replicate len 0).drop k) wr ∧ Below w.heap.size w wr

set_option maxHeartbeats 600000 in
theorem toI_any (a : Option Addr) (len cap : Nat) (zs : List Int) (w : World) (hz : Ints w a len zs) (hl : len ≤ 1048576) :
    Calls Try.prog 23 #[.slice a len cap] w (ToPost len zs w) := by
  obtain ⟨i0, hi, hz0, hz1, hz2⟩ := info_parts info_intS
  have hzl : zs.length = len := hz.1
  go_enter Try.func23, Try.ntmps23
  go_wp2_with (first
    | (at_make; refine wpList_make_full _ rfl _ _ 24 rfl w.heap.size 3 i0 (.int .i64 0) 1 Try.underlying24 hi hz0 hz1 .i64 .i64 _ _ len rfl rfl rfl rfl (by rw [hz2]; omega) (by unfold maxLen; omega) (Nat.le_refl _) ?_; intro w0 hown0 hgrow0))
  have hr0 : RowI w.heap.size (.slice (some ⟨w.heap.size, 0, none⟩) len len) (zs.take 0 ++ (List.replicate len 0).drop 0) w0 := by
    unfold RowI
    have e1 : (madeCells (Value.int .i64 0).cells (len * 1)).toList = (List.replicate len (0 : Int)).map (Value.int .i64) := by
      rw [show (Value.int .i64 0).cells = #[Value.int .i64 0] from rfl, Nat.mul_one, toList_madeCells_one]; simp
    rw [e1] at hown0
    simpa using hown0
  have hb0 : Below w.heap.size w w0 := (Below.refl _ _).grown hgrow0 (Nat.le_refl _) (fun g hg => by cases hg)
  clear hown0 hgrow0
  go_wp2
  go_loopw [4] (ToRel len zs w) (fun i _ => len - (intOf i).toNat)
  case atStart => exact ⟨0, Nat.zero_le _, rfl, hr0, hb0⟩
  case round =>
    obtain ⟨k, hk, rfl, ho, hb⟩ := hrel
    have hll : (zs.take k ++ (List.replicate len (0 : Int)).drop k).length = len := by simp; omega
    by_cases hlt : k < len
    · obtain ⟨b, off, rfl, hbl, hc⟩ := hz.look hlt
      have hc1 : wr.cell? ⟨b, off + k, none⟩ = some (.int .i64 (zs.getD k 0)) := (hb.cell (p := ⟨b, off + k, none⟩) hbl).trans hc
      have hlo : (0 : Int) ≤ (k : Int) := Int.natCast_nonneg _
      have hhi : (k : Int) < (len : Int) := by omega
      have ho' : wr.ownsRow w.heap.size 3 1 (.slice (some ⟨w.heap.size, 0, none⟩) len len) len ((zs.take k ++ (List.replicate len (0 : Int)).drop k).map (Value.int .i64)) := by
        have h := ho; unfold RowI at h; rwa [hll] at h
      have hst := ho'.stored k (.int .i64 (zs.getD k 0))
      rw [← List.map_set, take_set (by omega) (by simp; omega)] at hst
      have c2 : ∃ x, wr.cell? ⟨w.heap.size, k, none⟩ = some x := by
        rw [ho'.cellAt k (by omega)]
        exact ⟨_, List.getElem?_eq_getElem (by simp; omega)⟩
      obtain ⟨x2, c2⟩ := c2
      have f2 := ho'.frozenAt k
      have HZ := Lib.hid hz
      have HS := Lib.hid hst
      have HL := Lib.hid hll
      clear hz hc ho ho' hst hll
      generalize zs.getD k 0 = z at *
      go_wp2
      go_roundw
      case rel =>
        refine ⟨k + 1, by omega, by go_num, ?_, hb.grown HS.out.2 hb.size (fun g hg => by simp at hg; omega)⟩
        unfold RowI
        rw [show (zs.take (k + 1) ++ (List.replicate len (0 : Int)).drop (k + 1)).length = len by simp; omega]
        exact HS.out.1
      case measure => simp [intOf]; omega
    · obtain rfl : k = len := by omega
      rw [List.take_of_length_le (by omega), List.drop_of_length_le (by simp), List.append_nil] at ho
      clear hz hll
      go_wp2
      go_ret
      exact ⟨rfl, ho, hb⟩

set_option maxHeartbeats 400000 in
theorem eqI_any (a a' : Option Addr) (len cap cap' : Nat) (zs : List Int) (w : World) (hz : Ints w a len zs) (hz' : Ints w a' len zs) (hl : len ≤ 4611686018427387904) :
    Calls Try.prog 24 #[.slice a len cap, .slice a' len cap'] w fun e w' => e = .returned (.bool true) ∧ Below w.heap.size w w' := by
  go_enter Try.func24, Try.ntmps24
  go_wp2
  go_loopw [5] (fun i wr => ∃ k m : Nat, k ≤ len ∧ i = .int .i64 k ∧ wr = w.drewN m) (fun i _ => len - (intOf i).toNat)
  case atStart => exact ⟨0, 0, Nat.zero_le _, rfl, rfl⟩
  case round =>
    obtain ⟨k, m, hk, rfl, rfl⟩ := hrel
    by_cases hlt : k < len
    · obtain ⟨b, off, rfl, hbl, c1⟩ := hz.look hlt
      obtain ⟨b', off', rfl, hbl', c2⟩ := hz'.look hlt
      have hlo : (0 : Int) ≤ (k : Int) := Int.natCast_nonneg _
      have hhi : (k : Int) < (len : Int) := by omega
      clear hz hz'
      generalize zs.getD k 0 = x at c1 c2
      go_wp2
      go_quiet (fail)
      go_wp2
      go_roundw
      case rel => exact ⟨k + 1, m + nq, by omega, by go_num, rfl⟩
      case measure => simp [intOf]; omega
    · clear hz hz'
      go_wp2
      go_ret
      exact ⟨rfl, below_drawn w m⟩
end Go.Proofs.Ytnncdpkmhpjmbaa

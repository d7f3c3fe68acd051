/-
  The contracts of RoomsOf (program and model): the rooms of the rules, in a row of the call's own. Conditions: at most 1048576 rules.
-/
import Derived.Test.YtjkecmokmdnjlaaRls
import Derived.OwnWalk
import Derived.Laws.OwnMore
namespace Go.Proofs.Ytjkecmokmdnjlaa
open Go.ChangeShapes Go.WideShapes Go.ChangeAt Go.RowKit
set_option linter.unusedVariables false

/-- The rooms. -/
def roL (zs : List Int) (len : Nat) : List Int := (List.range len).map fun k => zs.getD (k * 3) 0
theorem roL_len (zs : List Int) (len : Nat) : (roL zs len).length = len := by simp [roL]
theorem roL_succ (zs : List Int) (k : Nat) : roL zs (k + 1) = roL zs k ++ [zs.getD (k * 3) 0] := by simp [roL, List.range_succ]
theorem roL_all {w : World} {a : Option Addr} {len : Nat} {zs : List Int} (h : Rls w a len zs) : AllI (roL zs len) := by
  intro z hz
  obtain ⟨j, hj, rfl⟩ := List.mem_map.1 hz
  exact h.in1 (by have := List.mem_range.1 hj; omega)
theorem roL_set {zs : List Int} {k len : Nat} (hk : k < len) : (roL zs k ++ (List.replicate len (0 : Int)).drop k).set k (zs.getD (k * 3) 0) = roL zs (k + 1) ++ (List.replicate len (0 : Int)).drop (k + 1) := by
  rw [List.set_append_right _ _ (by rw [roL_len]; omega), roL_len, Nat.sub_self, List.drop_eq_getElem_cons (by simpa using hk), List.set_cons_zero, roL_succ]
  simp
theorem info_int9 : (Try.prog.info? 3).map (fun i => (i.zero, i.size, i.bytes)) = some (some (.int .i64 0), 1, 8) := by kernel_rfl
theorem one9 (wr : World) (x : Value) (e : TypeId) : ∀ j u, [x][j]? = some u → (wr.alloc (.cells #[x] e)).cell? ((⟨wr.heap.size, 0, none⟩ : Addr).add j) = some u := by
  intro j u hj
  cases j with
  | zero => simp at hj; subst hj; simp [Addr.add]
  | succ j => simp at hj

theorem ownR_le {b b' : Nat} {v : Value} {xs : List Int} {w : World} (h : RowI b v xs w) (hb : b' ≤ b) : RowI b' v xs w := by
  refine ⟨h.1, ?_⟩
  rcases h.2 with h0 | ⟨g, cap, cur, h1, h2, h3⟩
  · exact Or.inl h0
  · exact Or.inr ⟨g, cap, cur, h1, Nat.le_trans hb h2, h3⟩
def RmRel (len : Nat) (zs : List Int) (u : World) (B : Nat) (i : Value) (wr : World) : Prop :=
  ∃ k : Nat, k ≤ len ∧ i = .int .i64 k ∧ RowI B (.slice (some ⟨B, 0, none⟩) len len) (roL zs k ++ (List.replicate len 0).drop k) wr ∧ Below u.heap.size u wr
set_option maxHeartbeats 1000000 in
theorem iroomsof (a : Option Addr) (len cap : Nat) (zs : List Int) (w : World) (hz : Rls w a len zs) (hl : len ≤ 1048576) :
    Calls Try.prog 17 #[.agg #[.slice a len cap]] w (OutPost (roL zs len) w) := by
  obtain ⟨i0, hi, hz0, hz1, hz2⟩ := info_parts info_int9
  have h0 := hp_new w (.cells #[.slice a len cap] 26)
  have bb := Go.Joins.below_alloc1 w (.cells #[.slice a len cap] 26)
  obtain ⟨u, eu⟩ : ∃ u, u = w.alloc (.cells #[.slice a len cap] 26) := ⟨_, rfl⟩
  have hus : w.heap.size + 1 = u.heap.size := by rw [eu]; simp
  rw [← eu] at h0 bb
  have EU := Lib.hid eu
  clear eu
  have HZ := Lib.hid (hz.below bb)
  have H0 := Lib.hid h0
  have c0 := Go.Joins.cell_of_block h0 0
  simp at c0
  have BB := Lib.hid bb
  clear hz h0 bb
  go_enter Try.func17, Try.ntmps17
  go_wp2_with (first
    | (rw [← EU.out])
    | (at_make; refine wpList_make_full _ rfl _ _ 37 rfl u.heap.size 3 i0 (.int .i64 0) 1 Try.underlying37 hi hz0 hz1 .i64 .i64 _ _ len rfl rfl rfl rfl (by rw [hz2]; omega) (by unfold maxLen; omega) (Nat.le_refl _) ?_))
  intro w0 hown0 hgrow0
  have hr0 : RowI u.heap.size (.slice (some ⟨u.heap.size, 0, none⟩) len len) (roL zs 0 ++ (List.replicate len 0).drop 0) w0 := by
    unfold RowI
    rw [toList_madeCells_one] at hown0
    simpa [roL] using hown0
  have hb0 : Below u.heap.size u w0 := (Below.refl _ _).grown hgrow0 (Nat.le_refl _) (fun g hg => by cases hg)
  have hw0 : w0.heap[w.heap.size]? = _ := (hb0.block w.heap.size (by omega)).trans H0.out
  have t0 := Go.Joins.cell_of_block hw0 0
  simp at t0
  clear hown0 hgrow0 hw0 c0
  go_wp2
  go_loopw [13] (RmRel len zs u u.heap.size) (fun i _ => len - (intOf i).toNat)
  case atStart => exact ⟨0, Nat.zero_le _, rfl, hr0, hb0⟩
  case round =>
    obtain ⟨k, hk, rfl, ho, hb⟩ := hrel
    clear t0
    have hll : (roL zs k ++ (List.replicate len (0 : Int)).drop k).length = len := by rw [List.length_append, roL_len]; simp; omega
    by_cases hlt : k < len
    · obtain ⟨b, off, rfl, hbl, e0, e1, e2⟩ := (HZ.out.below hb).look hlt
      have hlo : (0 : Int) ≤ (k : Int) := Int.natCast_nonneg _
      have hhi : (k : Int) < (len : Int) := by omega
      have hset := roL_set (zs := zs) hlt
      generalize zs.getD (k * 3) 0 = x at *
      generalize zs.getD (k * 3 + 1) 0 = y at *
      generalize zs.getD (k * 3 + 2) 0 = z at *
      obtain ⟨v, ev⟩ : ∃ v, v = wr.alloc (.cells #[.int .i64 x, .int .i64 y, .int .i64 z] 32) := ⟨_, rfl⟩
      have hown : v.heap[wr.heap.size]? = some (.cells #[.int .i64 x, .int .i64 y, .int .i64 z] 32) := ev ▸ hp_new wr _
      have hbv : Below u.heap.size u v := ev ▸ hb.alloc hb.size _
      have hov : v.ownsRow u.heap.size 3 1 (.slice (some ⟨u.heap.size, 0, none⟩) len len) len ((roL zs k ++ (List.replicate len (0 : Int)).drop k).map (Value.int .i64)) := by
        have h : RowI u.heap.size (.slice (some ⟨u.heap.size, 0, none⟩) len len) (roL zs k ++ (List.replicate len (0 : Int)).drop k) v := ev ▸ World.ownsRow.alloc ho _
        unfold RowI at h; rwa [hll] at h
      have N0 := Go.Joins.cell_of_block hown 0
      have N1 := Go.Joins.cell_of_block hown 1
      have N2 := Go.Joins.cell_of_block hown 2
      simp at N0 N1 N2
      have hst := hov.stored k (.int .i64 x)
      rw [← List.map_set, hset] at hst
      have c2 : ∃ q, v.cell? ⟨u.heap.size, k, none⟩ = some q := by
        rw [hov.cellAt k (by omega)]
        exact ⟨_, List.getElem?_eq_getElem (by rw [List.length_map]; omega)⟩
      obtain ⟨q2, c2⟩ := c2
      have f2 := hov.frozenAt k
      have HS := Lib.hid hst
      have HB := Lib.hid hbv
      have EV := Lib.hid ev
      clear ho hb hset hown hov hst ev hbv
      go_wp2_with (rw [← EV.out])
      go_roundw
      case rel =>
        refine ⟨k + 1, by omega, by go_num, ?_, HB.out.setCell (Nat.le_refl _) _⟩
        unfold RowI
        rw [show (roL zs (k + 1) ++ (List.replicate len (0 : Int)).drop (k + 1)).length = len by rw [List.length_append, roL_len]; simp; omega]
        exact HS.out.1
      case measure => simp [intOf]; omega
    · obtain rfl : k = len := by omega
      rw [List.drop_of_length_le (by simp), List.append_nil] at ho
      have HO := Lib.hid ho
      clear ho hll
      go_wp2
      go_ret
      exact ⟨_, rfl, ownR_le HO.out (by omega), BB.out.trans (hb.mono BB.out.size)⟩
def RmSRel (len : Nat) (zs : List Int) (w u : World) (v i : Value) (wr : World) : Prop :=
  ∃ k : Nat, k ≤ len ∧ i = .int .i64 k ∧ RowI u.heap.size v (roL zs k) wr ∧ Below u.heap.size u wr
set_option maxHeartbeats 1000000 in
theorem sroomsof (a : Option Addr) (len cap : Nat) (zs : List Int) (w : World) (hz : Rls w a len zs) (hl : len ≤ 1048576) :
    Calls Try.prog 18 #[.agg #[.slice a len cap]] w (OutPost (roL zs len) w) := by
  obtain ⟨i0, hi, hz0, hz1, hz2⟩ := info_parts info_int9
  have h0 := hp_new w (.cells #[.slice a len cap] 26)
  have bb := Go.Joins.below_alloc1 w (.cells #[.slice a len cap] 26)
  obtain ⟨u, eu⟩ : ∃ u, u = w.alloc (.cells #[.slice a len cap] 26) := ⟨_, rfl⟩
  have hus : w.heap.size + 1 = u.heap.size := by rw [eu]; simp
  rw [← eu] at h0 bb
  have EU := Lib.hid eu
  clear eu
  have HZ := Lib.hid (hz.below bb)
  have H0 := Lib.hid h0
  have BB := Lib.hid bb
  have hr0 : RowI u.heap.size (.slice (some ⟨u.heap.size, 0, none⟩) 0 0) [] (u.alloc (.cells #[] 3)) := World.ownsRow_lit u #[] 0 (Nat.le_refl _) (by unfold maxLen; omega) rfl
  have hb0 := Go.Joins.below_alloc1 u (.cells #[] 3)
  have HR0 := Lib.hid hr0
  have HB0 := Lib.hid hb0
  clear hz h0 bb hr0 hb0
  go_enter Try.func18, Try.ntmps18
  go_wp2_with (rw [← EU.out])
  go_loopw [3, 4] (RmSRel len zs w u) (fun _ i _ => len - (intOf i).toNat)
  case atStart => exact ⟨0, Nat.zero_le _, rfl, HR0.out, HB0.out⟩
  case round =>
    obtain ⟨k, hk, rfl, ho, hb⟩ := hrel
    have hw0 : wr.heap[w.heap.size]? = _ := (hb.block w.heap.size (by omega)).trans H0.out
    have t0 := Go.Joins.cell_of_block hw0 0
    simp at t0
    have HO := Lib.hid ho
    have HB := Lib.hid hb
    have HS := Lib.hid hb.size
    by_cases hlt : k < len
    · obtain ⟨b, off, rfl, hbl, e0, e1, e2⟩ := (HZ.out.below hb).look hlt
      have hlo : (0 : Int) ≤ (k : Int) := Int.natCast_nonneg _
      have hhi : (k : Int) < (len : Int) := by omega
      have hsuc := roL_succ zs k
      generalize zs.getD (k * 3) 0 = x at *
      have HSU := Lib.hid hsuc
      clear ho hb hw0 hsuc e1 e2
      go_wp2_with (at_builtin; refine wpList_append_own _ rfl _ _ 37 rfl u.heap.size 3 i0 (.int .i64 0) 1 8 Try.underlying37 hi hz0 hz1 hz2 rfl (by decide) _ _ _ rfl (World.ownsRow.alloc HO.out _) ⟨wr.heap.size, 0, none⟩ 1 1 [.int .i64 x] rfl rfl (one9 _ _ _) ?c2 ?c3 ?c4 ?c5 ?_)
      case c2 => intro u hu; simp at hu; subst hu; rfl
      case c3 => rw [roL_len]; unfold maxLen; omega
      case c4 => rw [roL_len]; omega
      case c5 => have := HS.out; simp; omega
      intro v' w3 hown3 hgr _
      have HRA : RowI u.heap.size u3 (roL zs k) (wr.alloc (.cells #[Value.int .i64 x] 3)) := World.ownsRow.alloc HO.out _
      have B3 := Lib.hid (below_row (HB.out.alloc HB.out.size _) HRA (Nat.le_trans HB.out.size (by simp)) hgr)
      have R3 := Lib.hid (show RowI u.heap.size v' (roL zs (k + 1)) w3 by rw [HSU.out]; unfold RowI; simpa using hown3)
      clear hown3 hgr HRA HO t0 e0
      go_wp2
      go_roundw
      case rel => exact ⟨k + 1, by omega, by go_num, R3.out, B3.out⟩
      case measure => simp [intOf]; omega
    · obtain rfl : k = len := by omega
      clear ho hb hw0
      go_wp2
      go_ret
      exact ⟨_, rfl, ownR_le HO.out (by omega), BB.out.trans (HB.out.mono BB.out.size)⟩
end Go.Proofs.Ytjkecmokmdnjlaa

import Derived.Deep.Slices
import Derived.Deep.MidRow
import Derived.OwnWalk
import Derived.Deep.QuietTactic
import Derived.BigQuiet
import Derived.Lib.QuietBelow
import Derived.Deep.RegionWith
import Derived.Test.YtiogjbdaaplhpaaZfAA
import Derived.Test.YtiogjbdaaplhpaaZfAB
import Derived.Test.YtiogjbdaaplhpaaZfAE
section
namespace Go.Proofs.Ytiogjbdaaplhpaa
open Go.ChangeShapes Go.WideShapes Go.ChangeAt Go.RowKit
set_option maxRecDepth 8000

/-- len rules lie at a: their ints are zs. -/
def Rls (w : World) (a : Option Addr) (len : Nat) (zs : List Int) : Prop :=
  zs.length = len * 3 ∧ AllI zs ∧
  (len = 0 ∨ ∃ b off, a = some ⟨b, off, none⟩ ∧ b < w.heap.size ∧ ∀ i, i < len * 3 → w.cell? ⟨b, off + i, none⟩ = some (.int .i64 (zs.getD i 0)))
/-- A row of rules of one's own. -/
def RowR (base : Nat) (v : Value) (len : Nat) (zs : List Int) (w : World) : Prop := w.ownsRow base 137 3 v len (zs.map (Value.int .i64))

theorem Rls.below {w w' : World} {a : Option Addr} {len : Nat} {zs : List Int} (h : Rls w a len zs) (hb : Below w.heap.size w w') : Rls w' a len zs := by
  refine ⟨h.1, h.2.1, ?_⟩
  rcases h.2.2 with h0 | ⟨b, off, ha, hlt, hc⟩
  · exact Or.inl h0
  · exact Or.inr ⟨b, off, ha, Nat.lt_of_lt_of_le hlt hb.size, fun i hi => (hb.cell (p := ⟨b, off + i, none⟩) hlt).trans (hc i hi)⟩
theorem Rls.look {w : World} {a : Option Addr} {len : Nat} {zs : List Int} (h : Rls w a len zs) {k : Nat} (hk : k < len) :
    ∃ b off, a = some ⟨b, off, none⟩ ∧ b < w.heap.size ∧ w.cell? ⟨b, off + k * 3, none⟩ = some (.int .i64 (zs.getD (k * 3) 0)) ∧ w.cell? ⟨b, off + k * 3 + 1, none⟩ = some (.int .i64 (zs.getD (k * 3 + 1) 0)) ∧ w.cell? ⟨b, off + k * 3 + 2, none⟩ = some (.int .i64 (zs.getD (k * 3 + 2) 0)) := by
  rcases h.2.2 with h0 | ⟨b, off, ha, hb, hc⟩
  · omega
  · exact ⟨b, off, ha, hb, hc _ (by omega), by rw [Nat.add_assoc]; exact hc _ (by omega), by rw [Nat.add_assoc]; exact hc _ (by omega)⟩
theorem RowR.size {base len : Nat} {v : Value} {zs : List Int} {w : World} (h : RowR base v len zs w) : zs.length = len * 3 := by simpa using h.1
theorem RowR.rls {base g len cap : Nat} {zs : List Int} {w : World} (h : RowR base (.slice (some ⟨g, 0, none⟩) len cap) len zs w) (hr : AllI zs) : Rls w (some ⟨g, 0, none⟩) len zs := by
  refine ⟨h.size, hr, Or.inr ⟨g, 0, rfl, (World.ownsRow.lt h g rfl).2, fun j hj => ?_⟩⟩
  have hs := h.size
  rw [Nat.zero_add, World.ownsRow.cellAt h j hj]
  simp [show j < zs.length by omega]
theorem RowR.slice {base len : Nat} {v : Value} {zs : List Int} {w : World} (h : RowR base v len zs w) (hr : AllI zs) : ∃ a cap, v = .slice a len cap ∧ Rls w a len zs := by
  rcases h.2 with ⟨h1, h2⟩ | ⟨g, cap, cur, h1, _⟩
  · exact ⟨none, 0, by rw [h1, h2], h.size, hr, Or.inl h2⟩
  · subst h1
    exact ⟨_, cap, rfl, h.rls hr⟩
theorem RowR.kept {b len : Nat} {v : Value} {zs : List Int} {w w' : World} {row : Option Nat} (h : RowR b v len zs w) (hg : w.grownBy w' row) (hne : v.ownBlock = none ∨ v.ownBlock ≠ row) : RowR b v len zs w' := World.ownsRow.kept h hg hne
theorem RowR.below {b len : Nat} {v : Value} {zs : List Int} {w w' : World} (h : RowR b v len zs w) (hb : Below w.heap.size w w') : RowR b v len zs w' :=
  World.ownsRow.kept h ⟨hb.os, hb.tape, hb.output, hb.size, fun k hk _ => hb.block k hk⟩ (by cases v.ownBlock <;> simp : v.ownBlock = none ∨ v.ownBlock ≠ none)
theorem RowR.lower {b b' len : Nat} {v : Value} {zs : List Int} {w : World} (h : RowR b v len zs w) (hb : b' ≤ b) : RowR b' v len zs w := by
  refine ⟨h.1, ?_⟩
  rcases h.2 with h0 | ⟨g, cap, cur, h1, h2, h3⟩
  · exact Or.inl h0
  · exact Or.inr ⟨g, cap, cur, h1, Nat.le_trans hb h2, h3⟩

end Go.Proofs.Ytiogjbdaaplhpaa
end
section
namespace Go.Proofs.Ytiogjbdaaplhpaa
open Go.ChangeShapes Go.WideShapes Go.ChangeAt Go.RowKit
set_option linter.unusedVariables false

theorem info_rule : (Try.prog.info? 137).map (fun i => (i.zero, i.size, i.bytes)) = some (some (.agg #[.int .i64 0, .int .i64 0, .int .i64 0]), 3, 24) := by kernel_rfl
theorem RowR.there {base g n cap : Nat} {zs : List Int} {w : World} (h : RowR base (.slice (some ⟨g, 0, none⟩) n cap) n zs w) (j : Nat) (hj : j < n * 3) : (∃ x, w.cell? ⟨g, j, none⟩ = some x) ∧ w.frozen? ⟨g, j, none⟩ = false := by
  have hs := h.size
  refine ⟨?_, World.ownsRow.frozenAt h j⟩
  rw [World.ownsRow.cellAt h j hj]
  exact ⟨_, List.getElem?_eq_getElem (by simp; omega)⟩

theorem below_three (w : World) (o p q : Obj) : Below w.heap.size w (((w.alloc o).alloc p).alloc q) := Go.Joins.below_alloc3 w o p q
end Go.Proofs.Ytiogjbdaaplhpaa
end
section
namespace Go.Proofs.Ytiogjbdaaplhpaa
open Go.ChangeShapes Go.WideShapes Go.ChangeAt Go.RowKit

/-- Rule k is valid. -/
def rokB (zs : List Int) (k : Nat) : Bool := decide (-1 ≤ zs.getD (k * 3) 0 ∧ zs.getD (k * 3) 0 ≤ 1048576) && decide (0 ≤ zs.getD (k * 3 + 1) 0 ∧ zs.getD (k * 3 + 1) 0 ≤ 1048576) && decide (0 ≤ zs.getD (k * 3 + 2) 0 ∧ zs.getD (k * 3 + 2) 0 ≤ 1048576)
def tokB (zs : List Int) (len : Nat) : Bool := decide (1 ≤ len ∧ len ≤ 6) && (List.range len).all (rokB zs)
theorem tok_len {zs : List Int} {len : Nat} (h : ¬ (1 ≤ len ∧ len ≤ 6)) : tokB zs len = false := by unfold tokB; rw [decide_eq_false h]; rfl
theorem tok_bad {zs : List Int} {len k : Nat} (hk : k < len) (h : rokB zs k = false) : tokB zs len = false := by
  unfold tokB
  rw [show (List.range len).all (rokB zs) = false by rw [List.all_eq_false]; exact ⟨k, List.mem_range.2 hk, by simp [h]⟩]
  simp
theorem tok_all {zs : List Int} {len : Nat} (h : ∀ j, j < len → rokB zs j = true) : tokB zs len = decide (1 ≤ len ∧ len ≤ 6) := by
  unfold tokB
  rw [show (List.range len).all (rokB zs) = true by rw [List.all_eq_true]; intro j hj; exact h j (List.mem_range.1 hj)]
  simp
theorem rok_succ {zs : List Int} {k : Nat} (h : ∀ j, j < k → rokB zs j = true) (h1 : rokB zs k = true) : ∀ j, j < k + 1 → rokB zs j = true := by
  intro j hj
  by_cases h3 : j < k
  · exact h j h3
  · obtain rfl : j = k := by omega
    exact h1
end Go.Proofs.Ytiogjbdaaplhpaa
end
section
namespace Go.Proofs.Ytiogjbdaaplhpaa
open Go.ChangeShapes Go.WideShapes Go.ChangeAt Go.RowKit
set_option linter.unusedVariables false

theorem rok_eq (zs : List Int) (k : Nat) : rokB zs k = (rnB (zs.getD (k * 3) 0) (-1) 1048576 && rnB (zs.getD (k * 3 + 1) 0) 0 1048576 && rnB (zs.getD (k * 3 + 2) 0) 0 1048576) := rfl
set_option maxHeartbeats 1000000 in
theorem iruleok (x y z : Int) (w : World) :
    Calls Try.prog 128 #[.agg #[.int .i64 x, .int .i64 y, .int .i64 z]] w fun e w' => e = .returned (.bool (rnB x (-1) 1048576 && rnB y 0 1048576 && rnB z 0 1048576)) ∧ Below w.heap.size w w' := by
  have k1 := irng x (-1) 1048576
  have k2 := irng y 0 1048576
  have k3 := irng z 0 1048576
  generalize rnB x (-1) 1048576 = p at *
  generalize rnB y 0 1048576 = q at *
  generalize rnB z 0 1048576 = r at *
  have bb := Go.Joins.below_alloc1 w (.cells #[.int .i64 x, .int .i64 y, .int .i64 z] 137)
  cases p <;> cases q <;>
    (go_enter Try.func128, Try.ntmps128
     go_wp2_with (first
       | (go_at_call_of 76 x; refine (k1 _).mono ?_; rintro e w1 ⟨rfl, rfl⟩)
       | (go_at_call_of 76 y; refine (k2 _).mono ?_; rintro e w1 ⟨rfl, rfl⟩)
       | (go_at_call_of 76 z; refine (k3 _).mono ?_; rintro e w1 ⟨rfl, rfl⟩))
     go_ret
     exact ⟨by simp, bb⟩)
theorem rn_len (len : Nat) : rnB (len : Int) 1 6 = decide (1 ≤ len ∧ len ≤ 6) := by
  unfold rnB
  exact decide_eq_decide.2 (by omega)
set_option maxHeartbeats 1000000 in
theorem itableok (a : Option Addr) (len cap : Nat) (zs : List Int) (w : World) (hz : Rls w a len zs) (hl : len ≤ 4611686018427387904) :
    Calls Try.prog 87 #[.agg #[.slice a len cap]] w fun e w' => e = .returned (.bool (tokB zs len)) ∧ Below w.heap.size w w' := by
  have h0 := hp_new w (.cells #[.slice a len cap] 51)
  have bb := Go.Joins.below_alloc1 w (.cells #[.slice a len cap] 51)
  obtain ⟨u, eu⟩ : ∃ u, u = w.alloc (.cells #[.slice a len cap] 51) := ⟨_, rfl⟩
  rw [← eu] at h0 bb
  have EU := Lib.hid eu
  clear eu
  have HZ := Lib.hid (hz.below bb)
  have c0 := Go.Joins.cell_of_block h0 0
  simp at c0
  have BB := Lib.hid bb
  clear hz h0 bb
  have kl := irng (len : Int) 1 6 u
  by_cases h16 : 1 ≤ len ∧ len ≤ 6
  · rw [rn_len, decide_eq_true h16] at kl
    have KL := Lib.hid kl
    clear kl
    go_enter Try.func87, Try.ntmps87
    go_wp2_with (rw [← EU.out])
    refine KL.out.mono ?_
    rintro e w1 ⟨rfl, rfl⟩
    go_wp2_with (fail)
    clear KL
    go_loopw [13] (fun i wr => ∃ k : Nat, k ≤ len ∧ i = .int .i64 k ∧ (∀ j, j < k → rokB zs j = true) ∧ Below w1.heap.size w1 wr) (fun i _ => len - (intOf i).toNat)
    case atStart => exact ⟨0, Nat.zero_le _, rfl, fun j hj => absurd hj (Nat.not_lt_zero _), Below.refl _ _⟩
    case round =>
      obtain ⟨k, hk, rfl, hm, hb⟩ := hrel
      by_cases hlt : k < len
      · obtain ⟨b, off, rfl, hbl, e0, e1, e2⟩ := (HZ.out.below hb).look hlt
        have hlo : (0 : Int) ≤ (k : Int) := Int.natCast_nonneg _
        have hhi : (k : Int) < (len : Int) := by omega
        have hbad : rokB zs k = false → tokB zs len = false := tok_bad hlt
        have hgood : rokB zs k = true → ∀ j, j < k + 1 → rokB zs j = true := rok_succ hm
        rw [rok_eq] at hbad hgood
        generalize zs.getD (k * 3) 0 = x at *
        generalize zs.getD (k * 3 + 1) 0 = y at *
        generalize zs.getD (k * 3 + 2) 0 = z at *
        obtain ⟨v, ev⟩ : ∃ v, v = wr.alloc (.cells #[.int .i64 x, .int .i64 y, .int .i64 z] 137) := ⟨_, rfl⟩
        have hown : v.heap[wr.heap.size]? = some (.cells #[.int .i64 x, .int .i64 y, .int .i64 z] 137) := ev ▸ hp_new wr _
        have hbv := Lib.hid (ev ▸ hb.alloc hb.size (.cells #[.int .i64 x, .int .i64 y, .int .i64 z] 137) : Below w1.heap.size w1 v)
        have N0 := Go.Joins.cell_of_block hown 0
        have N1 := Go.Joins.cell_of_block hown 1
        have N2 := Go.Joins.cell_of_block hown 2
        simp at N0 N1 N2
        have kr := iruleok x y z v
        generalize (rnB x (-1) 1048576 && rnB y 0 1048576 && rnB z 0 1048576) = q at *
        have KR := Lib.hid kr
        have EV := Lib.hid ev
        have HBAD := Lib.hid hbad
        have HGOOD := Lib.hid hgood
        clear hm hbad hgood kr ev hown hb
        go_wp2_with (rw [← EV.out])
        refine KR.out.mono ?_
        rintro e w2 ⟨rfl, b2⟩
        have B2 := Lib.hid (hbv.out.trans (b2.mono hbv.out.size))
        clear b2 KR N0 N1 N2 e0 e1 e2
        dsimp only
        cases q with
        | false =>
          go_wp2
          go_ret
          exact ⟨congrArg (fun t => Ending.returned (.bool t)) (HBAD.out (by simp)).symm, BB.out.trans (B2.out.mono BB.out.size)⟩
        | true =>
          go_wp2
          go_roundw
          case rel => exact ⟨k + 1, by omega, by go_num, HGOOD.out (by simp), B2.out⟩
          case measure => simp [intOf]; omega
      · obtain rfl : k = len := by omega
        have HM := Lib.hid hm
        clear hm
        go_wp2
        go_ret
        exact ⟨(congrArg (fun t => Ending.returned (.bool t)) ((tok_all HM.out).trans (decide_eq_true h16))).symm, BB.out.trans (hb.mono BB.out.size)⟩
  · rw [rn_len, decide_eq_false h16] at kl
    have KL := Lib.hid kl
    clear kl
    go_enter Try.func87, Try.ntmps87
    go_wp2_with (rw [← EU.out])
    refine KL.out.mono ?_
    rintro e w1 ⟨rfl, rfl⟩
    go_wp2_with (fail)
    go_ret
    exact ⟨(congrArg (fun t => Ending.returned (.bool t)) (tok_len (zs := zs) h16)).symm, BB.out⟩
set_option maxHeartbeats 2000000 in
theorem stableok (a : Option Addr) (len cap : Nat) (zs : List Int) (w : World) (hz : Rls w a len zs) (hl : len ≤ 4611686018427387904) :
    Calls Try.prog 81 #[.agg #[.slice a len cap]] w fun e w' => e = .returned (.bool (tokB zs len)) ∧ Below w.heap.size w w' := by
  have h0 := hp_new w (.cells #[.slice a len cap] 51)
  have bb := Go.Joins.below_alloc1 w (.cells #[.slice a len cap] 51)
  obtain ⟨u, eu⟩ : ∃ u, u = w.alloc (.cells #[.slice a len cap] 51) := ⟨_, rfl⟩
  have hus : w.heap.size < u.heap.size := by rw [eu]; simp
  rw [← eu] at h0 bb
  have EU := Lib.hid eu
  clear eu
  have HZ := Lib.hid (hz.below bb)
  have H0 := Lib.hid h0
  have BB := Lib.hid bb
  clear hz h0 bb
  go_enter Try.func81, Try.ntmps81
  go_wp2_with (rw [← EU.out])
  go_loopw [3] (fun i wr => ∃ k : Nat, k ≤ len ∧ i = .int .i64 k ∧ (∀ j, j < k → rokB zs j = true) ∧ Below u.heap.size u wr) (fun i _ => len - (intOf i).toNat)
  case atStart => exact ⟨0, Nat.zero_le _, rfl, fun j hj => absurd hj (Nat.not_lt_zero _), Below.refl _ _⟩
  case round =>
    obtain ⟨k, hk, rfl, hm, hb⟩ := hrel
    have hw0 : wr.heap[w.heap.size]? = _ := (hb.block w.heap.size hus).trans H0.out
    have c0 := Go.Joins.cell_of_block hw0 0
    simp at c0
    by_cases hlt : k < len
    · obtain ⟨b, off, rfl, hbl, e0, e1, e2⟩ := (HZ.out.below hb).look hlt
      have hlo : (0 : Int) ≤ (k : Int) := Int.natCast_nonneg _
      have hhi : (k : Int) < (len : Int) := by omega
      have hbad : rokB zs k = false → tokB zs len = false := tok_bad hlt
      have hgood : rokB zs k = true → ∀ j, j < k + 1 → rokB zs j = true := rok_succ hm
      rw [rok_eq] at hbad hgood
      generalize zs.getD (k * 3) 0 = x at *
      generalize zs.getD (k * 3 + 1) 0 = y at *
      generalize zs.getD (k * 3 + 2) 0 = z at *
      obtain ⟨v, ev⟩ : ∃ v, v = wr.alloc (.cells #[.int .i64 x, .int .i64 y, .int .i64 z] 137) := ⟨_, rfl⟩
      have hown : v.heap[wr.heap.size]? = some (.cells #[.int .i64 x, .int .i64 y, .int .i64 z] 137) := ev ▸ hp_new wr _
      have hbv := Lib.hid (ev ▸ hb.alloc hb.size (.cells #[.int .i64 x, .int .i64 y, .int .i64 z] 137) : Below u.heap.size u v)
      have N0 := Go.Joins.cell_of_block hown 0
      have N1 := Go.Joins.cell_of_block hown 1
      have N2 := Go.Joins.cell_of_block hown 2
      simp at N0 N1 N2
      have k1 := srng x (-1) 1048576
      have k2 := srng y 0 1048576
      have k3 := srng z 0 1048576
      generalize rnB x (-1) 1048576 = p at *
      generalize rnB y 0 1048576 = q at *
      generalize rnB z 0 1048576 = r at *
      have EV := Lib.hid ev
      have HBAD := Lib.hid hbad
      have HGOOD := Lib.hid hgood
      have K1 := Lib.hid k1
      have K2 := Lib.hid k2
      have K3 := Lib.hid k3
      clear hm hbad hgood ev hown hb k1 k2 k3 hw0
      cases p <;> cases q <;> cases r <;>
        (go_wp2_with (first
           | (rw [← EV.out])
           | (go_at_call_of 71 x; refine (K1.out _).mono ?_; rintro e w1 ⟨rfl, rfl⟩)
           | (go_at_call_of 71 y; refine (K2.out _).mono ?_; rintro e w1 ⟨rfl, rfl⟩)
           | (go_at_call_of 71 z; refine (K3.out _).mono ?_; rintro e w1 ⟨rfl, rfl⟩)))
      all_goals first
        | (go_ret; exact ⟨congrArg (fun t => Ending.returned (.bool t)) (HBAD.out (by simp)).symm, BB.out.trans (hbv.out.mono BB.out.size)⟩)
        | (go_roundw
           case rel => exact ⟨k + 1, by omega, by go_num, HGOOD.out (by simp), hbv.out⟩
           case measure => simp [intOf]; omega)
    · obtain rfl : k = len := by omega
      have HM := Lib.hid hm
      have kl := srng (k : Int) 1 6 wr
      rw [rn_len] at kl
      have hfin := tok_all hm
      generalize decide (1 ≤ k ∧ k ≤ 6) = fin at *
      have HF := Lib.hid hfin
      clear hfin HM
      have KL := Lib.hid kl
      have BF := Lib.hid (BB.out.trans (hb.mono BB.out.size))
      clear hm kl hb
      go_wp2_with (fail)
      refine KL.out.mono ?_
      rintro e w1 ⟨rfl, rfl⟩
      go_wp2_with (fail)
      go_ret
      exact ⟨(congrArg (fun t => Ending.returned (.bool t)) HF.out).symm, BF.out⟩
end Go.Proofs.Ytiogjbdaaplhpaa
end
section
namespace Go.Proofs.Ytiogjbdaaplhpaa
open Go.ChangeShapes Go.WideShapes Go.ChangeAt Go.RowKit
set_option linter.unusedVariables false

theorem RowR.put {base g n cap : Nat} {zs : List Int} {w : World} (h : RowR base (.slice (some ⟨g, 0, none⟩) n cap) n zs w) (j : Nat) (x : Int) : RowR base (.slice (some ⟨g, 0, none⟩) n cap) n (zs.set j x) (w.setCell ⟨g, j, none⟩ (.int .i64 x)) := by
  have := (World.ownsRow.stored h j (.int .i64 x)).1
  rw [← List.map_set] at this
  exact this
theorem gr_set {a b : World} {g j : Nat} {u : Value} (h : a.grownBy b (some g)) : a.grownBy (b.setCell ⟨g, j, none⟩ u) (some g) :=
  ⟨h.os, h.tape, h.output, by simpa [World.setCell] using h.size, fun i hi hne => (Below.heap_setCell b ⟨g, j, none⟩ u i (by rintro rfl; exact hne rfl)).trans (h.block i hi hne)⟩
theorem gr_tr {a b c : World} {row : Option Nat} (h : a.grownBy b row) (k : b.grownBy c row) : a.grownBy c row :=
  ⟨k.os.trans h.os, k.tape.trans h.tape, k.output.trans h.output, Nat.le_trans h.size k.size, fun i hi hne => (k.block i (Nat.lt_of_lt_of_le hi h.size) hne).trans (h.block i hi hne)⟩
end Go.Proofs.Ytiogjbdaaplhpaa
end

import Derived.Deep.Slices
import Derived.Deep.MidRow
import Derived.OwnWalk
import Derived.Deep.QuietTactic
import Derived.BigQuiet
import Derived.Lib.QuietBelow
import Derived.Laws.StructEq
import Derived.Test.YtckpjldenkjddaaZtAA
import Derived.Test.YtckpjldenkjddaaZtAD
section
namespace Go.Proofs.Ytckpjldenkjddaa
open Go.ChangeShapes Go.WideShapes Go.ChangeAt Go.RowKit
set_option maxRecDepth 8000

/-- len rules lie at a: their ints are zs. -/
def Rls (w : World) (a : Option Addr) (len : Nat) (zs : List Int) : Prop :=
  zs.length = len * 3 ∧ AllI zs ∧
  (len = 0 ∨ ∃ b off, a = some ⟨b, off, none⟩ ∧ b < w.heap.size ∧ ∀ i, i < len * 3 → w.cell? ⟨b, off + i, none⟩ = some (.int .i64 (zs.getD i 0)))
/-- A row of rules of one's own. -/
def RowR (base : Nat) (v : Value) (len : Nat) (zs : List Int) (w : World) : Prop := w.ownsRow base 137 3 v len (zs.map (Value.int .i64))

theorem Rls.below {w w' : World} {a : Option Addr} {len : Nat} {zs : List Int} (h : Rls w a len zs) (hb : Below w.heap.size w w') : Rls w' a len zs := by
  refine ⟨h.1, h.2.1, ?_⟩
  rcases h.2.2 with h0 | ⟨b, off, ha, hlt, hc⟩
  · exact Or.inl h0
  · exact Or.inr ⟨b, off, ha, Nat.lt_of_lt_of_le hlt hb.size, fun i hi => (hb.cell (p := ⟨b, off + i, none⟩) hlt).trans (hc i hi)⟩
theorem Rls.look {w : World} {a : Option Addr} {len : Nat} {zs : List Int} (h : Rls w a len zs) {k : Nat} (hk : k < len) :
    ∃ b off, a = some ⟨b, off, none⟩ ∧ b < w.heap.size ∧ w.cell? ⟨b, off + k * 3, none⟩ = some (.int .i64 (zs.getD (k * 3) 0)) ∧ w.cell? ⟨b, off + k * 3 + 1, none⟩ = some (.int .i64 (zs.getD (k * 3 + 1) 0)) ∧ w.cell? ⟨b, off + k * 3 + 2, none⟩ = some (.int .i64 (zs.getD (k * 3 + 2) 0)) := by
  rcases h.2.2 with h0 | ⟨b, off, ha, hb, hc⟩
  · omega
  · exact ⟨b, off, ha, hb, hc _ (by omega), by rw [Nat.add_assoc]; exact hc _ (by omega), by rw [Nat.add_assoc]; exact hc _ (by omega)⟩
theorem RowR.size {base len : Nat} {v : Value} {zs : List Int} {w : World} (h : RowR base v len zs w) : zs.length = len * 3 := by simpa using h.1
theorem RowR.rls {base g len cap : Nat} {zs : List Int} {w : World} (h : RowR base (.slice (some ⟨g, 0, none⟩) len cap) len zs w) (hr : AllI zs) : Rls w (some ⟨g, 0, none⟩) len zs := by
  refine ⟨h.size, hr, Or.inr ⟨g, 0, rfl, (World.ownsRow.lt h g rfl).2, fun j hj => ?_⟩⟩
  have hs := h.size
  rw [Nat.zero_add, World.ownsRow.cellAt h j hj]
  simp [show j < zs.length by omega]
theorem RowR.slice {base len : Nat} {v : Value} {zs : List Int} {w : World} (h : RowR base v len zs w) (hr : AllI zs) : ∃ a cap, v = .slice a len cap ∧ Rls w a len zs := by
  rcases h.2 with ⟨h1, h2⟩ | ⟨g, cap, cur, h1, _⟩
  · exact ⟨none, 0, by rw [h1, h2], h.size, hr, Or.inl h2⟩
  · subst h1
    exact ⟨_, cap, rfl, h.rls hr⟩
theorem RowR.kept {b len : Nat} {v : Value} {zs : List Int} {w w' : World} {row : Option Nat} (h : RowR b v len zs w) (hg : w.grownBy w' row) (hne : v.ownBlock = none ∨ v.ownBlock ≠ row) : RowR b v len zs w' := World.ownsRow.kept h hg hne
theorem RowR.below {b len : Nat} {v : Value} {zs : List Int} {w w' : World} (h : RowR b v len zs w) (hb : Below w.heap.size w w') : RowR b v len zs w' :=
  World.ownsRow.kept h ⟨hb.os, hb.tape, hb.output, hb.size, fun k hk _ => hb.block k hk⟩ (by cases v.ownBlock <;> simp : v.ownBlock = none ∨ v.ownBlock ≠ none)
theorem RowR.lower {b b' len : Nat} {v : Value} {zs : List Int} {w : World} (h : RowR b v len zs w) (hb : b' ≤ b) : RowR b' v len zs w := by
  refine ⟨h.1, ?_⟩
  rcases h.2 with h0 | ⟨g, cap, cur, h1, h2, h3⟩
  · exact Or.inl h0
  · exact Or.inr ⟨g, cap, cur, h1, Nat.le_trans hb h2, h3⟩

end Go.Proofs.Ytckpjldenkjddaa
end
section
namespace Go.Proofs.Ytckpjldenkjddaa
open Go.ChangeShapes Go.WideShapes Go.ChangeAt Go.RowKit
set_option linter.unusedVariables false

theorem info_rule : (Try.prog.info? 137).map (fun i => (i.zero, i.size, i.bytes)) = some (some (.agg #[.int .i64 0, .int .i64 0, .int .i64 0]), 3, 24) := by kernel_rfl
theorem RowR.there {base g n cap : Nat} {zs : List Int} {w : World} (h : RowR base (.slice (some ⟨g, 0, none⟩) n cap) n zs w) (j : Nat) (hj : j < n * 3) : (∃ x, w.cell? ⟨g, j, none⟩ = some x) ∧ w.frozen? ⟨g, j, none⟩ = false := by
  have hs := h.size
  refine ⟨?_, World.ownsRow.frozenAt h j⟩
  rw [World.ownsRow.cellAt h j hj]
  exact ⟨_, List.getElem?_eq_getElem (by simp; omega)⟩

theorem below_three (w : World) (o p q : Obj) : Below w.heap.size w (((w.alloc o).alloc p).alloc q) := Go.Joins.below_alloc3 w o p q
end Go.Proofs.Ytckpjldenkjddaa
end
section
namespace Go.Proofs.Ytckpjldenkjddaa
open Go.ChangeShapes Go.WideShapes Go.ChangeAt Go.RowKit

/-- Rule k is valid. -/
def rokB (zs : List Int) (k : Nat) : Bool := decide (-1 ≤ zs.getD (k * 3) 0 ∧ zs.getD (k * 3) 0 ≤ 1048576) && decide (0 ≤ zs.getD (k * 3 + 1) 0 ∧ zs.getD (k * 3 + 1) 0 ≤ 1048576) && decide (0 ≤ zs.getD (k * 3 + 2) 0 ∧ zs.getD (k * 3 + 2) 0 ≤ 1048576)
def tokB (zs : List Int) (len : Nat) : Bool := decide (1 ≤ len ∧ len ≤ 6) && (List.range len).all (rokB zs)
theorem tok_len {zs : List Int} {len : Nat} (h : ¬ (1 ≤ len ∧ len ≤ 6)) : tokB zs len = false := by unfold tokB; rw [decide_eq_false h]; rfl
theorem tok_bad {zs : List Int} {len k : Nat} (hk : k < len) (h : rokB zs k = false) : tokB zs len = false := by
  unfold tokB
  rw [show (List.range len).all (rokB zs) = false by rw [List.all_eq_false]; exact ⟨k, List.mem_range.2 hk, by simp [h]⟩]
  simp
theorem tok_all {zs : List Int} {len : Nat} (h : ∀ j, j < len → rokB zs j = true) : tokB zs len = decide (1 ≤ len ∧ len ≤ 6) := by
  unfold tokB
  rw [show (List.range len).all (rokB zs) = true by rw [List.all_eq_true]; intro j hj; exact h j (List.mem_range.1 hj)]
  simp
theorem rok_succ {zs : List Int} {k : Nat} (h : ∀ j, j < k → rokB zs j = true) (h1 : rokB zs k = true) : ∀ j, j < k + 1 → rokB zs j = true := by
  intro j hj
  by_cases h3 : j < k
  · exact h j h3
  · obtain rfl : j = k := by omega
    exact h1
end Go.Proofs.Ytckpjldenkjddaa
end
section
namespace Go.Proofs.Ytckpjldenkjddaa
open Go.ChangeShapes Go.WideShapes Go.ChangeAt Go.RowKit
set_option linter.unusedVariables false

theorem RowR.put {base g n cap : Nat} {zs : List Int} {w : World} (h : RowR base (.slice (some ⟨g, 0, none⟩) n cap) n zs w) (j : Nat) (x : Int) : RowR base (.slice (some ⟨g, 0, none⟩) n cap) n (zs.set j x) (w.setCell ⟨g, j, none⟩ (.int .i64 x)) := by
  have := (World.ownsRow.stored h j (.int .i64 x)).1
  rw [← List.map_set] at this
  exact this
theorem gr_set {a b : World} {g j : Nat} {u : Value} (h : a.grownBy b (some g)) : a.grownBy (b.setCell ⟨g, j, none⟩ u) (some g) :=
  ⟨h.os, h.tape, h.output, by simpa [World.setCell] using h.size, fun i hi hne => (Below.heap_setCell b ⟨g, j, none⟩ u i (by rintro rfl; exact hne rfl)).trans (h.block i hi hne)⟩
theorem gr_tr {a b c : World} {row : Option Nat} (h : a.grownBy b row) (k : b.grownBy c row) : a.grownBy c row :=
  ⟨k.os.trans h.os, k.tape.trans h.tape, k.output.trans h.output, Nat.le_trans h.size k.size, fun i hi hne => (k.block i (Nat.lt_of_lt_of_le hi h.size) hne).trans (h.block i hi hne)⟩
end Go.Proofs.Ytckpjldenkjddaa
end
section
namespace Go.Proofs.Ytckpjldenkjddaa
open Go.ChangeShapes Go.WideShapes Go.ChangeAt Go.RowKit
set_option linter.unusedVariables false

/-- The same rules. -/
def smB (zs ys : List Int) : Bool := decide (zs = ys)
theorem smt_len {zs ys : List Int} {n m : Nat} (h1 : zs.length = n * 3) (h2 : ys.length = m * 3) (h : n ≠ m) : smB zs ys = false :=
  decide_eq_false fun e => by subst e; omega
theorem sm_bad {zs ys : List Int} {j : Nat} (h : zs.getD j 0 ≠ ys.getD j 0) : smB zs ys = false :=
  decide_eq_false fun e => by subst e; exact h rfl
theorem sm_all {zs ys : List Int} {n : Nat} (h1 : zs.length = n * 3) (h2 : ys.length = n * 3) (h : ∀ j, j < n * 3 → zs.getD j 0 = ys.getD j 0) : smB zs ys = true := by
  refine decide_eq_true (List.ext_getElem (by omega) fun j h3 h4 => ?_)
  have := h j (by omega)
  simpa [List.getD, h3, h4] using this
theorem sm_succ {zs ys : List Int} {k : Nat} (h : ∀ j, j < k * 3 → zs.getD j 0 = ys.getD j 0) (e0 : zs.getD (k * 3) 0 = ys.getD (k * 3) 0) (e1 : zs.getD (k * 3 + 1) 0 = ys.getD (k * 3 + 1) 0) (e2 : zs.getD (k * 3 + 2) 0 = ys.getD (k * 3 + 2) 0) :
    ∀ j, j < (k + 1) * 3 → zs.getD j 0 = ys.getD j 0 := by
  intro j hj
  by_cases h3 : j < k * 3
  · exact h j h3
  · have : j = k * 3 ∨ j = k * 3 + 1 ∨ j = k * 3 + 2 := by omega
    rcases this with rfl | rfl | rfl <;> assumption
theorem neq_rule (a b c x y z : Int) (w : World) :
    (binOp .neq 137 (.agg #[.int .i64 a, .int .i64 b, .int .i64 c]) (.agg #[.int .i64 x, .int .i64 y, .int .i64 z])).run Try.prog w = .ok (.bool (!(a == x && b == y && c == z))) w := by
  have u3 := Try.underlying3
  have a3 := Try.isAgg3
  have z3 := Try.sizeOf3
  have hS : Try.prog.underlying 137 = some (.struct (Try.prog.fieldsOf 137)) := by kernel_rfl
  have hp : Try.prog.stoodInHeld 137 = false := by kernel_rfl
  rw [run_neq_struct, show (10000 : Nat) = 9999 + 1 from rfl, run_equalIn_agg w 9999 137 _ _ hS hp]
  simp only [Program.fieldsOf, Try.underlying137]
  go_simp
  by_cases h1 : a = x <;> by_cases h2 : b = y <;> by_cases h3 : c = z <;> simp [h1, h2, h3]
theorem nguard_rule (x y : Operand) (xs ys : Array Value) (w : World) : (eqGuard .neq 137 x y (.agg xs) (.agg ys)).run Try.prog w = .ok () w := run_eqGuard_agg w _ _ x y xs ys (by kernel_rfl)
set_option maxHeartbeats 1000000 in
theorem lrules_any (a a' : Option Addr) (len len' cap cap' : Nat) (zs ys : List Int) (w : World) (hz : Rls w a len zs) (hz' : Rls w a' len' ys) (hl : len ≤ 4611686018427387904) (hl' : len' ≤ 4611686018427387904) :
    Calls Try.prog 159 #[.slice a len cap, .slice a' len' cap'] w fun e w' => e = .returned (.bool (smB zs ys)) ∧ Below w.heap.size w w' := by
  by_cases hn : len = len'
  · subst hn
    have q' := nguard_rule
    go_enter Try.func159, Try.ntmps159
    go_wp2
    go_loopw [5] (fun i wr => ∃ k m : Nat, k ≤ len ∧ i = .int .i64 k ∧ (∀ j, j < k * 3 → zs.getD j 0 = ys.getD j 0) ∧ wr = w.drewN m) (fun i _ => len - (intOf i).toNat)
    case atStart => exact ⟨0, 0, Nat.zero_le _, rfl, fun j hj => absurd hj (by omega), rfl⟩
    case round =>
      obtain ⟨k, m, hk, rfl, hm, rfl⟩ := hrel
      by_cases hlt : k < len
      · obtain ⟨b, off, rfl, hbl, c0, c1, c2⟩ := hz.look hlt
        obtain ⟨b', off', rfl, hbl', d0, d1, d2⟩ := hz'.look hlt
        have hlo : (0 : Int) ≤ (k : Int) := Int.natCast_nonneg _
        have hhi : (k : Int) < (len : Int) := by omega
        have b0 := sm_bad (zs := zs) (ys := ys) (j := k * 3)
        have b1 := sm_bad (zs := zs) (ys := ys) (j := k * 3 + 1)
        have b2 := sm_bad (zs := zs) (ys := ys) (j := k * 3 + 2)
        have hs := sm_succ (zs := zs) (ys := ys) (k := k) hm
        generalize zs.getD (k * 3) 0 = x0 at *
        generalize zs.getD (k * 3 + 1) 0 = x1 at *
        generalize zs.getD (k * 3 + 2) 0 = x2 at *
        generalize ys.getD (k * 3) 0 = y0 at *
        generalize ys.getD (k * 3 + 1) 0 = y1 at *
        generalize ys.getD (k * 3 + 2) 0 = y2 at *
        have q := neq_rule x0 x1 x2 y0 y1 y2
        have hbad : (!(x0 == y0 && x1 == y1 && x2 == y2)) = true → smB zs ys = false := by
          intro h
          by_cases g0 : x0 = y0
          · by_cases g1 : x1 = y1
            · by_cases g2 : x2 = y2
              · simp [g0, g1, g2] at h
              · exact b2 g2
            · exact b1 g1
          · exact b0 g0
        have hgood : (!(x0 == y0 && x1 == y1 && x2 == y2)) = false → x0 = y0 ∧ x1 = y1 ∧ x2 = y2 := by
          intro h
          simp at h
          exact ⟨h.1.1, h.1.2, h.2⟩
        generalize (!(x0 == y0 && x1 == y1 && x2 == y2)) = r at *
        have HBAD := Lib.hid hbad
        have HGOOD := Lib.hid hgood
        have HS := Lib.hid hs
        clear hz hz' hm b0 b1 b2 hs hbad hgood
        go_wp2
        go_quiet (fail)
        clear q c0 c1 c2 d0 d1 d2
        cases r with
        | true =>
          go_wp2
          go_ret
          exact ⟨congrArg (fun t => Ending.returned (.bool t)) (HBAD.out (by simp)).symm, below_drawn w _⟩
        | false =>
          have g := HGOOD.out (by simp)
          have HG := Lib.hid g
          clear g
          go_wp2
          go_roundw
          case rel => exact ⟨k + 1, m + nq, by omega, by go_num, HS.out HG.out.1 HG.out.2.1 HG.out.2.2, rfl⟩
          case measure => simp [intOf]; omega
      · obtain rfl : k = len := by omega
        have HA := Lib.hid (sm_all hz.1 hz'.1 hm)
        clear hz hz' hm
        go_wp2
        go_ret
        exact ⟨congrArg (fun t => Ending.returned (.bool t)) HA.out.symm, below_drawn w m⟩
  · have HA := Lib.hid (smt_len hz.1 hz'.1 hn)
    have hni : ¬ (len : Int) = (len' : Int) := by omega
    clear hz hz'
    go_enter Try.func159, Try.ntmps159
    go_wp2
    go_ret
    exact ⟨congrArg (fun t => Ending.returned (.bool t)) HA.out.symm, Below.refl _ _⟩
end Go.Proofs.Ytckpjldenkjddaa
end

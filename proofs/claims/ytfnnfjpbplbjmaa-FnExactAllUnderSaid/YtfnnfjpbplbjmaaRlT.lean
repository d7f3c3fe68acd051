/-
  The laws' helpers on tables: szTable (how many rules), toRule, toRuleS, toTable (a copy). Conditions: at most 1048576 rules for the copy.
-/
import Derived.Test.YtfnnfjpbplbjmaaRls
import Derived.OwnWalk
import Derived.Deep.QuietTactic
import Derived.BigQuiet
namespace Go.Proofs.Ytfnnfjpbplbjmaa
open Go.ChangeShapes Go.WideShapes Go.ChangeAt Go.RowKit
set_option linter.unusedVariables false

theorem szr_fit (a : Option Addr) (len cap : Nat) (left : Int) (w : World) (h0 : (len : Int) ≤ left) (h1 : left ≤ 1048576) :
    Calls Try.prog 163 #[.slice a len cap, .int .i64 left] w fun e w' => e = .returned (.int .i64 (left - len)) ∧ Below w.heap.size w w' := by
  go_enter Try.func163, Try.ntmps163
  go_wp2
  go_ret
  exact ⟨rfl, Below.refl _ _⟩
theorem szr_big (a : Option Addr) (len cap : Nat) (left : Int) (w : World) (h : left < len) (h0 : 0 ≤ left) (hl : len ≤ 9223372036854775807) :
    Calls Try.prog 163 #[.slice a len cap, .int .i64 left] w fun e w' => e = .returned (.int .i64 (-1)) ∧ Below w.heap.size w w' := by
  go_enter Try.func163, Try.ntmps163
  go_wp2
  go_ret
  exact ⟨rfl, Below.refl _ _⟩
theorem szt_fit (a : Option Addr) (len cap : Nat) (left : Int) (w : World) (h0 : (len : Int) ≤ left) (h1 : left ≤ 1048576) :
    Calls Try.prog 152 #[.agg #[.slice a len cap], .int .i64 left] w fun e w' => e = .returned (.int .i64 (left - len)) ∧ Below w.heap.size w w' := by
  go_enter Try.func152, Try.ntmps152
  go_wp2_with (fail)
  refine (szr_fit a len cap left _ h0 h1).mono ?_
  rintro e w1 ⟨rfl, b1⟩
  go_wp2
  go_ret
  exact ⟨rfl, (Go.Joins.below_alloc1 w _).trans (b1.mono (Go.Joins.below_alloc1 w _).size)⟩
theorem szt_big (a : Option Addr) (len cap : Nat) (left : Int) (w : World) (h : left < len) (h0 : 0 ≤ left) (hl : len ≤ 9223372036854775807) :
    Calls Try.prog 152 #[.agg #[.slice a len cap], .int .i64 left] w fun e w' => e = .returned (.int .i64 (-1)) ∧ Below w.heap.size w w' := by
  go_enter Try.func152, Try.ntmps152
  go_wp2_with (fail)
  refine (szr_big a len cap left _ h h0 hl).mono ?_
  rintro e w1 ⟨rfl, b1⟩
  go_wp2
  go_ret
  exact ⟨rfl, (Go.Joins.below_alloc1 w _).trans (b1.mono (Go.Joins.below_alloc1 w _).size)⟩

theorem torule_any (x y z : Int) (w : World) :
    Calls Try.prog 175 #[.agg #[.int .i64 x, .int .i64 y, .int .i64 z]] w fun e w' => e = .returned (.agg #[.int .i64 x, .int .i64 y, .int .i64 z]) ∧ Below w.heap.size w w' := by
  go_enter Try.func175, Try.ntmps175
  go_wp2
  refine bodyPost_ret (v := .agg #[.int .i64 x, .int .i64 y, .int .i64 z]) (by simp [results, Try.results175, go_sem]) rfl ⟨rfl, Go.Joins.below_alloc3 ..⟩

theorem take_set3 {zs l : List Int} {k n : Nat} (h1 : zs.length = n * 3) (h2 : l.length = n * 3) (hk : k < n) :
    (((zs.take (k * 3) ++ l.drop (k * 3)).set (k * 3) (zs.getD (k * 3) 0)).set (k * 3 + 1) (zs.getD (k * 3 + 1) 0)).set (k * 3 + 2) (zs.getD (k * 3 + 2) 0) = zs.take ((k + 1) * 3) ++ l.drop ((k + 1) * 3) := by
  rw [take_set (by omega) (by omega), take_set (by omega) (by omega), take_set (by omega) (by omega), show (k + 1) * 3 = k * 3 + 1 + 1 + 1 by omega]
theorem info_rule : (Try.prog.info? 137).map (fun i => (i.zero, i.size, i.bytes)) = some (some (.agg #[.int .i64 0, .int .i64 0, .int .i64 0]), 3, 24) := by kernel_rfl
theorem made3 (n : Nat) : (madeCells (Value.agg #[.int .i64 0, .int .i64 0, .int .i64 0]).cells (n * 3)).toList = (List.replicate (n * 3) (0 : Int)).map (Value.int .i64) := by
  apply List.ext_getElem?
  intro j
  by_cases hj : j < n * 3
  · have h3 : j % 3 < 3 := Nat.mod_lt _ (by decide)
    simp [madeCells, Value.cells, hj]
    generalize j % 3 = r at h3
    match r, h3 with
    | 0, _ => rfl
    | 1, _ => rfl
    | 2, _ => rfl
  · simp [madeCells, Value.cells, hj]

def ToRPost (len : Nat) (zs : List Int) (w : World) (e : Ending) (w' : World) : Prop :=
  e = .returned (.slice (some ⟨w.heap.size, 0, none⟩) len len) ∧ RowR w.heap.size (.slice (some ⟨w.heap.size, 0, none⟩) len len) len zs w' ∧ Below w.heap.size w w'
def ToRRel (len : Nat) (zs : List Int) (w : World) (i : Value) (wr : World) : Prop :=
  ∃ k : Nat, k ≤ len ∧ i = .int .i64 k ∧ RowR w.heap.size (.slice (some ⟨w.heap.size, 0, none⟩) len len) len (zs.take (k * 3) ++ (List.replicate (len * 3) 0).drop (k * 3)) wr ∧ Below w.heap.size w wr
/-- One round's three stores. -/
theorem RowR.store3 {base g n cap k : Nat} {zs l : List Int} {w : World} (h : RowR base (.slice (some ⟨g, 0, none⟩) n cap) n (zs.take (k * 3) ++ l.drop (k * 3)) w) (h1 : zs.length = n * 3) (h2 : l.length = n * 3) (hk : k < n) :
    RowR base (.slice (some ⟨g, 0, none⟩) n cap) n (zs.take ((k + 1) * 3) ++ l.drop ((k + 1) * 3)) (((w.setCell ⟨g, k * 3, none⟩ (.int .i64 (zs.getD (k * 3) 0))).setCell ⟨g, k * 3 + 1, none⟩ (.int .i64 (zs.getD (k * 3 + 1) 0))).setCell ⟨g, k * 3 + 2, none⟩ (.int .i64 (zs.getD (k * 3 + 2) 0))) := by
  have a := ((World.ownsRow.stored (World.ownsRow.stored (World.ownsRow.stored h (k * 3) (.int .i64 (zs.getD (k * 3) 0))).1 (k * 3 + 1) (.int .i64 (zs.getD (k * 3 + 1) 0))).1 (k * 3 + 2) (.int .i64 (zs.getD (k * 3 + 2) 0))).1)
  rw [← List.map_set, ← List.map_set, ← List.map_set, take_set3 h1 h2 hk] at a
  exact a
theorem RowR.there {base g n cap : Nat} {zs : List Int} {w : World} (h : RowR base (.slice (some ⟨g, 0, none⟩) n cap) n zs w) (j : Nat) (hj : j < n * 3) : (∃ x, w.cell? ⟨g, j, none⟩ = some x) ∧ w.frozen? ⟨g, j, none⟩ = false := by
  have hs := h.size
  refine ⟨?_, World.ownsRow.frozenAt h j⟩
  rw [World.ownsRow.cellAt h j hj]
  exact ⟨_, List.getElem?_eq_getElem (by simp; omega)⟩

set_option maxHeartbeats 1000000 in
theorem toRS_any (a : Option Addr) (len cap : Nat) (zs : List Int) (w : World) (hz : Rls w a len zs) (hl : len ≤ 1048576) :
    Calls Try.prog 167 #[.slice a len cap] w (ToRPost len zs w) := by
  obtain ⟨i0, hi, hz0, hz1, hz2⟩ := info_parts info_rule
  have hzl : zs.length = len * 3 := hz.1
  go_enter Try.func167, Try.ntmps167
  go_wp2_with (first
    | (at_make; refine wpList_make_full _ rfl _ _ 49 rfl w.heap.size 137 i0 (.agg #[.int .i64 0, .int .i64 0, .int .i64 0]) 3 Try.underlying49 hi hz0 hz1 .i64 .i64 _ _ len rfl rfl rfl rfl (by rw [hz2]; omega) (by unfold maxLen; omega) (Nat.le_refl _) ?_; intro w0 hown0 hgrow0))
  have hr0 : RowR w.heap.size (.slice (some ⟨w.heap.size, 0, none⟩) len len) len (zs.take (0 * 3) ++ (List.replicate (len * 3) 0).drop (0 * 3)) w0 := by
    unfold RowR
    rw [made3] at hown0
    simpa using hown0
  have hb0 : Below w.heap.size w w0 := (Below.refl _ _).grown hgrow0 (Nat.le_refl _) (fun g hg => by cases hg)
  clear hown0 hgrow0
  go_wp2
  go_loopw [4] (ToRRel len zs w) (fun i _ => len - (intOf i).toNat)
  case atStart => exact ⟨0, Nat.zero_le _, rfl, hr0, hb0⟩
  case round =>
    obtain ⟨k, hk, rfl, ho, hb⟩ := hrel
    by_cases hlt : k < len
    · obtain ⟨b, off, rfl, hbl, c0, c1, c2⟩ := hz.look hlt
      have c0' : wr.cell? ⟨b, off + k * 3, none⟩ = some (.int .i64 (zs.getD (k * 3) 0)) := (hb.cell (p := ⟨b, off + k * 3, none⟩) hbl).trans c0
      have c1' : wr.cell? ⟨b, off + k * 3 + 1, none⟩ = some (.int .i64 (zs.getD (k * 3 + 1) 0)) := (hb.cell (p := ⟨b, off + k * 3 + 1, none⟩) hbl).trans c1
      have c2' : wr.cell? ⟨b, off + k * 3 + 2, none⟩ = some (.int .i64 (zs.getD (k * 3 + 2) 0)) := (hb.cell (p := ⟨b, off + k * 3 + 2, none⟩) hbl).trans c2
      have hlo : (0 : Int) ≤ (k : Int) := Int.natCast_nonneg _
      have hhi : (k : Int) < (len : Int) := by omega
      have HZ := Lib.hid hz
      have HO := Lib.hid ho
      have HS := Lib.hid (fun (w' : World) (h : RowR w.heap.size (.slice (some ⟨w.heap.size, 0, none⟩) len len) len (zs.take (k * 3) ++ (List.replicate (len * 3) (0 : Int)).drop (k * 3)) w') => h.store3 hzl (by simp) hlt)
      clear hz ho c0 c1 c2
      generalize zs.getD (k * 3) 0 = x at *
      generalize zs.getD (k * 3 + 1) 0 = y at *
      generalize zs.getD (k * 3 + 2) 0 = z at *
      go_wp2_with (fail)
      refine (torule_any x y z wr).mono ?_
      rintro e w1 ⟨rfl, b1⟩
      have hb1 := hb.trans (b1.mono hb.size)
      have ho1 := HO.out.below b1
      obtain ⟨⟨y0, d0⟩, f0⟩ := ho1.there (k * 3) (by omega)
      obtain ⟨⟨y1, d1⟩, f1⟩ := ho1.there (k * 3 + 1) (by omega)
      obtain ⟨⟨y2, d2⟩, f2⟩ := ho1.there (k * 3 + 2) (by omega)
      have hs1 := HS.out w1 ho1
      have B1 := Lib.hid (bl_set (bl_set (bl_set hb1 (g := w.heap.size) (k * 3) (Nat.le_refl _) (.int .i64 x)) (g := w.heap.size) (k * 3 + 1) (Nat.le_refl _) (.int .i64 y)) (g := w.heap.size) (k * 3 + 2) (Nat.le_refl _) (.int .i64 z))
      have S1 := Lib.hid hs1
      clear hs1 hb1 ho1 b1 hb c0' c1' c2' HO HS
      dsimp only
      go_wp2
      go_roundw
      case rel => exact ⟨k + 1, by omega, by go_num, S1.out, B1.out⟩
      case measure => simp [intOf]; omega
    · obtain rfl : k = len := by omega
      rw [List.take_of_length_le (by omega), List.drop_of_length_le (by simp), List.append_nil] at ho
      clear hz
      go_wp2
      go_ret
      exact ⟨rfl, ho, hb⟩

/-- What a call leaves that hands back a copy of the table. -/
def ToTPost (len : Nat) (zs : List Int) (w : World) (e : Ending) (w' : World) : Prop :=
  ∃ g, e = .returned (.agg #[.slice (some ⟨g, 0, none⟩) len len]) ∧ RowR w.heap.size (.slice (some ⟨g, 0, none⟩) len len) len zs w' ∧ Below w.heap.size w w'
theorem below_three (w : World) (o p q : Obj) : Below w.heap.size w (((w.alloc o).alloc p).alloc q) := Go.Joins.below_alloc3 w o p q
set_option maxHeartbeats 1000000 in
theorem toT_any (a : Option Addr) (len cap : Nat) (zs : List Int) (w : World) (hz : Rls w a len zs) (hl : len ≤ 1048576) :
    Calls Try.prog 155 #[.agg #[.slice a len cap]] w (ToTPost len zs w) := by
  have bb := below_three w (.cells #[.slice a len cap] 157) (.cells #[.slice none 0 0] 51) (.cells #[.slice none 0 0] 51)
  have h1 := hp_on (hp_new (w.alloc (.cells #[.slice a len cap] 157)) (.cells #[.slice none 0 0] 51)) (.cells #[.slice none 0 0] 51)
  have h2 := hp_new ((w.alloc (.cells #[.slice a len cap] 157)).alloc (.cells #[.slice none 0 0] 51)) (.cells #[.slice none 0 0] 51)
  have hsz : (((w.alloc (.cells #[.slice a len cap] 157)).alloc (.cells #[.slice none 0 0] 51)).alloc (.cells #[.slice none 0 0] 51)).heap.size = w.heap.size + 3 := by simp
  simp only [World.size_alloc] at h1 h2
  have HZ := Lib.hid (hz.below bb)
  clear hz
  go_enter Try.func155, Try.ntmps155
  go_wp2_with (fail)
  generalize (((w.alloc (.cells #[.slice a len cap] 157)).alloc (.cells #[.slice none 0 0] 51)).alloc (.cells #[.slice none 0 0] 51)) = u at *
  refine (toRS_any a len cap zs u HZ.out hl).mono ?_
  rintro e w1 ⟨rfl, r1, b1⟩
  rw [hsz] at r1
  have g1 := hp_below h1 b1
  have g2 := hp_below h2 b1
  have z1 := Go.Joins.cell_of_block g1 0
  have F1 := Go.Joins.unfrozen_of_block g1 0
  have z2 := Go.Joins.cell_of_block g2 0
  have F2 := Go.Joins.unfrozen_of_block g2 0
  simp at z1 z2
  have B1 := bb.trans (b1.mono bb.size)
  have R1 := ownsRow_setCell_below (ownsRow_setCell_below r1 (a := ⟨w.heap.size + 1 + 1, 0, none⟩) (by show w.heap.size + 1 + 1 < w.heap.size + 3; omega) (.slice (some ⟨w.heap.size + 3, 0, none⟩) len len)) (a := ⟨w.heap.size + 1, 0, none⟩) (by show w.heap.size + 1 < w.heap.size + 3; omega) (.slice (some ⟨w.heap.size + 3, 0, none⟩) len len)
  have B2 := bl_set (bl_set B1 (g := w.heap.size + 1 + 1) 0 (by omega) (.slice (some ⟨w.heap.size + 3, 0, none⟩) len len)) (g := w.heap.size + 1) 0 (by omega) (.slice (some ⟨w.heap.size + 3, 0, none⟩) len len)
  have R2 := Lib.hid R1
  clear R1 r1 g1 g2 h1 h2 b1 bb B1 HZ
  rw [hsz]
  dsimp only
  go_wp2
  refine bodyPost_ret (v := .agg #[.slice (some ⟨w.heap.size + 3, 0, none⟩) len len]) (by simp [results, Try.results155, go_sem, z1]) rfl ⟨w.heap.size + 3, rfl, RowR.lower R2.out (by omega), B2⟩
end Go.Proofs.Ytfnnfjpbplbjmaa

/-
  The laws' helpers on Sides: szSideS (how many), toSide, toSideS (a copy), eqSide, eqSideS on equals (true). Conditions: at most 1048576 sides for the copy.
-/
import Derived.Test.YtdpibpelghnihaaSaM
import Derived.Deep.QuietTactic
import Derived.BigQuiet
import Derived.Lib.QuietBelow
namespace Go.Proofs.Ytdpibpelghnihaa
open Go.ChangeShapes Go.WideShapes Go.ChangeAt Go.RowKit
set_option linter.unusedVariables false
set_option linter.unusedSimpArgs false
set_option maxRecDepth 8000

theorem szsa_fit (a : Option Addr) (len cap : Nat) (left : Int) (w : World) (h0 : (len : Int) ≤ left) (h1 : left ≤ 1048576) :
    Calls Try.prog 26 #[.slice a len cap, .int .i64 left] w fun e w' => e = .returned (.int .i64 (left - len)) ∧ w' = w := by
  go_enter Try.func26, Try.ntmps26
  go_wp2
  go_ret
  exact ⟨rfl, rfl⟩
theorem szsa_big (a : Option Addr) (len cap : Nat) (left : Int) (w : World) (h : left < len) (h0 : 0 ≤ left) (hl : len ≤ 9223372036854775807) :
    Calls Try.prog 26 #[.slice a len cap, .int .i64 left] w fun e w' => e = .returned (.int .i64 (-1)) ∧ w' = w := by
  go_enter Try.func26, Try.ntmps26
  go_wp2
  go_ret
  exact ⟨rfl, rfl⟩
set_option maxHeartbeats 1000000 in
theorem tosa_any (x : Sa) (w : World) :
    Calls Try.prog 25 #[.agg #[.int .i64 x.size, .int .i64 x.before, .int .i64 x.behind, .bool x.ab, .bool x.ah, .int .i64 x.al, .int .i64 x.base]] w fun e w' => e = .returned (.agg #[.int .i64 x.size, .int .i64 x.before, .int .i64 x.behind, .bool x.ab, .bool x.ah, .int .i64 x.al, .int .i64 x.base]) ∧ Below w.heap.size w w' := by
  go_enter Try.func25, Try.ntmps25
  go_wp2
  refine bodyPost_ret (v := .agg #[.int .i64 x.size, .int .i64 x.before, .int .i64 x.behind, .bool x.ab, .bool x.ah, .int .i64 x.al, .int .i64 x.base]) (by simp [results, Try.results25, go_sem]) rfl ⟨rfl, Go.Joins.below_alloc3 ..⟩
set_option maxHeartbeats 1000000 in
theorem eqsa_raw (z0 z1 z2 z5 z6 : Int) (p q : Bool) (w : World) :
    Calls Try.prog 42 #[.agg #[.int .i64 z0, .int .i64 z1, .int .i64 z2, .bool p, .bool q, .int .i64 z5, .int .i64 z6], .agg #[.int .i64 z0, .int .i64 z1, .int .i64 z2, .bool p, .bool q, .int .i64 z5, .int .i64 z6]] w fun e w' => e = .returned (.bool true) ∧ Below w.heap.size w w' := by
  cases p <;> cases q
  · have h0 := hp_on (hp_new w (.cells #[.int .i64 z0, .int .i64 z1, .int .i64 z2, .bool false, .bool false, .int .i64 z5, .int .i64 z6] 25)) (.cells #[.int .i64 z0, .int .i64 z1, .int .i64 z2, .bool false, .bool false, .int .i64 z5, .int .i64 z6] 25)
    have h1 := hp_new (w.alloc (.cells #[.int .i64 z0, .int .i64 z1, .int .i64 z2, .bool false, .bool false, .int .i64 z5, .int .i64 z6] 25)) (.cells #[.int .i64 z0, .int .i64 z1, .int .i64 z2, .bool false, .bool false, .int .i64 z5, .int .i64 z6] 25)
    have bb := Go.Joins.below_alloc2 w (.cells #[.int .i64 z0, .int .i64 z1, .int .i64 z2, .bool false, .bool false, .int .i64 z5, .int .i64 z6] 25) (.cells #[.int .i64 z0, .int .i64 z1, .int .i64 z2, .bool false, .bool false, .int .i64 z5, .int .i64 z6] 25)
    simp only [World.size_alloc] at h0 h1
    obtain ⟨u, eu⟩ : ∃ u, u = (w.alloc (.cells #[.int .i64 z0, .int .i64 z1, .int .i64 z2, .bool false, .bool false, .int .i64 z5, .int .i64 z6] 25)).alloc (.cells #[.int .i64 z0, .int .i64 z1, .int .i64 z2, .bool false, .bool false, .int .i64 z5, .int .i64 z6] 25) := ⟨_, rfl⟩
    rw [← eu] at h0 h1 bb
    have EU := Lib.hid eu
    clear eu
    have c0 : u.cell? ⟨w.heap.size, 0, none⟩ = some (.int .i64 z0) := Go.Joins.cell_of_block h0 0
    have d0 : u.cell? ⟨w.heap.size + 1, 0, none⟩ = some (.int .i64 z0) := Go.Joins.cell_of_block h1 0
    have c1 : u.cell? ⟨w.heap.size, 1, none⟩ = some (.int .i64 z1) := Go.Joins.cell_of_block h0 1
    have d1 : u.cell? ⟨w.heap.size + 1, 1, none⟩ = some (.int .i64 z1) := Go.Joins.cell_of_block h1 1
    have c2 : u.cell? ⟨w.heap.size, 2, none⟩ = some (.int .i64 z2) := Go.Joins.cell_of_block h0 2
    have d2 : u.cell? ⟨w.heap.size + 1, 2, none⟩ = some (.int .i64 z2) := Go.Joins.cell_of_block h1 2
    have c3 : u.cell? ⟨w.heap.size, 3, none⟩ = some (.bool false) := Go.Joins.cell_of_block h0 3
    have d3 : u.cell? ⟨w.heap.size + 1, 3, none⟩ = some (.bool false) := Go.Joins.cell_of_block h1 3
    have c4 : u.cell? ⟨w.heap.size, 4, none⟩ = some (.bool false) := Go.Joins.cell_of_block h0 4
    have d4 : u.cell? ⟨w.heap.size + 1, 4, none⟩ = some (.bool false) := Go.Joins.cell_of_block h1 4
    have c5 : u.cell? ⟨w.heap.size, 5, none⟩ = some (.int .i64 z5) := Go.Joins.cell_of_block h0 5
    have d5 : u.cell? ⟨w.heap.size + 1, 5, none⟩ = some (.int .i64 z5) := Go.Joins.cell_of_block h1 5
    have c6 : u.cell? ⟨w.heap.size, 6, none⟩ = some (.int .i64 z6) := Go.Joins.cell_of_block h0 6
    have d6 : u.cell? ⟨w.heap.size + 1, 6, none⟩ = some (.int .i64 z6) := Go.Joins.cell_of_block h1 6
    clear h0 h1
    have BB := Lib.hid bb
    clear bb
    go_enter Try.func42, Try.ntmps42
    go_wp2_with (rw [← EU.out])
    go_ret
    exact ⟨rfl, BB.out⟩
  · have h0 := hp_on (hp_new w (.cells #[.int .i64 z0, .int .i64 z1, .int .i64 z2, .bool false, .bool true, .int .i64 z5, .int .i64 z6] 25)) (.cells #[.int .i64 z0, .int .i64 z1, .int .i64 z2, .bool false, .bool true, .int .i64 z5, .int .i64 z6] 25)
    have h1 := hp_new (w.alloc (.cells #[.int .i64 z0, .int .i64 z1, .int .i64 z2, .bool false, .bool true, .int .i64 z5, .int .i64 z6] 25)) (.cells #[.int .i64 z0, .int .i64 z1, .int .i64 z2, .bool false, .bool true, .int .i64 z5, .int .i64 z6] 25)
    have bb := Go.Joins.below_alloc2 w (.cells #[.int .i64 z0, .int .i64 z1, .int .i64 z2, .bool false, .bool true, .int .i64 z5, .int .i64 z6] 25) (.cells #[.int .i64 z0, .int .i64 z1, .int .i64 z2, .bool false, .bool true, .int .i64 z5, .int .i64 z6] 25)
    simp only [World.size_alloc] at h0 h1
    obtain ⟨u, eu⟩ : ∃ u, u = (w.alloc (.cells #[.int .i64 z0, .int .i64 z1, .int .i64 z2, .bool false, .bool true, .int .i64 z5, .int .i64 z6] 25)).alloc (.cells #[.int .i64 z0, .int .i64 z1, .int .i64 z2, .bool false, .bool true, .int .i64 z5, .int .i64 z6] 25) := ⟨_, rfl⟩
    rw [← eu] at h0 h1 bb
    have EU := Lib.hid eu
    clear eu
    have c0 : u.cell? ⟨w.heap.size, 0, none⟩ = some (.int .i64 z0) := Go.Joins.cell_of_block h0 0
    have d0 : u.cell? ⟨w.heap.size + 1, 0, none⟩ = some (.int .i64 z0) := Go.Joins.cell_of_block h1 0
    have c1 : u.cell? ⟨w.heap.size, 1, none⟩ = some (.int .i64 z1) := Go.Joins.cell_of_block h0 1
    have d1 : u.cell? ⟨w.heap.size + 1, 1, none⟩ = some (.int .i64 z1) := Go.Joins.cell_of_block h1 1
    have c2 : u.cell? ⟨w.heap.size, 2, none⟩ = some (.int .i64 z2) := Go.Joins.cell_of_block h0 2
    have d2 : u.cell? ⟨w.heap.size + 1, 2, none⟩ = some (.int .i64 z2) := Go.Joins.cell_of_block h1 2
    have c3 : u.cell? ⟨w.heap.size, 3, none⟩ = some (.bool false) := Go.Joins.cell_of_block h0 3
    have d3 : u.cell? ⟨w.heap.size + 1, 3, none⟩ = some (.bool false) := Go.Joins.cell_of_block h1 3
    have c4 : u.cell? ⟨w.heap.size, 4, none⟩ = some (.bool true) := Go.Joins.cell_of_block h0 4
    have d4 : u.cell? ⟨w.heap.size + 1, 4, none⟩ = some (.bool true) := Go.Joins.cell_of_block h1 4
    have c5 : u.cell? ⟨w.heap.size, 5, none⟩ = some (.int .i64 z5) := Go.Joins.cell_of_block h0 5
    have d5 : u.cell? ⟨w.heap.size + 1, 5, none⟩ = some (.int .i64 z5) := Go.Joins.cell_of_block h1 5
    have c6 : u.cell? ⟨w.heap.size, 6, none⟩ = some (.int .i64 z6) := Go.Joins.cell_of_block h0 6
    have d6 : u.cell? ⟨w.heap.size + 1, 6, none⟩ = some (.int .i64 z6) := Go.Joins.cell_of_block h1 6
    clear h0 h1
    have BB := Lib.hid bb
    clear bb
    go_enter Try.func42, Try.ntmps42
    go_wp2_with (rw [← EU.out])
    go_ret
    exact ⟨rfl, BB.out⟩
  · have h0 := hp_on (hp_new w (.cells #[.int .i64 z0, .int .i64 z1, .int .i64 z2, .bool true, .bool false, .int .i64 z5, .int .i64 z6] 25)) (.cells #[.int .i64 z0, .int .i64 z1, .int .i64 z2, .bool true, .bool false, .int .i64 z5, .int .i64 z6] 25)
    have h1 := hp_new (w.alloc (.cells #[.int .i64 z0, .int .i64 z1, .int .i64 z2, .bool true, .bool false, .int .i64 z5, .int .i64 z6] 25)) (.cells #[.int .i64 z0, .int .i64 z1, .int .i64 z2, .bool true, .bool false, .int .i64 z5, .int .i64 z6] 25)
    have bb := Go.Joins.below_alloc2 w (.cells #[.int .i64 z0, .int .i64 z1, .int .i64 z2, .bool true, .bool false, .int .i64 z5, .int .i64 z6] 25) (.cells #[.int .i64 z0, .int .i64 z1, .int .i64 z2, .bool true, .bool false, .int .i64 z5, .int .i64 z6] 25)
    simp only [World.size_alloc] at h0 h1
    obtain ⟨u, eu⟩ : ∃ u, u = (w.alloc (.cells #[.int .i64 z0, .int .i64 z1, .int .i64 z2, .bool true, .bool false, .int .i64 z5, .int .i64 z6] 25)).alloc (.cells #[.int .i64 z0, .int .i64 z1, .int .i64 z2, .bool true, .bool false, .int .i64 z5, .int .i64 z6] 25) := ⟨_, rfl⟩
    rw [← eu] at h0 h1 bb
    have EU := Lib.hid eu
    clear eu
    have c0 : u.cell? ⟨w.heap.size, 0, none⟩ = some (.int .i64 z0) := Go.Joins.cell_of_block h0 0
    have d0 : u.cell? ⟨w.heap.size + 1, 0, none⟩ = some (.int .i64 z0) := Go.Joins.cell_of_block h1 0
    have c1 : u.cell? ⟨w.heap.size, 1, none⟩ = some (.int .i64 z1) := Go.Joins.cell_of_block h0 1
    have d1 : u.cell? ⟨w.heap.size + 1, 1, none⟩ = some (.int .i64 z1) := Go.Joins.cell_of_block h1 1
    have c2 : u.cell? ⟨w.heap.size, 2, none⟩ = some (.int .i64 z2) := Go.Joins.cell_of_block h0 2
    have d2 : u.cell? ⟨w.heap.size + 1, 2, none⟩ = some (.int .i64 z2) := Go.Joins.cell_of_block h1 2
    have c3 : u.cell? ⟨w.heap.size, 3, none⟩ = some (.bool true) := Go.Joins.cell_of_block h0 3
    have d3 : u.cell? ⟨w.heap.size + 1, 3, none⟩ = some (.bool true) := Go.Joins.cell_of_block h1 3
    have c4 : u.cell? ⟨w.heap.size, 4, none⟩ = some (.bool false) := Go.Joins.cell_of_block h0 4
    have d4 : u.cell? ⟨w.heap.size + 1, 4, none⟩ = some (.bool false) := Go.Joins.cell_of_block h1 4
    have c5 : u.cell? ⟨w.heap.size, 5, none⟩ = some (.int .i64 z5) := Go.Joins.cell_of_block h0 5
    have d5 : u.cell? ⟨w.heap.size + 1, 5, none⟩ = some (.int .i64 z5) := Go.Joins.cell_of_block h1 5
    have c6 : u.cell? ⟨w.heap.size, 6, none⟩ = some (.int .i64 z6) := Go.Joins.cell_of_block h0 6
    have d6 : u.cell? ⟨w.heap.size + 1, 6, none⟩ = some (.int .i64 z6) := Go.Joins.cell_of_block h1 6
    clear h0 h1
    have BB := Lib.hid bb
    clear bb
    go_enter Try.func42, Try.ntmps42
    go_wp2_with (rw [← EU.out])
    go_ret
    exact ⟨rfl, BB.out⟩
  · have h0 := hp_on (hp_new w (.cells #[.int .i64 z0, .int .i64 z1, .int .i64 z2, .bool true, .bool true, .int .i64 z5, .int .i64 z6] 25)) (.cells #[.int .i64 z0, .int .i64 z1, .int .i64 z2, .bool true, .bool true, .int .i64 z5, .int .i64 z6] 25)
    have h1 := hp_new (w.alloc (.cells #[.int .i64 z0, .int .i64 z1, .int .i64 z2, .bool true, .bool true, .int .i64 z5, .int .i64 z6] 25)) (.cells #[.int .i64 z0, .int .i64 z1, .int .i64 z2, .bool true, .bool true, .int .i64 z5, .int .i64 z6] 25)
    have bb := Go.Joins.below_alloc2 w (.cells #[.int .i64 z0, .int .i64 z1, .int .i64 z2, .bool true, .bool true, .int .i64 z5, .int .i64 z6] 25) (.cells #[.int .i64 z0, .int .i64 z1, .int .i64 z2, .bool true, .bool true, .int .i64 z5, .int .i64 z6] 25)
    simp only [World.size_alloc] at h0 h1
    obtain ⟨u, eu⟩ : ∃ u, u = (w.alloc (.cells #[.int .i64 z0, .int .i64 z1, .int .i64 z2, .bool true, .bool true, .int .i64 z5, .int .i64 z6] 25)).alloc (.cells #[.int .i64 z0, .int .i64 z1, .int .i64 z2, .bool true, .bool true, .int .i64 z5, .int .i64 z6] 25) := ⟨_, rfl⟩
    rw [← eu] at h0 h1 bb
    have EU := Lib.hid eu
    clear eu
    have c0 : u.cell? ⟨w.heap.size, 0, none⟩ = some (.int .i64 z0) := Go.Joins.cell_of_block h0 0
    have d0 : u.cell? ⟨w.heap.size + 1, 0, none⟩ = some (.int .i64 z0) := Go.Joins.cell_of_block h1 0
    have c1 : u.cell? ⟨w.heap.size, 1, none⟩ = some (.int .i64 z1) := Go.Joins.cell_of_block h0 1
    have d1 : u.cell? ⟨w.heap.size + 1, 1, none⟩ = some (.int .i64 z1) := Go.Joins.cell_of_block h1 1
    have c2 : u.cell? ⟨w.heap.size, 2, none⟩ = some (.int .i64 z2) := Go.Joins.cell_of_block h0 2
    have d2 : u.cell? ⟨w.heap.size + 1, 2, none⟩ = some (.int .i64 z2) := Go.Joins.cell_of_block h1 2
    have c3 : u.cell? ⟨w.heap.size, 3, none⟩ = some (.bool true) := Go.Joins.cell_of_block h0 3
    have d3 : u.cell? ⟨w.heap.size + 1, 3, none⟩ = some (.bool true) := Go.Joins.cell_of_block h1 3
    have c4 : u.cell? ⟨w.heap.size, 4, none⟩ = some (.bool true) := Go.Joins.cell_of_block h0 4
    have d4 : u.cell? ⟨w.heap.size + 1, 4, none⟩ = some (.bool true) := Go.Joins.cell_of_block h1 4
    have c5 : u.cell? ⟨w.heap.size, 5, none⟩ = some (.int .i64 z5) := Go.Joins.cell_of_block h0 5
    have d5 : u.cell? ⟨w.heap.size + 1, 5, none⟩ = some (.int .i64 z5) := Go.Joins.cell_of_block h1 5
    have c6 : u.cell? ⟨w.heap.size, 6, none⟩ = some (.int .i64 z6) := Go.Joins.cell_of_block h0 6
    have d6 : u.cell? ⟨w.heap.size + 1, 6, none⟩ = some (.int .i64 z6) := Go.Joins.cell_of_block h1 6
    clear h0 h1
    have BB := Lib.hid bb
    clear bb
    go_enter Try.func42, Try.ntmps42
    go_wp2_with (rw [← EU.out])
    go_ret
    exact ⟨rfl, BB.out⟩
theorem eqsa_same (x : Sa) (w : World) :
    Calls Try.prog 42 #[.agg #[.int .i64 x.size, .int .i64 x.before, .int .i64 x.behind, .bool x.ab, .bool x.ah, .int .i64 x.al, .int .i64 x.base], .agg #[.int .i64 x.size, .int .i64 x.before, .int .i64 x.behind, .bool x.ab, .bool x.ah, .int .i64 x.al, .int .i64 x.base]] w fun e w' => e = .returned (.bool true) ∧ Below w.heap.size w w' := eqsa_raw x.size x.before x.behind x.al x.base x.ab x.ah w

def ToSaPost (xs : List Sa) (w : World) (e : Ending) (w' : World) : Prop :=
  e = .returned (.slice (some ⟨w.heap.size, 0, none⟩) xs.length xs.length) ∧ RowS w.heap.size (.slice (some ⟨w.heap.size, 0, none⟩) xs.length xs.length) xs w' ∧ Below w.heap.size w w'
def ToSaRel (xs : List Sa) (w : World) (i : Value) (wr : World) : Prop :=
  ∃ (k : Nat) (ys : List Sa), k ≤ xs.length ∧ i = .int .i64 k ∧ ys.length = xs.length ∧ (∀ j, j < k → ys[j]? = xs[j]?) ∧
    RowS w.heap.size (.slice (some ⟨w.heap.size, 0, none⟩) xs.length xs.length) ys wr ∧ Below w.heap.size w wr
set_option maxHeartbeats 2000000 in
theorem tosas_any (a : Option Addr) (cap : Nat) (xs : List Sa) (w : World) (hz : Sas w a xs) (hl : xs.length ≤ 1048576) :
    Calls Try.prog 27 #[.slice a xs.length cap] w (ToSaPost xs w) := by
  obtain ⟨i0, hi, hz0, hz1, hz2⟩ := info_parts info_side
  go_enter Try.func27, Try.ntmps27
  go_wp2_with (first
    | (at_make; refine wpList_make_full _ rfl _ _ 29 rfl w.heap.size 25 i0 (.agg #[.int .i64 0, .int .i64 0, .int .i64 0, .bool false, .bool false, .int .i64 0, .int .i64 0]) 7 Try.underlying29 hi hz0 hz1 .i64 .i64 _ _ xs.length rfl rfl rfl rfl (by rw [hz2]; omega) (by unfold maxLen; omega) (Nat.le_refl _) ?_; intro w0 hown0 hgrow0))
  have hr0 : RowS w.heap.size (.slice (some ⟨w.heap.size, 0, none⟩) xs.length xs.length) (List.replicate xs.length Sa0) w0 := by
    rw [made_sa] at hown0
    unfold RowS
    rw [List.length_replicate]
    exact hown0
  have hb0 : Below w.heap.size w w0 := (Below.refl _ _).grown hgrow0 (Nat.le_refl _) (fun g hg => by cases hg)
  have HR0 := Lib.hid hr0
  clear hown0 hgrow0 hr0
  go_wp2
  go_loopw [4] (ToSaRel xs w) (fun i _ => xs.length - (intOf i).toNat)
  case atStart => exact ⟨0, List.replicate xs.length Sa0, Nat.zero_le _, rfl, List.length_replicate, fun j hj => absurd hj (Nat.not_lt_zero _), HR0.out, hb0⟩
  case round =>
    obtain ⟨k, ys, hk, rfl, hyl, hd, ho, hb⟩ := hrel
    have HO := Lib.hid ho
    have HD := Lib.hid hd
    have HYL := Lib.hid hyl
    clear ho hd hyl HR0
    by_cases hlt : k < xs.length
    · obtain ⟨b, off, rfl, hbl, hrg⟩ := (hz.below hb).look hlt
      have hlo : (0 : Int) ≤ (k : Int) := Int.natCast_nonneg _
      have hhi : (k : Int) < (xs.length : Int) := by omega
      have HNK := Lib.hid (saD_eq hlt)
      have HZ := Lib.hid hz
      have RG := Lib.hid hrg
      clear hz hrg
      generalize saD xs k = x at *
      go_wp2_with (first
        | ((with_reducible apply list_load_lsa); exact rfl; exact rfl; exact rfl; (with_reducible exact RG.out); simp only [Act.put, List.setIfInBounds_toArray, List.set_cons_succ, List.set_cons_zero])
        | fail)
      refine (tosa_any x wr).mono ?_
      rintro e w1 ⟨rfl, b1⟩
      have hb1 := hb.trans (b1.mono hb.size)
      have ho1 := HO.out.below b1
      have hkm : k < ys.length := by rw [HYL.out]; exact hlt
      have hst := ho1.store HYL.out.symm hkm x
      have T1 := Lib.hid (RowS.there (show RowS w.heap.size (.slice (some ⟨w.heap.size, 0, none⟩) ys.length xs.length) ys w1 by rw [HYL.out]; exact ho1) hkm)
      have B1 := bel_cellsA (g := w.heap.size) (Nat.le_refl _) x.L (k * 7) w1 hb1
      obtain ⟨u2, eu2⟩ : ∃ u2, u2 = w1.setCells w.heap.size (k * 7) x.L := ⟨_, rfl⟩
      rw [← eu2] at hst B1
      have HS := Lib.hid hst
      have HB1 := Lib.hid B1
      have EU2 := Lib.hid eu2
      have HKM := Lib.hid hkm
      clear hst B1 eu2 ho1 b1 hb1 hb hkm
      dsimp only
      go_wp2_with (first
        | ((with_reducible apply list_store_sa (x := x)); exact rfl; exact rfl; exact rfl; exact rfl; (with_reducible exact T1.out); simp only [Act.put, List.setIfInBounds_toArray, List.set_cons_succ, List.set_cons_zero])
        | (rw [← EU2.out])
        | fail)
      go_roundw
      case rel =>
        refine ⟨k + 1, ys.set k x, by omega, by go_num, by rw [List.length_set]; exact HYL.out, fun j hj => ?_, HS.out, HB1.out⟩
        by_cases e : j = k
        · subst e
          rw [List.getElem?_set_self HKM.out, HNK.out]
        · rw [List.getElem?_set_ne (fun h => e h.symm)]; exact HD.out j (by omega)
      case measure => simp [intOf]; omega
    · obtain rfl : k = xs.length := by omega
      have hmap : ys = xs := by
        apply List.ext_getElem?
        intro j
        by_cases hj : j < xs.length
        · exact HD.out j hj
        · rw [List.getElem?_eq_none (by rw [HYL.out]; omega), List.getElem?_eq_none (by omega)]
      subst hmap
      clear hz
      go_wp2
      go_ret
      exact ⟨rfl, HO.out, hb⟩
set_option maxHeartbeats 2000000 in
theorem eqsas_any (a a' : Option Addr) (cap cap' : Nat) (xs : List Sa) (w : World) (hz : Sas w a xs) (hz' : Sas w a' xs) (hl : xs.length ≤ 4611686018427387904) :
    Calls Try.prog 28 #[.slice a xs.length cap, .slice a' xs.length cap'] w fun e w' => e = .returned (.bool true) ∧ Below w.heap.size w w' := by
  go_enter Try.func28, Try.ntmps28
  go_wp2
  go_loopw [5] (fun i wr => ∃ k : Nat, k ≤ xs.length ∧ i = .int .i64 k ∧ Below w.heap.size w wr) (fun i _ => xs.length - (intOf i).toNat)
  case atStart => exact ⟨0, Nat.zero_le _, rfl, Below.refl _ _⟩
  case round =>
    obtain ⟨k, hk, rfl, hb⟩ := hrel
    by_cases hlt : k < xs.length
    · obtain ⟨b, off, rfl, hbl, c⟩ := (hz.below hb).look hlt
      obtain ⟨b', off', rfl, hbl', d⟩ := (hz'.below hb).look hlt
      have hlo : (0 : Int) ≤ (k : Int) := Int.natCast_nonneg _
      have hhi : (k : Int) < (xs.length : Int) := by omega
      clear hz hz'
      generalize saD xs k = x at *
      obtain ⟨c0, c1, c2, c3, c4, c5, c6⟩ := rg_sa c
      obtain ⟨d0, d1, d2, d3, d4, d5, d6⟩ := rg_sa d
      clear c d
      have q0 := fun d os => cell_regrown c0 d os
      have r0 := fun d os => cell_regrown d0 d os
      have q1 := fun d os => cell_regrown c1 d os
      have r1 := fun d os => cell_regrown d1 d os
      have q2 := fun d os => cell_regrown c2 d os
      have r2 := fun d os => cell_regrown d2 d os
      have q3 := fun d os => cell_regrown c3 d os
      have r3 := fun d os => cell_regrown d3 d os
      have q4 := fun d os => cell_regrown c4 d os
      have r4 := fun d os => cell_regrown d4 d os
      have q5 := fun d os => cell_regrown c5 d os
      have r5 := fun d os => cell_regrown d5 d os
      have q6 := fun d os => cell_regrown c6 d os
      have r6 := fun d os => cell_regrown d6 d os
      clear c0 c1 c2 c3 c4 c5 c6 d0 d1 d2 d3 d4 d5 d6
      go_wp2
      refine wp_region_quiet_below (by kernel_rfl) (by kernel_rfl) ?_
      repeat (go_big_quiet_step (first
        | (go_at_call 42; exact Calls.regrown_of (eqsa_same x _))
        | fail))
      refine wpQuiet_nil ?_
      intro _ hw'
      obtain ⟨⟨dq, osq⟩, hw''⟩ := hw'
      subst hw''
      clear q0 q1 q2 q3 q4 q5 q6 r0 r1 r2 r3 r4 r5 r6
      go_wp2
      go_roundw
      case rel => exact ⟨k + 1, by omega, by go_num, hb.trans ((below_regrown wr dq osq).mono hb.size)⟩
      case measure => simp [intOf]; omega
    · clear hz hz'
      go_wp2
      go_ret
      exact ⟨rfl, hb⟩
theorem eqRS_any (b b' : Nat) (v v' : Value) (xs : List Sa) (w : World) (hr : ∀ x ∈ xs, x.inr) (hn : xs.length ≤ 4611686018427387904) (h : RowS b v xs w) (h' : RowS b' v' xs w) :
    Calls Try.prog 28 #[v, v'] w fun e w' => e = .returned (.bool true) ∧ Below w.heap.size w w' := by
  obtain ⟨a, cap, rfl, hz⟩ := h.slice hr
  obtain ⟨a', cap', rfl, hz'⟩ := h'.slice hr
  exact eqsas_any a a' cap cap' xs w hz hz' hn
end Go.Proofs.Ytdpibpelghnihaa

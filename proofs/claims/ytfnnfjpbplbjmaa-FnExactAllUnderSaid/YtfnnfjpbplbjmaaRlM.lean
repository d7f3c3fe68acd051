/-
  What RuleFor, WantedOf and TableOk answer, as plain functions of the table's ints. Conditions: none.
-/
import Derived.Test.YtfnnfjpbplbjmaaRls
namespace Go.Proofs.Ytfnnfjpbplbjmaa
open Go.ChangeShapes Go.WideShapes Go.ChangeAt Go.RowKit

/-- Rule k applies. -/
def hitB (zs : List Int) (room : Int) (k : Nat) : Bool := decide (room = -1) || decide (zs.getD (k * 3) 0 ≤ room)
/-- The first rule that applies. -/
def rfK (zs : List Int) (len : Nat) (room : Int) : Option Nat := (List.range len).find? (hitB zs room)
/-- Field j of that rule; 0 if there is none. -/
def rfX (zs : List Int) (len : Nat) (room : Int) (j : Nat) : Int := match rfK zs len room with
  | some k => zs.getD (k * 3 + j) 0
  | none => 0
def rfB (zs : List Int) (len : Nat) (room : Int) : Bool := (rfK zs len room).isSome
theorem find_range {p : Nat → Bool} : ∀ {n k : Nat}, k < n → p k = true → (∀ j, j < k → p j = false) → (List.range n).find? p = some k := by
  intro n k hk hp hb
  rw [List.find?_range_eq_some]
  exact ⟨hp, by simpa using hk, fun j hj => by simp [hb j hj]⟩
theorem rfK_some {zs : List Int} {len k : Nat} {room : Int} (hk : k < len) (h : hitB zs room k = true) (hb : ∀ j, j < k → hitB zs room j = false) : rfK zs len room = some k := find_range hk h hb
theorem rfK_none {zs : List Int} {len : Nat} {room : Int} (hb : ∀ j, j < len → hitB zs room j = false) : rfK zs len room = none := by
  unfold rfK
  rw [List.find?_eq_none]
  intro j hj
  simp [hb j (List.mem_range.1 hj)]
theorem rfX_some {zs : List Int} {len k : Nat} {room : Int} (h : rfK zs len room = some k) (j : Nat) : rfX zs len room j = zs.getD (k * 3 + j) 0 := by unfold rfX; rw [h]
theorem rfX_none {zs : List Int} {len : Nat} {room : Int} (h : rfK zs len room = none) (j : Nat) : rfX zs len room j = 0 := by unfold rfX; rw [h]
theorem rfB_some {zs : List Int} {len k : Nat} {room : Int} (h : rfK zs len room = some k) : rfB zs len room = true := by unfold rfB; rw [h]; rfl
theorem rfB_none {zs : List Int} {len : Nat} {room : Int} (h : rfK zs len room = none) : rfB zs len room = false := by unfold rfB; rw [h]; rfl
theorem misses {zs : List Int} {room : Int} {k : Nat} (hb : ∀ j, j < k → hitB zs room j = false) (h1 : room ≠ -1) (h2 : room < zs.getD (k * 3) 0) : ∀ j, j < k + 1 → hitB zs room j = false := by
  intro j hj
  by_cases h3 : j < k
  · exact hb j h3
  · obtain rfl : j = k := by omega
    unfold hitB
    rw [decide_eq_false h1, decide_eq_false (by omega : ¬ zs.getD (j * 3) 0 ≤ room)]
    rfl
theorem hit_unknown {zs : List Int} {room : Int} (k : Nat) (h : room = -1) : hitB zs room k = true := by unfold hitB; rw [decide_eq_true h]; rfl
theorem hit_room {zs : List Int} {room : Int} {k : Nat} (h : zs.getD (k * 3) 0 ≤ room) : hitB zs room k = true := by unfold hitB; rw [decide_eq_true h]; simp

/-- What RuleFor answers. -/
def rfV (zs : List Int) (len : Nat) (room : Int) : Value := .tuple #[.agg #[.int .i64 (rfX zs len room 0), .int .i64 (rfX zs len room 1), .int .i64 (rfX zs len room 2)], .bool (rfB zs len room)]
theorem rfV_some {zs : List Int} {len k : Nat} {room : Int} (h : rfK zs len room = some k) : rfV zs len room = .tuple #[.agg #[.int .i64 (zs.getD (k * 3) 0), .int .i64 (zs.getD (k * 3 + 1) 0), .int .i64 (zs.getD (k * 3 + 2) 0)], .bool true] := by
  unfold rfV; rw [rfX_some h, rfX_some h, rfX_some h, rfB_some h, Nat.add_zero]
theorem rfV_none {zs : List Int} {len : Nat} {room : Int} (h : rfK zs len room = none) : rfV zs len room = .tuple #[.agg #[.int .i64 0, .int .i64 0, .int .i64 0], .bool false] := by
  unfold rfV; rw [rfX_none h, rfX_none h, rfX_none h, rfB_none h]
/-- Two answers, the first a rule in cells of its own. -/
theorem results_rule {fn : Func} {p q : Tmp} {b : Value} {g : Nat} {w : World} {x y z : Int} (h : fn.results = #[.cell p 137, .tmp q]) {tmps : Array Value} (hp : tmps.getD p undef = .pointer (some ⟨g, 0, none⟩)) (hq : tmps.getD q undef = b)
    (h0 : w.cell? ⟨g, 0, none⟩ = some (.int .i64 x)) (h1 : w.cell? ⟨g, 1, none⟩ = some (.int .i64 y)) (h2 : w.cell? ⟨g, 2, none⟩ = some (.int .i64 z)) : (results fn tmps).run Try.prog w = .ok (.tuple #[.agg #[.int .i64 x, .int .i64 y, .int .i64 z], b]) w := by
  have hl := run_loadVar_mid (P := Try.prog) w g 0 137 [.int .i64 x, .int .i64 y, .int .i64 z] (.struct (Try.prog.fieldsOf 137)) (fun j v hv => by
    match j, hv with
    | 0, hv => simp at hv; subst hv; exact h0
    | 1, hv => simp at hv; subst hv; exact h1
    | 2, hv => simp at hv; subst hv; exact h2) (by kernel_rfl) rfl (by kernel_rfl)
  have hp' : tmps[p]?.getD undef = .pointer (some ⟨g, 0, none⟩) := by simpa using hp
  have hq' : tmps[q]?.getD undef = b := by simpa using hq
  simp [results, h, hp', hq', asAddr, hl]

/-- Rule k is valid. -/
def rokB (zs : List Int) (k : Nat) : Bool := decide (-1 ≤ zs.getD (k * 3) 0 ∧ zs.getD (k * 3) 0 ≤ 1048576) && decide (0 ≤ zs.getD (k * 3 + 1) 0 ∧ zs.getD (k * 3 + 1) 0 ≤ 1048576) && decide (0 ≤ zs.getD (k * 3 + 2) 0 ∧ zs.getD (k * 3 + 2) 0 ≤ 1048576)
def tokB (zs : List Int) (len : Nat) : Bool := decide (1 ≤ len ∧ len ≤ 6) && (List.range len).all (rokB zs)
theorem tok_len {zs : List Int} {len : Nat} (h : ¬ (1 ≤ len ∧ len ≤ 6)) : tokB zs len = false := by unfold tokB; rw [decide_eq_false h]; rfl
theorem tok_bad {zs : List Int} {len k : Nat} (hk : k < len) (h : rokB zs k = false) : tokB zs len = false := by
  unfold tokB
  rw [show (List.range len).all (rokB zs) = false by rw [List.all_eq_false]; exact ⟨k, List.mem_range.2 hk, by simp [h]⟩]
  simp
theorem tok_all {zs : List Int} {len : Nat} (h : ∀ j, j < len → rokB zs j = true) : tokB zs len = decide (1 ≤ len ∧ len ≤ 6) := by
  unfold tokB
  rw [show (List.range len).all (rokB zs) = true by rw [List.all_eq_true]; intro j hj; exact h j (List.mem_range.1 hj)]
  simp
theorem rok_succ {zs : List Int} {k : Nat} (h : ∀ j, j < k → rokB zs j = true) (h1 : rokB zs k = true) : ∀ j, j < k + 1 → rokB zs j = true := by
  intro j hj
  by_cases h3 : j < k
  · exact h j h3
  · obtain rfl : j = k := by omega
    exact h1
end Go.Proofs.Ytfnnfjpbplbjmaa

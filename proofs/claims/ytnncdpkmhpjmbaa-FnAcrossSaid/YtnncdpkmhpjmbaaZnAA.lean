import Derived.Test.YtnncdpkmhpjmbaaRows
import Derived.WalkKit
import Derived.ProofKit
import Derived.OpenShut
import Derived.Lib.Hide
import Derived.Deep.Draws
section
namespace Go.Proofs.Ytnncdpkmhpjmbaa
open Go.ChangeShapes Go.WideShapes Go.ChangeAt Go.RowKit

theorem own : ownKnob Try.prog.godebug = none := by kernel_rfl
theorem ret_int {k : IntKind} {a b : Int} (h : a = b) : Ending.returned (.int k a) = .returned (.int k b) := by rw [h]
theorem law_post {H : Type} {enc : TypeId × Value → H} {P : Program} {f : Func} {s : ChangeSpec} {apart handsOn : Bool} {W W' : World} {args : Array Value} {v : Value} {ds gs : List (DataW H)} {before pa pv : List MemPlace}
    (hW : DataW.Whole enc P f.params.toList s.vars apart W args.toList ds gs before)
    (hr : DataW.TrodAll enc P W' W.heap.size (fun _ => false) handsOn f.resultTypes.toList (v.resultList f.resultTypes.size) (s.fn H (ds ++ gs)).results [])
    (ha : DataW.TrodAll enc P W' 0 (fun b => decide (b < W.heap.size)) true f.params.toList args.toList (s.fn H (ds ++ gs)).args pa)
    (hv : DataW.TrodVars enc P W' (fun b => decide (b < W.heap.size)) s.vars (s.fn H (ds ++ gs)).vars pv)
    (hp : before = pa ++ pv) (hb : Below W.heap.size W W') : s.post enc P f apart true handsOn false W args v W' :=
  ⟨ds, gs, before, [], pa, pv, hW, hr, ha, hv, World.keptBut_mono (fun _ hm => ⟨hm, Or.inr (List.mem_append.1 (hp ▸ hm))⟩) (hb.frame (· ∈ before)), fun h => by cases h⟩
theorem below_drawn (w : World) (m : Nat) : Below w.heap.size w (w.drewN m) := ⟨rfl, rfl, rfl, Nat.le_refl _, fun _ _ => rfl⟩
end Go.Proofs.Ytnncdpkmhpjmbaa
end
section
namespace Go.Proofs.Ytnncdpkmhpjmbaa
open Go.ChangeShapes Go.WideShapes Go.ChangeAt Go.RowKit

def Ints (w : World) (a : Option Addr) (len : Nat) (zs : List Int) : Prop :=
  zs.length = len ∧ (∀ z ∈ zs, -9223372036854775808 ≤ z ∧ z ≤ 9223372036854775807) ∧
  (len = 0 ∨ ∃ b off, a = some ⟨b, off, none⟩ ∧ b < w.heap.size ∧ ∀ i, i < len → w.cell? ⟨b, off + i, none⟩ = some (.int .i64 (zs.getD i 0)))
end Go.Proofs.Ytnncdpkmhpjmbaa
end
section
namespace Go.Proofs.Ytnncdpkmhpjmbaa
open Go.ChangeShapes Go.WideShapes Go.ChangeAt Go.RowKit

def rnB (x a b : Int) : Bool := decide (a ≤ x ∧ x ≤ b)
theorem irng (x a b : Int) (w : World) :
    Calls Try.prog 68 #[.int .i64 x, .int .i64 a, .int .i64 b] w fun e w' => e = .returned (.bool (rnB x a b)) ∧ w' = w := by
  unfold rnB
  by_cases h1 : a ≤ x <;> by_cases h2 : x ≤ b <;>
    (go_enter Try.func68, Try.ntmps68
     go_wp2
     go_ret
     exact ⟨congrArg (fun q => Ending.returned (.bool q)) (by simp [h1, h2]), rfl⟩)
theorem srng (x a b : Int) (w : World) :
    Calls Try.prog 51 #[.int .i64 x, .int .i64 a, .int .i64 b] w fun e w' => e = .returned (.bool (rnB x a b)) ∧ w' = w := by
  unfold rnB
  by_cases h1 : a ≤ x <;> by_cases h2 : x ≤ b <;>
    (go_enter Try.func51, Try.ntmps51
     go_wp2
     go_ret
     exact ⟨congrArg (fun q => Ending.returned (.bool q)) (by simp [h1, h2]), rfl⟩)
end Go.Proofs.Ytnncdpkmhpjmbaa
end

/-
  The contracts of WantedOf (program and model): the clamped fields of the first rule that applies. Conditions: none but the length's bound.
-/
import Derived.Test.YtjkecmokmdnjlaaRfI
import Derived.Test.YtjkecmokmdnjlaaClamp
import Derived.Deep.QuietTactic
import Derived.BigQuiet
import Derived.Deep.RegionWith
namespace Go.Proofs.Ytjkecmokmdnjlaa
open Go.ChangeShapes Go.WideShapes Go.ChangeAt Go.RowKit
set_option linter.unusedVariables false

/-- What WantedOf answers. -/
def waV (zs : List Int) (len : Nat) (room : Int) : Value := .tuple #[.int .i64 (clI (rfX zs len room 1)), .int .i64 (clI (rfX zs len room 2))]
theorem swanted (a : Option Addr) (len cap : Nat) (zs : List Int) (room : Int) (w : World) (hz : Rls w a len zs) (hl : len ≤ 4611686018427387904) :
    Calls Try.prog 12 #[.agg #[.slice a len cap], .int .i64 room] w fun e w' => e = .returned (waV zs len room) ∧ Below w.heap.size w w' := by
  have bb := Go.Joins.below_alloc1 w (.cells #[.slice a len cap] 26)
  have HZ := Lib.hid (hz.below bb)
  clear hz
  go_enter Try.func12, Try.ntmps12
  go_wp2_with (fail)
  refine (srulefor a len cap zs room _ HZ.out hl).mono ?_
  rintro e w1 ⟨rfl, b1⟩
  have B1 := bb.trans (b1.mono bb.size)
  have er : rfV zs len room = .tuple #[.agg #[.int .i64 (rfX zs len room 0), .int .i64 (rfX zs len room 1), .int .i64 (rfX zs len room 2)], .bool (rfB zs len room)] := rfl
  have ew : waV zs len room = .tuple #[.int .i64 (clI (rfX zs len room 1)), .int .i64 (clI (rfX zs len room 2))] := rfl
  rw [er]
  generalize rfX zs len room 0 = x at *
  generalize rfX zs len room 1 = y at *
  generalize rfX zs len room 2 = z at *
  generalize rfB zs len room = t at *
  have EW := Lib.hid ew
  obtain ⟨v, ev⟩ : ∃ v, v = w1.alloc (.cells #[.int .i64 x, .int .i64 y, .int .i64 z] 32) := ⟨_, rfl⟩
  have hown : v.heap[w1.heap.size]? = some (.cells #[.int .i64 x, .int .i64 y, .int .i64 z] 32) := ev ▸ hp_new w1 _
  have B2 := Lib.hid (ev ▸ B1.alloc B1.size _ : Below w.heap.size w v)
  have N1 := Go.Joins.cell_of_block hown 1
  have N2 := Go.Joins.cell_of_block hown 2
  simp at N1 N2
  have EV := Lib.hid ev
  clear er ew ev hown B1 b1 bb HZ
  dsimp only
  go_wp2_with (rw [← EV.out])
  go_quiet (first
    | (go_at_call_of 34 y; exact Calls.quiet_of_same (sclamped y _))
    | (go_at_call 34; exact Calls.quiet_of_same (sclamped _ _))
    | fail)
  go_wp2
  go_ret2
  exact ⟨congrArg Ending.returned EW.out.symm, B2.out.trans ((below_drawn v nq).mono B2.out.size)⟩
theorem iwanted (a : Option Addr) (len cap : Nat) (zs : List Int) (room : Int) (w : World) (hz : Rls w a len zs) (hl : len ≤ 4611686018427387904) :
    Calls Try.prog 11 #[.agg #[.slice a len cap], .int .i64 room] w fun e w' => e = .returned (waV zs len room) ∧ Below w.heap.size w w' := by
  have bb := Go.Joins.below_alloc1 w (.cells #[.slice a len cap] 26)
  have HZ := Lib.hid (hz.below bb)
  clear hz
  go_enter Try.func11, Try.ntmps11
  go_wp2_with (fail)
  refine (irulefor a len cap zs room _ HZ.out hl).mono ?_
  rintro e w1 ⟨rfl, b1⟩
  have B1 := bb.trans (b1.mono bb.size)
  have er : rfV zs len room = .tuple #[.agg #[.int .i64 (rfX zs len room 0), .int .i64 (rfX zs len room 1), .int .i64 (rfX zs len room 2)], .bool (rfB zs len room)] := rfl
  have ew : waV zs len room = .tuple #[.int .i64 (clI (rfX zs len room 1)), .int .i64 (clI (rfX zs len room 2))] := rfl
  rw [er]
  generalize rfX zs len room 0 = x at *
  generalize rfX zs len room 1 = y at *
  generalize rfX zs len room 2 = z at *
  generalize rfB zs len room = t at *
  have EW := Lib.hid ew
  obtain ⟨v, ev⟩ : ∃ v, v = w1.alloc (.cells #[.int .i64 x, .int .i64 y, .int .i64 z] 32) := ⟨_, rfl⟩
  have hown : v.heap[w1.heap.size]? = some (.cells #[.int .i64 x, .int .i64 y, .int .i64 z] 32) := ev ▸ hp_new w1 _
  have B2 := Lib.hid (ev ▸ B1.alloc B1.size _ : Below w.heap.size w v)
  have N1 := Go.Joins.cell_of_block hown 1
  have N2 := Go.Joins.cell_of_block hown 2
  simp at N1 N2
  have EV := Lib.hid ev
  clear er ew ev hown B1 b1 bb HZ
  dsimp only
  go_wp2_with (rw [← EV.out])
  go_quiet (first
    | (go_at_call_of 33 y; exact Calls.quiet_of_same (iclamped y _))
    | (go_at_call 33; exact Calls.quiet_of_same (iclamped _ _))
    | fail)
  go_wp2
  go_ret2
  exact ⟨congrArg Ending.returned EW.out.symm, B2.out.trans ((below_drawn v nq).mono B2.out.size)⟩
end Go.Proofs.Ytjkecmokmdnjlaa

/-
  The contract of impl.hasNode. Conditions: no list of more than 1048576.
-/
import Derived.Test.YtfnnfjpbplbjmaaLnA
namespace Go.Proofs.Ytfnnfjpbplbjmaa
open Go.ChangeShapes Go.WideShapes Go.ChangeAt Go.RowKit
set_option linter.unusedVariables false
set_option linter.unusedSimpArgs false
set_option maxRecDepth 8000

set_option maxHeartbeats 1000000 in
theorem ihasnode (a : Option Addr) (cap : Nat) (ns : List PN) (z : Int) (w : World) (hz : Nds w a ns) (hl : szS ns ≤ 1048576) :
    Calls Try.prog 61 #[.agg #[.slice a ns.length cap], .int .i64 z] w fun e w' => e = .returned (.bool (nIn ns.length z && treeB ns)) ∧ Below w.heap.size w w' := by
  have h0 := hp_new w (.cells #[.slice a ns.length cap] 26)
  have bb := Go.Joins.below_alloc1 w (.cells #[.slice a ns.length cap] 26)
  obtain ⟨u, eu⟩ : ∃ u, u = w.alloc (.cells #[.slice a ns.length cap] 26) := ⟨_, rfl⟩
  rw [← eu] at h0 bb
  have EU := Lib.hid eu
  clear eu
  have HZ := Lib.hid (hz.below bb)
  have c0 := Go.Joins.cell_of_block h0 0
  simp at c0
  have BB := Lib.hid bb
  clear hz h0 bb
  have kr := irng z 1 ns.length u
  have hr : rnB z 1 ns.length = nIn ns.length z := rfl
  rw [hr] at kr
  clear hr
  have KT := Lib.hid (itreeok a cap ns u HZ.out hl)
  obtain ⟨t, et⟩ : ∃ t, t = treeB ns := ⟨_, rfl⟩
  rw [← et] at KT ⊢
  generalize nIn ns.length z = r at *
  have KR := Lib.hid kr
  clear kr et
  cases r
  all_goals
    go_enter Try.func61, Try.ntmps61
    go_wp2_with (first
      | (rw [← EU.out])
      | (go_at_call 76; refine KR.out.mono ?_; rintro e w1 ⟨rfl, rfl⟩)
      | (go_at_call 17; refine KT.out.mono ?_; rintro e w2 ⟨rfl, b2⟩))
  · go_ret
    exact ⟨rfl, BB.out⟩
  · go_ret
    exact ⟨rfl, BB.out.trans (b2.mono BB.out.size)⟩
end Go.Proofs.Ytfnnfjpbplbjmaa

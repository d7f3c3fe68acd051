import Derived.Test.YtckpjldenkjddaaZcAG
import Derived.Test.YtckpjldenkjddaaZcBF
import Derived.Test.YtckpjldenkjddaaZcBK
import Derived.Test.YtckpjldenkjddaaZcBU
section
namespace Go.Proofs.Ytckpjldenkjddaa
open Go.ChangeShapes Go.WideShapes Go.ChangeAt Go.RowKit
set_option linter.unusedVariables false
set_option linter.unusedSimpArgs false
set_option maxRecDepth 8000

set_option maxHeartbeats 1000000 in
theorem l10at_any (va : Option Addr) (vc n cb : Nat) (a : Option Addr) (len cap : Nat) (w : World) (hn : 1 ≤ n) (hn2 : n ≤ 1000) (hcb : cb < w.heap.size) (hlt : 0 < len → ∀ b off, a = some ⟨b, off, none⟩ → b < w.heap.size) (hc : Cur cb a len cap w) :
    Calls Try.prog 57 #[.pointer (some ⟨cb, 0, none⟩), .agg #[.slice va n vc]] w (DrewPost (-1) 1000 cb a len cap w) := by
  have g0 := gr_new w (.cells #[.slice va n vc] 26) cb
  have c0 := hc.kept hcb (World.grownBy_alloc w (.cells #[.slice va n vc] 26) none) (fun k hk => by cases hk)
  have h0 := hp_new w (.cells #[.slice va n vc] 26)
  obtain ⟨u, eu⟩ : ∃ u, u = w.alloc (.cells #[.slice va n vc] 26) := ⟨_, rfl⟩
  rw [← eu] at g0 c0 h0
  have EU := Lib.hid eu
  have zt : u.cell? ⟨w.heap.size, 0, none⟩ = some (.slice va n vc) := (Go.Joins.cell_of_block h0 0).trans rfl
  have hcu : cb < u.heap.size := Nat.lt_of_lt_of_le hcb g0.size
  clear eu h0
  go_enter Try.func57, Try.ntmps57
  go_wp2_with (first | (rw [← EU.out]) | fail)
  refine (below_pos (n : Int) cb a len cap u (by omega) (by omega) c0).mono ?_
  rintro e w1 ⟨x, rfl, x0, x1, c1, g1, s1⟩
  clear s1
  have hx : IntKind.i64.wrap (x + 1) = x + 1 := IntWalk.i64_in _ (by omega)
  have hcb1 : cb < w1.heap.size := Nat.lt_of_lt_of_le hcu g1.size
  have G1 := Lib.hid (gr_trans g0 g1)
  clear zt EU g0 g1 c0
  (try dsimp only)
  go_wp2_with (fail)
  refine (pick_r (-1) 1000 (by decide) (by decide) [1, 1, 2, 3, x + 1, 0, -1, 13] 8 rfl (by omega) (by omega) (by intro z hz; simp at hz; omega) cb a len cap w1 hcb1 c1).mono ?_
  rintro e w2 ⟨y, rfl, y0, y1, c2, g2⟩
  (try dsimp only)
  go_wp2
  go_ret
  exact ⟨y, rfl, y0, y1, c2, gr_trans G1.out g2⟩
end Go.Proofs.Ytckpjldenkjddaa
end
section
namespace Go.Proofs.Ytckpjldenkjddaa
open Go.ChangeShapes Go.WideShapes Go.ChangeAt Go.RowKit
set_option linter.unusedVariables false
set_option linter.unusedSimpArgs false
set_option maxRecDepth 8000

theorem tr_under : Try.prog.underlying 26 = some (.struct (Try.prog.fieldsOf 26)) := by kernel_rfl
theorem tr_size (v : Value) : (Try.prog.info? 26).map (·.size) = some (#[v] : Array Value).size := by kernel_rfl
theorem below_curT {b cb : Nat} {w wv w' : World} (h : Below b w wv) (hb : b ≤ wv.heap.size) (hg : wv.grownBy w' (some cb)) (hcb : b ≤ cb) : Below b w w' := h.grown hg hb (fun k hk => by simp at hk; omega)

end Go.Proofs.Ytckpjldenkjddaa
end

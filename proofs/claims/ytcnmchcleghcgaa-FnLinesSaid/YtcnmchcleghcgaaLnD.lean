/-
  The drawing of a case of line breaking (spec.l14Case, DrawLinesOf, DrawLineSizes): items in range in a row of their own, a gap, a room. Conditions: the code is whole.
-/
import Derived.Test.YtcnmchcleghcgaaItF
namespace Go.Proofs.Ytcnmchcleghcgaa
open Go.ChangeShapes Go.WideShapes Go.ChangeAt Go.RowKit
set_option linter.unusedVariables false
set_option linter.unusedSimpArgs false
set_option maxRecDepth 20000

theorem results_four {fn : Func} {t u v x : Tmp} (h : fn.results = #[.tmp t, .tmp u, .tmp v, .tmp x]) (tmps : Array Value) (P : Program) (w : World) :
    (results fn tmps).run P w = .ok (.tuple #[tmps.getD t undef, tmps.getD u undef, tmps.getD v undef, tmps.getD x undef]) w := by
  simp [results, h]
theorem results_five {fn : Func} {t u v x y : Tmp} (h : fn.results = #[.tmp t, .tmp u, .tmp v, .tmp x, .tmp y]) (tmps : Array Value) (P : Program) (w : World) :
    (results fn tmps).run P w = .ok (.tuple #[tmps.getD t undef, tmps.getD u undef, tmps.getD v undef, tmps.getD x undef, tmps.getD y undef]) w := by
  simp [results, h]
theorem row_cap {lo : Nat} {v : Value} {xs : List It} {w : World} (h : RowT lo v xs w) : ∀ a n c, v = .slice a n c → xs.length ≤ c := by
  intro a n c e
  rcases h.2 with ⟨h1, h2⟩ | ⟨g, cap, cur, h1, _, _, h3, _⟩
  · have h2' : xs.length = 0 := h2
    omega
  · rw [h1] at e
    injection e with _ e2 e3
    omega
def LcPost (cb : Nat) (a : Option Addr) (len cap : Nat) (w : World) (e : Ending) (w' : World) : Prop :=
  ∃ (v : Value) (xs : List It) (gap room : Int) (wraps : Bool), e = .returned (.tuple #[v, .int .i64 gap, .int .i64 room, .bool wraps]) ∧ xs.length ≤ 13 ∧ (∀ x ∈ xs, x.Dr) ∧ RowT w.heap.size v xs w' ∧ (0 ≤ gap ∧ gap ≤ 64) ∧ (-1 ≤ room ∧ room ≤ 2000) ∧ Cur cb a len cap w' ∧ w.grownBy w' (some cb)
set_option maxHeartbeats 4000000 in
theorem lncase (cb : Nat) (a : Option Addr) (len cap : Nat) (w : World) (hcb : cb < w.heap.size) (hap : 0 < len → ∀ b off, a = some ⟨b, off, none⟩ → b < w.heap.size) (hc : Cur cb a len cap w) :
    Calls Try.prog 69 #[.pointer (some ⟨cb, 0, none⟩)] w (LcPost cb a len cap w) := by
  go_enter Try.func69, Try.ntmps69
  go_wp2_with (fail)
  refine (drawany cb a len cap w hcb hap hc).mono ?_
  rintro e w2 ⟨v, xs, rfl, hxl, hx, hr, c2, g2⟩
  have HX := Lib.hid hx
  have hcb2 : cb < w2.heap.size := Nat.lt_of_lt_of_le hcb g2.size
  have HR := Lib.hid hr
  clear hc hx hr
  (try dsimp only)
  go_wp2_with (fail)
  refine (pick_r 0 64 (by omega) (by omega) [0, 0, 10, 64] 4 rfl (by omega) (by omega) (by intro z hz; simp at hz; omega) cb a len cap w2 hcb2 c2).mono ?_
  rintro e w3 ⟨gap, rfl, p0, q0, c3, g3⟩
  have G3 := gr_trans g2 g3
  have HR3 := Lib.hid (HR.out.cur g3 hcb)
  have hcb3 : cb < w3.heap.size := Nat.lt_of_lt_of_le hcb2 g3.size
  clear HR c2 g3 g2
  (try dsimp only)
  go_wp2_with (fail)
  refine (pick_r (-1) 2000 (by omega) (by omega) [640, 1000, 2000, 0, -1] 5 rfl (by omega) (by omega) (by intro z hz; simp at hz; omega) cb a len cap w3 hcb3 c3).mono ?_
  rintro e w4 ⟨room, rfl, p1, q1, c4, g4⟩
  have G4 := gr_trans G3 g4
  have HR4 := Lib.hid (HR3.out.cur g4 hcb)
  clear HR3 c3 g4 G3
  (try dsimp only)
  go_wp2_with (fail)
  refine (below_pos 3 cb a len cap w4 (by omega) (by omega) c4).mono ?_
  rintro e w5 ⟨x, rfl, x0, x1, c5, g5, s5⟩
  clear s5
  have G5 := Lib.hid (gr_trans G4 g5)
  have HR5 := Lib.hid (HR4.out.cur g5 hcb)
  clear HR4 c4 g5 G4
  (try dsimp only)
  go_wp2_with (fail)
  (try simp only [Exit.inBlock, Exit.then])
  refine bodyPost_ret (results_four rfl _ _ _) rfl ?_
  exact ⟨_, xs, gap, room, _, rfl, hxl, HX.out, HR5.out, ⟨p0, q0⟩, ⟨p1, q1⟩, c5, G5.out⟩
def LdPost (w : World) (e : Ending) (w' : World) : Prop :=
  ∃ (v : Value) (xs : List It) (gap room : Int) (wraps : Bool), e = .returned (.tuple #[v, .int .i64 gap, .int .i64 room, .bool wraps]) ∧ xs.length ≤ 13 ∧ (∀ x ∈ xs, x.Dr) ∧ RowT w.heap.size v xs w' ∧ (0 ≤ gap ∧ gap ≤ 64) ∧ (-1 ≤ room ∧ room ≤ 2000) ∧ Below w.heap.size w w'
def LzPost (w : World) (e : Ending) (w' : World) : Prop :=
  ∃ (v : Value) (xs : List It) (gap room : Int) (wraps : Bool) (inner : Int), e = .returned (.tuple #[v, .int .i64 gap, .int .i64 room, .bool wraps, .int .i64 inner]) ∧ xs.length ≤ 13 ∧ (∀ x ∈ xs, x.Dr) ∧ RowT w.heap.size v xs w' ∧ (0 ≤ gap ∧ gap ≤ 64) ∧ (-1 ≤ room ∧ room ≤ 2000) ∧ (-1 ≤ inner ∧ inner ≤ 3333) ∧ Below w.heap.size w w'
set_option maxHeartbeats 4000000 in
theorem draw_linesof (a : Option Addr) (len cap : Nat) (w : World) (hl : len ≤ 1048576) (hc : Code w a len) :
    Calls Try.prog 37 #[.slice a len cap] w (LdPost w) := by
  go_enter Try.func37, Try.ntmps37
  go_wp2_with (fail)
  refine (new_cur a len cap w hl hc).mono ?_
  rintro e w1 ⟨rfl, c1, b1, l1⟩
  have hap : 0 < len → ∀ b off, a = some ⟨b, off, none⟩ → b < w1.heap.size := fun h0 b off e => Nat.lt_trans (code_lt hc h0 b off e) l1
  clear hc
  obtain ⟨cb, ecb⟩ : ∃ q, q = w.heap.size := ⟨_, rfl⟩
  have hlo : w.heap.size ≤ cb := by omega
  rw [← ecb] at c1 ⊢
  have hcb1 : cb < w1.heap.size := by omega
  clear ecb
  (try dsimp only)
  go_wp2_with (fail)
  refine (lncase cb a len cap w1 hcb1 hap c1).mono ?_
  rintro e w2 ⟨v, xs, gap, room, wraps, rfl, hxl, hx, hr, hg, hro, c2, g2⟩
  have B2 := Lib.hid (b1.grown g2 b1.size (fun g hg => by simp at hg; omega))
  have HX := Lib.hid hx
  have HR := Lib.hid (hr.lower (by omega : w.heap.size ≤ w1.heap.size))
  clear c1 b1 hx hr g2 hap c2
  (try dsimp only)
  go_wp2_with (fail)
  (try simp only [Exit.inBlock, Exit.then])
  refine bodyPost_ret (results_four rfl _ _ _) rfl ?_
  exact ⟨_, xs, gap, room, wraps, rfl, hxl, HX.out, HR.out, hg, hro, B2.out⟩
end Go.Proofs.Ytcnmchcleghcgaa

/-
  The laws' helpers markTree and heldTree on a tree of the call's own. Conditions: no list of more than 2097152.
-/
import Derived.Test.YtfnnfjpbplbjmaaMkH
import Derived.Test.YtfnnfjpbplbjmaaCpA
namespace Go.Proofs.Ytfnnfjpbplbjmaa
open Go.ChangeShapes Go.WideShapes Go.ChangeAt Go.RowKit
set_option linter.unusedVariables false
set_option linter.unusedSimpArgs false
set_option maxRecDepth 8000

set_option maxHeartbeats 4000000 in
theorem markns_nil (K : Int) (w : World) :
    Calls Try.prog 100 #[.slice none 0 0, .int .i64 K] w fun e w' => e = .returned (.int .i64 K) ∧ w' = w := by
  go_enter Try.func100, Try.ntmps100
  go_wp2_with (fail)
  refine wp_loop (fun a wr => Fr 598 (.slice none 0 0) (.int .i64 K) (.int .i64 ((0 : Nat) : Int)) a ∧ w = wr) (fun _ _ => 0) ?h0 ?round
  case h0 => exact ⟨⟨rfl, rfl, rfl, rfl, rfl⟩, rfl⟩
  case round =>
    intro a0 wr hI
    obtain ⟨F, hw⟩ := hI
    subst hw
    repeat refine wp_seq ?_
    refine rg_cond (s := 6) (N := 598) (n := 0) F (by decide) (by decide) ?_
    intro a F hcond
    refine then_n ?_
    refine wp_cond (t := false) (by rw [hcond]; rfl) ?_
    refine wp_exit ?_
    refine then_x ?_
    repeat (first | refine then_x ?_ | refine inb_x ?_ | refine then_n ?_ | refine inb_n ?_)
    rename_i Q' KQ hKQ Fx
    refine hKQ _ _ ?_
    refine wp_seq ?_
    refine rg_ret (N := 598) F (by decide) (by decide) ?_
    intro a' hd he
    refine then_n ?_
    refine wp_ret ?_
    refine ⟨hd, _, (results_tmp rfl _ _ _).trans ?_, rfl, rfl⟩
    rw [← he]
    rfl
theorem MkFr.after {lo hi : Nat} {w u u' : World} (b : Below w.heap.size w u) (h : MkFr lo hi u u') : MkFr lo hi w u' :=
  ⟨h.os.trans b.os, h.tape.trans b.tape, h.output.trans b.output, Nat.le_trans b.size h.size, fun k hk h1 => (h.block k (Nat.lt_of_lt_of_le hk b.size) h1).trans (b.block k hk)⟩
theorem mk_form {lo : Nat} {v : Value} {ms : List ND} {w : World} (h : OwnN lo v ms w) : (v = .slice none 0 0 ∧ ms = []) ∨ ∃ g cap, v = .slice (some ⟨g, 0, none⟩) ms.length cap ∧ lo ≤ g := by
  rcases h.1.2 with ⟨h1, h2⟩ | ⟨g, cap, cur, h1, h2, _⟩
  · exact Or.inl ⟨h1, List.length_eq_zero_iff.1 h2⟩
  · exact Or.inr ⟨g, cap, h1, h2⟩
theorem markv_any (lo hi K : Nat) (v : Value) (ms0 : List ND) (w : World) (h : OwnN lo v ms0 w) (hv : ∀ b, v.ownBlock = some b → b < hi) (hb : ∀ m ∈ ms0, ∀ s b, m.comp s = some b → b < hi) (hsz : szS (ms0.map ND.n) ≤ 2097152) (hK : K ≤ 1) :
    Calls Try.prog 100 #[v, .int .i64 K] w fun e w' => e = .returned (.int .i64 (nxL K ms0 : Nat)) ∧ OwnN lo v (mkL K ms0) w' ∧ MkFr lo hi w w' := by
  rcases mk_form h with ⟨rfl, rfl⟩ | ⟨g, cap, rfl, hg⟩
  · refine (markns_nil K w).mono ?_
    rintro e w' ⟨he, rfl⟩
    exact ⟨he, h, MkFr.refl _ _ _⟩
  · exact markns_any lo g cap hi K ms0 w h ⟨hg, hv g rfl⟩ (fun m hm s b e => ⟨((h.2.1 m hm).1.lt s b e).1, hb m hm s b e⟩) hsz hK
theorem marktr_any (lo hi K : Nat) (v : Value) (ms0 : List ND) (w : World) (h : OwnN lo v ms0 w) (hv : ∀ b, v.ownBlock = some b → b < hi) (hb : ∀ m ∈ ms0, ∀ s b, m.comp s = some b → b < hi) (hsz : szS (ms0.map ND.n) ≤ 2097152) (hK : K ≤ 1) :
    Calls Try.prog 52 #[.agg #[v], .int .i64 K] w fun e w' => e = .returned (.int .i64 (nxL K ms0 : Nat)) ∧ OwnN lo v (mkL K ms0) w' ∧ MkFr lo hi w w' := by
  obtain ⟨av, cv, rfl⟩ := own_form h.1
  have bu := Go.Joins.below_alloc1 w (.cells #[.slice av ms0.length cv] 26)
  have H := Lib.hid (h.below bu)
  have HV := Lib.hid hv
  have HB := Lib.hid hb
  clear h hv hb
  go_enter Try.func52, Try.ntmps52
  go_wp2_with (fail)
  refine (markv_any lo hi K _ ms0 _ H.out HV.out HB.out hsz hK).mono ?_
  rintro e w1 ⟨rfl, ho, hf⟩
  obtain ⟨q, eq⟩ : ∃ q, q = nxL K ms0 := ⟨_, rfl⟩
  rw [← eq]
  have EQ := Lib.hid eq
  clear eq
  go_wp2_with (fail)
  go_ret
  exact ⟨by rw [← EQ.out]; rfl, ho, hf.after bu⟩
theorem own_lt {lo : Nat} {v : Value} {ms : List ND} {w : World} (ho : OwnN lo v ms w) : (∀ b, v.ownBlock = some b → b < w.heap.size) ∧ ∀ m ∈ ms, ∀ s b, m.comp s = some b → b < w.heap.size :=
  ⟨fun b hb => (ho.1.lt b hb).2, fun m hm s b hb => ((ho.2.1 m hm).1.lt s b hb).2⟩
/-- The marks of one tree leave what stands below and behind its memory. -/
theorem MkFr.below {lo hi : Nat} {w w' : World} (h : MkFr lo hi w w') {n : Nat} (h1 : n ≤ lo) (h2 : n ≤ w.heap.size) : Below n w w' :=
  ⟨h.os, h.tape, h.output, h.size, fun k hk => h.block k (by omega) (Or.inl (by omega))⟩
theorem MkFr.from {lo hi lo' : Nat} {w w' : World} (h : MkFr lo hi w w') (h1 : hi ≤ lo') : From lo' w w' := ⟨h.size, fun k h2 h3 => h.block k h3 (Or.inr (by omega))⟩
theorem MkFr.heap {lo hi g : Nat} {w w' : World} {o : Obj} (h : MkFr lo hi w w') (hg : w.heap[g]? = some o) (h1 : g < lo ∨ hi ≤ g) : w'.heap[g]? = some o := (h.block g (hp_lt hg) h1).trans hg
end Go.Proofs.Ytfnnfjpbplbjmaa

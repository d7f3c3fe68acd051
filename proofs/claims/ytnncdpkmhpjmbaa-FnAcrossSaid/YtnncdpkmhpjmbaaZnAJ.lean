import Derived.Deep.RegionWith
import Derived.Deep.QuietTactic
import Derived.Test.YtnncdpkmhpjmbaaZnAA
import Derived.Test.YtnncdpkmhpjmbaaZnAI
section
namespace Go.Proofs.Ytnncdpkmhpjmbaa
open Go.ChangeShapes Go.WideShapes Go.ChangeAt Go.RowKit
set_option linter.unusedVariables false
set_option linter.unusedSimpArgs false
set_option maxRecDepth 8000

/-- Whether an item is valid. -/
def itOk (x : It) : Bool := rnB x.base 0 1048576 && rnB x.least 0 1048576 && rnB x.most (-1) 1048576 && rnB x.grow 0 1000 && rnB x.shrink 0 1000 && rnB x.before (-1048576) 1048576 && rnB x.behind (-1048576) 1048576
/-- Whether the items are valid. -/
def itsOk (xs : List It) : Bool := decide (xs.length ≤ 12) && xs.all itOk
theorem its_bad {xs : List It} {k : Nat} (hk : k < xs.length) (h : itOk (itD xs k) = false) : itsOk xs = false := by
  unfold itsOk
  rw [Bool.and_eq_false_iff]
  right
  rw [List.all_eq_false]
  exact ⟨_, itD_mem hk, by simp [h]⟩
theorem its_all {xs : List It} (h : ∀ j, j < xs.length → itOk (itD xs j) = true) : itsOk xs = decide (xs.length ≤ 12) := by
  unfold itsOk
  have : xs.all itOk = true := by
    rw [List.all_eq_true]
    intro x hx
    obtain ⟨j, hj, e⟩ := List.getElem_of_mem hx
    have := h j hj
    rwa [show itD xs j = x by rw [← e]; simp [itD, List.getD, hj]] at this
  rw [this, Bool.and_true]
theorem its_len {xs : List It} (h : ¬ xs.length ≤ 12) : itsOk xs = false := by unfold itsOk; rw [decide_eq_false h, Bool.false_and]
theorem its_ok {xs : List It} (h : itsOk xs = true) : xs.length ≤ 12 ∧ ∀ x ∈ xs, itOk x = true := by
  unfold itsOk at h
  rw [Bool.and_eq_true, decide_eq_true_eq, List.all_eq_true] at h
  exact h
set_option maxHeartbeats 1000000 in
theorem iitok_raw (b l m g s f h : Int) (p q : Bool) (w : World) :
    Calls Try.prog 102 #[.agg #[.int .i64 b, .int .i64 l, .int .i64 m, .int .i64 g, .int .i64 s, .int .i64 f, .int .i64 h, .bool p, .bool q]] w fun e w' => e = .returned (.bool (rnB b 0 1048576 && rnB l 0 1048576 && rnB f (-1048576) 1048576 && rnB h (-1048576) 1048576 && rnB m (-1) 1048576 && rnB g 0 1000 && rnB s 0 1000)) ∧ Below w.heap.size w w' := by
  have kb := irng b 0 1048576
  have kl := irng l 0 1048576
  have kf := irng f (-1048576) 1048576
  have kh := irng h (-1048576) 1048576
  have km := irng m (-1) 1048576
  have kg := irng g 0 1000
  have ks := irng s 0 1000
  generalize rnB b 0 1048576 = tb at *
  generalize rnB l 0 1048576 = tl at *
  generalize rnB f (-1048576) 1048576 = tf at *
  generalize rnB h (-1048576) 1048576 = th at *
  generalize rnB m (-1) 1048576 = tm at *
  generalize rnB g 0 1000 = tg at *
  generalize rnB s 0 1000 = ts at *
  have bb := Go.Joins.below_alloc1 w (.cells #[.int .i64 b, .int .i64 l, .int .i64 m, .int .i64 g, .int .i64 s, .int .i64 f, .int .i64 h, .bool p, .bool q] 40)
  cases tb
  · (go_enter Try.func102, Try.ntmps102
     go_wp2_with (first
       | (go_at_call_of 68 b; refine (kb _).mono ?_; rintro e w1 ⟨rfl, rfl⟩)
       | (go_at_call_of 68 l; refine (kl _).mono ?_; rintro e w1 ⟨rfl, rfl⟩)
       | (go_at_call_of 68 f; refine (kf _).mono ?_; rintro e w1 ⟨rfl, rfl⟩)
       | (go_at_call_of 68 h; refine (kh _).mono ?_; rintro e w1 ⟨rfl, rfl⟩)
       | (go_at_call_of 68 m; refine (km _).mono ?_; rintro e w1 ⟨rfl, rfl⟩)
       | (go_at_call_of 68 g; refine (kg _).mono ?_; rintro e w1 ⟨rfl, rfl⟩)
       | (go_at_call_of 68 s; refine (ks _).mono ?_; rintro e w1 ⟨rfl, rfl⟩))
     go_ret
     exact ⟨by simp, bb⟩)
  cases tl
  · (go_enter Try.func102, Try.ntmps102
     go_wp2_with (first
       | (go_at_call_of 68 b; refine (kb _).mono ?_; rintro e w1 ⟨rfl, rfl⟩)
       | (go_at_call_of 68 l; refine (kl _).mono ?_; rintro e w1 ⟨rfl, rfl⟩)
       | (go_at_call_of 68 f; refine (kf _).mono ?_; rintro e w1 ⟨rfl, rfl⟩)
       | (go_at_call_of 68 h; refine (kh _).mono ?_; rintro e w1 ⟨rfl, rfl⟩)
       | (go_at_call_of 68 m; refine (km _).mono ?_; rintro e w1 ⟨rfl, rfl⟩)
       | (go_at_call_of 68 g; refine (kg _).mono ?_; rintro e w1 ⟨rfl, rfl⟩)
       | (go_at_call_of 68 s; refine (ks _).mono ?_; rintro e w1 ⟨rfl, rfl⟩))
     go_ret
     exact ⟨by simp, bb⟩)
  cases tf
  · (go_enter Try.func102, Try.ntmps102
     go_wp2_with (first
       | (go_at_call_of 68 b; refine (kb _).mono ?_; rintro e w1 ⟨rfl, rfl⟩)
       | (go_at_call_of 68 l; refine (kl _).mono ?_; rintro e w1 ⟨rfl, rfl⟩)
       | (go_at_call_of 68 f; refine (kf _).mono ?_; rintro e w1 ⟨rfl, rfl⟩)
       | (go_at_call_of 68 h; refine (kh _).mono ?_; rintro e w1 ⟨rfl, rfl⟩)
       | (go_at_call_of 68 m; refine (km _).mono ?_; rintro e w1 ⟨rfl, rfl⟩)
       | (go_at_call_of 68 g; refine (kg _).mono ?_; rintro e w1 ⟨rfl, rfl⟩)
       | (go_at_call_of 68 s; refine (ks _).mono ?_; rintro e w1 ⟨rfl, rfl⟩))
     go_ret
     exact ⟨by simp, bb⟩)
  cases th
  · (go_enter Try.func102, Try.ntmps102
     go_wp2_with (first
       | (go_at_call_of 68 b; refine (kb _).mono ?_; rintro e w1 ⟨rfl, rfl⟩)
       | (go_at_call_of 68 l; refine (kl _).mono ?_; rintro e w1 ⟨rfl, rfl⟩)
       | (go_at_call_of 68 f; refine (kf _).mono ?_; rintro e w1 ⟨rfl, rfl⟩)
       | (go_at_call_of 68 h; refine (kh _).mono ?_; rintro e w1 ⟨rfl, rfl⟩)
       | (go_at_call_of 68 m; refine (km _).mono ?_; rintro e w1 ⟨rfl, rfl⟩)
       | (go_at_call_of 68 g; refine (kg _).mono ?_; rintro e w1 ⟨rfl, rfl⟩)
       | (go_at_call_of 68 s; refine (ks _).mono ?_; rintro e w1 ⟨rfl, rfl⟩))
     go_ret
     exact ⟨by simp, bb⟩)
  cases tm
  · (go_enter Try.func102, Try.ntmps102
     go_wp2_with (first
       | (go_at_call_of 68 b; refine (kb _).mono ?_; rintro e w1 ⟨rfl, rfl⟩)
       | (go_at_call_of 68 l; refine (kl _).mono ?_; rintro e w1 ⟨rfl, rfl⟩)
       | (go_at_call_of 68 f; refine (kf _).mono ?_; rintro e w1 ⟨rfl, rfl⟩)
       | (go_at_call_of 68 h; refine (kh _).mono ?_; rintro e w1 ⟨rfl, rfl⟩)
       | (go_at_call_of 68 m; refine (km _).mono ?_; rintro e w1 ⟨rfl, rfl⟩)
       | (go_at_call_of 68 g; refine (kg _).mono ?_; rintro e w1 ⟨rfl, rfl⟩)
       | (go_at_call_of 68 s; refine (ks _).mono ?_; rintro e w1 ⟨rfl, rfl⟩))
     go_ret
     exact ⟨by simp, bb⟩)
  cases tg
  · (go_enter Try.func102, Try.ntmps102
     go_wp2_with (first
       | (go_at_call_of 68 b; refine (kb _).mono ?_; rintro e w1 ⟨rfl, rfl⟩)
       | (go_at_call_of 68 l; refine (kl _).mono ?_; rintro e w1 ⟨rfl, rfl⟩)
       | (go_at_call_of 68 f; refine (kf _).mono ?_; rintro e w1 ⟨rfl, rfl⟩)
       | (go_at_call_of 68 h; refine (kh _).mono ?_; rintro e w1 ⟨rfl, rfl⟩)
       | (go_at_call_of 68 m; refine (km _).mono ?_; rintro e w1 ⟨rfl, rfl⟩)
       | (go_at_call_of 68 g; refine (kg _).mono ?_; rintro e w1 ⟨rfl, rfl⟩)
       | (go_at_call_of 68 s; refine (ks _).mono ?_; rintro e w1 ⟨rfl, rfl⟩))
     go_ret
     exact ⟨by simp, bb⟩)
  cases ts
  · (go_enter Try.func102, Try.ntmps102
     go_wp2_with (first
       | (go_at_call_of 68 b; refine (kb _).mono ?_; rintro e w1 ⟨rfl, rfl⟩)
       | (go_at_call_of 68 l; refine (kl _).mono ?_; rintro e w1 ⟨rfl, rfl⟩)
       | (go_at_call_of 68 f; refine (kf _).mono ?_; rintro e w1 ⟨rfl, rfl⟩)
       | (go_at_call_of 68 h; refine (kh _).mono ?_; rintro e w1 ⟨rfl, rfl⟩)
       | (go_at_call_of 68 m; refine (km _).mono ?_; rintro e w1 ⟨rfl, rfl⟩)
       | (go_at_call_of 68 g; refine (kg _).mono ?_; rintro e w1 ⟨rfl, rfl⟩)
       | (go_at_call_of 68 s; refine (ks _).mono ?_; rintro e w1 ⟨rfl, rfl⟩))
     go_ret
     exact ⟨by simp, bb⟩)
  · (go_enter Try.func102, Try.ntmps102
     go_wp2_with (first
       | (go_at_call_of 68 b; refine (kb _).mono ?_; rintro e w1 ⟨rfl, rfl⟩)
       | (go_at_call_of 68 l; refine (kl _).mono ?_; rintro e w1 ⟨rfl, rfl⟩)
       | (go_at_call_of 68 f; refine (kf _).mono ?_; rintro e w1 ⟨rfl, rfl⟩)
       | (go_at_call_of 68 h; refine (kh _).mono ?_; rintro e w1 ⟨rfl, rfl⟩)
       | (go_at_call_of 68 m; refine (km _).mono ?_; rintro e w1 ⟨rfl, rfl⟩)
       | (go_at_call_of 68 g; refine (kg _).mono ?_; rintro e w1 ⟨rfl, rfl⟩)
       | (go_at_call_of 68 s; refine (ks _).mono ?_; rintro e w1 ⟨rfl, rfl⟩))
     go_ret
     exact ⟨by simp, bb⟩)
theorem iitok (x : It) (w : World) :
    Calls Try.prog 102 #[.agg #[.int .i64 x.base, .int .i64 x.least, .int .i64 x.most, .int .i64 x.grow, .int .i64 x.shrink, .int .i64 x.before, .int .i64 x.behind, .bool x.ab, .bool x.ah]] w fun e w' => e = .returned (.bool (itOk x)) ∧ Below w.heap.size w w' :=
  (iitok_raw x.base x.least x.most x.grow x.shrink x.before x.behind x.ab x.ah w).mono fun e w' ⟨he, hb⟩ => ⟨by rw [he]; unfold itOk; exact congrArg (fun t => Ending.returned (.bool t)) (by generalize rnB x.base 0 1048576 = a; generalize rnB x.least 0 1048576 = b; generalize rnB x.most (-1) 1048576 = c; generalize rnB x.grow 0 1000 = d; generalize rnB x.shrink 0 1000 = ee; generalize rnB x.before (-1048576) 1048576 = f; generalize rnB x.behind (-1048576) 1048576 = g; cases a <;> cases b <;> cases c <;> cases d <;> cases ee <;> cases f <;> cases g <;> rfl), hb⟩
set_option maxHeartbeats 2000000 in
theorem iitsok (a : Option Addr) (cap : Nat) (xs : List It) (w : World) (hz : Its w a xs) (hl : xs.length ≤ 4611686018427387904) :
    Calls Try.prog 86 #[.slice a xs.length cap] w fun e w' => e = .returned (.bool (itsOk xs)) ∧ Below w.heap.size w w' := by
  have HZ := Lib.hid hz
  clear hz
  by_cases h16 : xs.length ≤ 12
  · go_enter Try.func86, Try.ntmps86
    go_wp2
    go_loopw [10] (fun i wr => ∃ k : Nat, k ≤ xs.length ∧ i = .int .i64 k ∧ (∀ j, j < k → itOk (itD xs j) = true) ∧ Below w.heap.size w wr) (fun i _ => xs.length - (intOf i).toNat)
    case atStart => exact ⟨0, Nat.zero_le _, rfl, fun j hj => absurd hj (Nat.not_lt_zero _), Below.refl _ _⟩
    case round =>
      obtain ⟨k, hk, rfl, hm, hb⟩ := hrel
      by_cases hlt : k < xs.length
      · obtain ⟨b, off, rfl, hbl, hrg⟩ := (HZ.out.below hb).look hlt
        have hlo : (0 : Int) ≤ (k : Int) := Int.natCast_nonneg _
        have hhi : (k : Int) < (xs.length : Int) := by omega
        have hbad : itOk (itD xs k) = false → itsOk xs = false := its_bad hlt
        have hgood : itOk (itD xs k) = true → ∀ j, j < k + 1 → itOk (itD xs j) = true := fun h j hj => by
          by_cases e : j = k
          · rw [e]; exact h
          · exact hm j (by omega)
        generalize itD xs k = x at *
        have RG := Lib.hid hrg
        obtain ⟨v, ev⟩ : ∃ v, v = wr.alloc (.cells #[.int .i64 x.base, .int .i64 x.least, .int .i64 x.most, .int .i64 x.grow, .int .i64 x.shrink, .int .i64 x.before, .int .i64 x.behind, .bool x.ab, .bool x.ah] 40) := ⟨_, rfl⟩
        have hown : v.heap[wr.heap.size]? = some (.cells #[.int .i64 x.base, .int .i64 x.least, .int .i64 x.most, .int .i64 x.grow, .int .i64 x.shrink, .int .i64 x.before, .int .i64 x.behind, .bool x.ab, .bool x.ah] 40) := ev ▸ hp_new wr _
        have hbv := Lib.hid (ev ▸ hb.alloc hb.size (.cells #[.int .i64 x.base, .int .i64 x.least, .int .i64 x.most, .int .i64 x.grow, .int .i64 x.shrink, .int .i64 x.before, .int .i64 x.behind, .bool x.ab, .bool x.ah] 40) : Below w.heap.size w v)
        have N0 : v.cell? ⟨wr.heap.size, 0, none⟩ = some (.int .i64 x.base) := Go.Joins.cell_of_block hown 0
        have N1 : v.cell? ⟨wr.heap.size, 1, none⟩ = some (.int .i64 x.least) := Go.Joins.cell_of_block hown 1
        have N2 : v.cell? ⟨wr.heap.size, 2, none⟩ = some (.int .i64 x.most) := Go.Joins.cell_of_block hown 2
        have N3 : v.cell? ⟨wr.heap.size, 3, none⟩ = some (.int .i64 x.grow) := Go.Joins.cell_of_block hown 3
        have N4 : v.cell? ⟨wr.heap.size, 4, none⟩ = some (.int .i64 x.shrink) := Go.Joins.cell_of_block hown 4
        have N5 : v.cell? ⟨wr.heap.size, 5, none⟩ = some (.int .i64 x.before) := Go.Joins.cell_of_block hown 5
        have N6 : v.cell? ⟨wr.heap.size, 6, none⟩ = some (.int .i64 x.behind) := Go.Joins.cell_of_block hown 6
        have N7 : v.cell? ⟨wr.heap.size, 7, none⟩ = some (.bool x.ab) := Go.Joins.cell_of_block hown 7
        have N8 : v.cell? ⟨wr.heap.size, 8, none⟩ = some (.bool x.ah) := Go.Joins.cell_of_block hown 8
        have kr := iitok x v
        generalize itOk x = q at *
        have KR := Lib.hid kr
        have EV := Lib.hid ev
        have HBAD := Lib.hid hbad
        have HGOOD := Lib.hid hgood
        clear hm hbad hgood kr ev hown hb hrg
        go_wp2_with (first
          | ((with_reducible apply list_load_it); exact rfl; exact rfl; exact rfl; (with_reducible exact RG.out); simp only [Act.put, List.setIfInBounds_toArray, List.set_cons_succ, List.set_cons_zero])
          | (rw [← EV.out])
          | fail)
        refine KR.out.mono ?_
        rintro e w2 ⟨rfl, b2⟩
        have B2 := Lib.hid (hbv.out.trans (b2.mono hbv.out.size))
        clear b2 KR
        dsimp only
        cases q with
        | false =>
          go_wp2
          go_ret
          exact ⟨congrArg (fun t => Ending.returned (.bool t)) (HBAD.out (by simp)).symm, B2.out⟩
        | true =>
          go_wp2
          go_roundw
          case rel => exact ⟨k + 1, by omega, by go_num, HGOOD.out (by simp), B2.out⟩
          case measure => simp [intOf]; omega
      · obtain rfl : k = xs.length := by omega
        have HM := Lib.hid hm
        clear hm
        go_wp2
        go_ret
        exact ⟨(congrArg (fun t => Ending.returned (.bool t)) ((its_all HM.out).trans (decide_eq_true h16))).symm, hb⟩
  · go_enter Try.func86, Try.ntmps86
    go_wp2
    go_ret
    exact ⟨(congrArg (fun t => Ending.returned (.bool t)) (its_len h16)).symm, Below.refl _ _⟩
end Go.Proofs.Ytnncdpkmhpjmbaa
end

import Derived.BigQuiet
import Derived.Lib.QuietBelow
import Derived.Test.YtnncdpkmhpjmbaaZnBD
section
namespace Go.Proofs.Ytnncdpkmhpjmbaa
open Go.ChangeShapes Go.WideShapes Go.ChangeAt Go.RowKit
set_option linter.unusedVariables false
set_option linter.unusedSimpArgs false
set_option maxRecDepth 8000

/-- The closure with its four variables, in memory of one's own. -/
def SpF (lo : Nat) (free many js : Int) (p1 p2 p3 p4 : Nat) (va : Value) (w : World) : Prop :=
  (lo ≤ p1 ∧ lo ≤ p2 ∧ lo ≤ p3 ∧ lo ≤ p4) ∧ w.cell? ⟨p1, 0, none⟩ = some (.int .i64 (ldV free many js)) ∧ w.cell? ⟨p2, 0, none⟩ = some (.int .i64 free) ∧ w.cell? ⟨p3, 0, none⟩ = some (.int .i64 js) ∧ w.cell? ⟨p4, 0, none⟩ = some va ∧ RowI lo va (pcV free many js) w
theorem cell_low {w w' : World} {p : Addr} {v : Value} (h : w.cell? p = some v) (hb : Below w.heap.size w w') : w'.cell? p = some v := (hb.cell (World.block_lt_of_cell? w _ h)).trans h
theorem SpF.below {lo : Nat} {free many js : Int} {p1 p2 p3 p4 : Nat} {va : Value} {w w' : World} (h : SpF lo free many js p1 p2 p3 p4 va w) (hb : Below w.heap.size w w') : SpF lo free many js p1 p2 p3 p4 va w' :=
  ⟨h.1, cell_low h.2.1 hb, cell_low h.2.2.1 hb, cell_low h.2.2.2.1 hb, cell_low h.2.2.2.2.1 hb, h.2.2.2.2.2.below hb⟩
theorem sp_0 (free many js : Int) : spV free many js 0 = ldV free many js := rfl
theorem sp_neg {free many js : Int} {i : Nat} (hi : i ≠ 0) (hf : free < 0) : spV free many js i = 0 := by unfold spV; rw [if_neg hi, if_pos hf]
theorem sp_4 {free many : Int} {i : Nat} (hi : i ≠ 0) (hf : ¬ free < 0) : spV free many 4 i = (pcV free many 4).getD (i - 1) 0 := by unfold spV; rw [if_neg hi, if_neg hf, if_pos rfl, pc_4]
theorem sp_5 {free many : Int} {i : Nat} (hi : i ≠ 0) (hf : ¬ free < 0) : spV free many 5 i = (pcV free many 5).getD (2 * i - 1) 0 + (pcV free many 5).getD (2 * i) 0 := by unfold spV; rw [if_neg hi, if_neg hf, if_neg (by decide), if_pos rfl, pc_5]
theorem sp_6 {free many : Int} {i : Nat} (hi : i ≠ 0) (hf : ¬ free < 0) : spV free many 6 i = (pcV free many 6).getD i 0 := by unfold spV; rw [if_neg hi, if_neg hf, if_neg (by decide), if_neg (by decide), if_pos rfl, pc_6]
theorem sp_else {free many js : Int} {i : Nat} (hi : i ≠ 0) (h4 : js ≠ 4) (h5 : js ≠ 5) (h6 : js ≠ 6) : spV free many js i = 0 := by unfold spV; simp [hi, h4, h5, h6]
theorem pc_bd (free many js : Int) (j : Nat) : -1048577 ≤ (pcV free many js).getD j 0 ∧ (pcV free many js).getD j 0 ≤ 1048577 := by
  unfold pcV
  (repeat' split) <;> first | exact evn_bd _ _ _ | simp

set_option maxHeartbeats 2000000 in
theorem ispc (lo m i : Nat) (free js : Int) (p1 p2 p3 p4 : Nat) (va : Value) (w : World) (hm : m ≤ 12) (hi : i < m) (h : SpF lo free m js p1 p2 p3 p4 va w) :
    Calls Try.prog 92 #[.int .i64 (i : Int), .pointer (some ⟨p1, 0, none⟩), .pointer (some ⟨p2, 0, none⟩), .pointer (some ⟨p3, 0, none⟩), .pointer (some ⟨p4, 0, none⟩)] w fun e w' => e = .returned (.int .i64 (spV free m js i)) ∧ Below w.heap.size w w' := by
  obtain ⟨_, c1, c2, c3, c4, hr⟩ := h
  have hi0 : (0 : Int) ≤ (i : Int) := Int.natCast_nonneg _
  have hi12 : (i : Int) < 12 := by omega
  by_cases h0 : i = 0
  · subst h0
    rw [sp_0]
    generalize ldV free m js = q at *
    clear c2 c3 c4 hr
    go_enter Try.func92, Try.ntmps92
    go_wp2
    go_ret
    exact ⟨rfl, Below.refl _ _⟩
  · have hne : ¬ (i : Int) = 0 := by omega
    by_cases hf : free < 0
    · rw [sp_neg h0 hf]
      clear c1 c3 c4 hr
      go_enter Try.func92, Try.ntmps92
      go_wp2
      go_ret
      exact ⟨rfl, Below.refl _ _⟩
    · have hall := pc_all free m js

      by_cases h4 : js = 4
      · subst h4
        rw [sp_4 h0 hf]
        have hlen : (pcV free m 4).length = m - 1 := by rw [pc_4, evn_lenI (by omega) (by omega)]; omega
        obtain ⟨a, cap, rfl, hin⟩ := hr.slice hall
        obtain ⟨b, off, rfl, hbl, hc⟩ := hin.look (k := i - 1) (by omega)
        generalize (pcV free m 4).getD (i - 1) 0 = z at *
        generalize (pcV free m 4).length = n at *
        have hx0 : (0 : Int) ≤ (i : Int) - 1 := by omega
        have hx1 : (i : Int) - 1 < (n : Int) := by omega
        have hx2 : (i : Int) < (n : Int) ∨ n < i + 1 := by omega
        have hx3 : ((i : Int) - 1).toNat = i - 1 := by omega
        clear c1 hin hall
        go_enter Try.func92, Try.ntmps92
        go_wp2
        go_ret
        exact ⟨rfl, Below.refl _ _⟩
      by_cases h6 : js = 6
      · subst h6
        rw [sp_6 h0 hf]
        have hlen : (pcV free m 6).length = m + 1 := by rw [pc_6, evn_lenI (by omega) (by omega)]; omega
        obtain ⟨a, cap, rfl, hin⟩ := hr.slice hall
        obtain ⟨b, off, rfl, hbl, hc⟩ := hin.look (k := i) (by omega)
        generalize (pcV free m 6).getD (i) 0 = z at *
        generalize (pcV free m 6).length = n at *
        have hx0 : (0 : Int) ≤ (i : Int) - 1 := by omega
        have hx1 : (i : Int) - 1 < (n : Int) := by omega
        have hx2 : (i : Int) < (n : Int) ∨ n < i + 1 := by omega
        have hx3 : ((i : Int) - 1).toNat = i - 1 := by omega
        clear c1 hin hall
        go_enter Try.func92, Try.ntmps92
        go_wp2
        go_ret
        exact ⟨rfl, Below.refl _ _⟩
      by_cases h5 : js = 5
      · subst h5
        rw [sp_5 h0 hf]
        have hlen : (pcV free m 5).length = 2 * m := by rw [pc_5, evn_lenI (by omega) (by omega)]; omega
        have hb1 := pc_bd free m 5 (2 * i - 1)
        have hb2 := pc_bd free m 5 (2 * i)
        obtain ⟨a, cap, rfl, hin⟩ := hr.slice hall
        obtain ⟨b, off, rfl, hbl, hc⟩ := hin.look (k := 2 * i - 1) (by omega)
        obtain ⟨b', off', e', hbl', hc'⟩ := hin.look (k := 2 * i) (by omega)
        injection e' with e'
        injection e' with e1 e2
        subst e1 e2
        generalize (pcV free m 5).getD (2 * i - 1) 0 = z at *
        generalize (pcV free m 5).getD (2 * i) 0 = y at *
        generalize (pcV free m 5).length = n at *
        have hx0 : (0 : Int) ≤ 2 * (i : Int) - 1 := by omega
        have hx1 : 2 * (i : Int) - 1 < (n : Int) := by omega
        have hx2 : 2 * (i : Int) < (n : Int) := by omega
        have hx3 : (2 * (i : Int) - 1).toNat = 2 * i - 1 := by omega
        have hx4 : (2 * (i : Int)).toNat = 2 * i := by omega
        have C4 := fun d os => cell_regrown c4 d os
        have HC := fun d os => cell_regrown hc d os
        have HC2 := fun d os => cell_regrown hc' d os
        clear c1 hin hall
        go_enter Try.func92, Try.ntmps92
        go_wp2_with (fail)
        refine wp_region_quiet_below (by kernel_rfl) (by kernel_rfl) ?_
        repeat (go_big_quiet_step (fail))
        refine wpQuiet_nil ?_
        intro _ hw'
        obtain ⟨⟨dq, osq⟩, hw''⟩ := hw'
        subst hw''
        clear C4 HC HC2
        go_wp2
        go_ret
        exact ⟨rfl, below_regrown w dq osq⟩
      clear c1 c4 hr hall
      rw [sp_else h0 h4 h5 h6]
      go_enter Try.func92, Try.ntmps92
      go_wp2
      go_ret
      exact ⟨rfl, Below.refl _ _⟩
def SpPost (lo : Nat) (free many js : Int) (w : World) (e : Ending) (w' : World) : Prop :=
  ∃ p1 p2 p3 p4 va, e = .returned (.func (.func 92) #[] #[.pointer (some ⟨p1, 0, none⟩), .pointer (some ⟨p2, 0, none⟩), .pointer (some ⟨p3, 0, none⟩), .pointer (some ⟨p4, 0, none⟩)]) ∧ SpF lo free many js p1 p2 p3 p4 va w' ∧ Below w.heap.size w w'
set_option maxHeartbeats 2000000 in
theorem ispacing (free : Int) (m : Nat) (js : Int) (w : World) (f0 : -9223372036854775808 ≤ free) (f1 : free ≤ 9223372036854775807) (hm : m ≤ 12) :
    Calls Try.prog 76 #[.int .i64 free, .int .i64 (m : Int), .int .i64 js] w (SpPost w.heap.size free m js w) := by
  have KL := Lib.hid (fun w' => ilead free m js w' f0 f1)
  have KP := Lib.hid (fun w' => ipieces free m js w' (by omega) (by omega))
  have HDEF := Lib.hid (show ∀ q, q = ldV free m js → q = ldV free m js from fun q h => h)
  obtain ⟨L, eL⟩ : ∃ L, L = ldV free m js := ⟨_, rfl⟩
  rw [← eL] at KL
  have EL := Lib.hid eL
  clear eL HDEF
  have bu : Below w.heap.size w ((w.alloc (.cells #[.int .i64 free] 3)).alloc (.cells #[.int .i64 js] 3)) := ((Below.refl _ _).alloc (Nat.le_refl _) _).alloc (by simp) _
  have hf : ((w.alloc (.cells #[.int .i64 free] 3)).alloc (.cells #[.int .i64 js] 3)).cell? ⟨w.heap.size, 0, none⟩ = some (.int .i64 free) :=
    cell_low (Go.Joins.cell_of_block (hp_new w (.cells #[.int .i64 free] 3)) 0) ((Below.refl _ _).alloc (Nat.le_refl _) _)
  have hj : ((w.alloc (.cells #[.int .i64 free] 3)).alloc (.cells #[.int .i64 js] 3)).cell? ⟨w.heap.size + 1, 0, none⟩ = some (.int .i64 js) := by
    have := Go.Joins.cell_of_block (hp_new (w.alloc (.cells #[.int .i64 free] 3)) (.cells #[.int .i64 js] 3)) 0
    rwa [show (w.alloc (.cells #[.int .i64 free] 3)).heap.size = w.heap.size + 1 by simp] at this
  obtain ⟨u, eu⟩ : ∃ u, u = (w.alloc (.cells #[.int .i64 free] 3)).alloc (.cells #[.int .i64 js] 3) := ⟨_, rfl⟩
  rw [← eu] at bu hf hj
  have EU := Lib.hid eu
  have BU := Lib.hid bu
  clear eu bu
  go_enter Try.func76, Try.ntmps76
  go_wp2_with (rw [← EU.out])
  refine (KL.out u).mono ?_
  rintro e w1 ⟨rfl, b1⟩
  have bv : Below w.heap.size w (w1.alloc (.cells #[.int .i64 L] 3)) := (BU.out.trans (b1.mono BU.out.size)).alloc (Nat.le_trans BU.out.size b1.size) _
  have b2 : Below u.heap.size u (w1.alloc (.cells #[.int .i64 L] 3)) := b1.alloc b1.size _
  have hn := hp_new w1 (.cells #[.int .i64 L] 3)
  have hl1 := Nat.le_trans BU.out.size b1.size
  obtain ⟨v, ev⟩ : ∃ v, v = w1.alloc (.cells #[.int .i64 L] 3) := ⟨_, rfl⟩
  rw [← ev] at bv b2 hn
  have EV := Lib.hid ev
  have BV := Lib.hid bv
  have cL := Go.Joins.cell_of_block hn 0
  have cf := cell_low hf b2
  have cj := cell_low hj b2
  have HL := Lib.hid hl1
  clear ev bv b2 hn hf hj b1 hl1
  obtain ⟨g1, eg1⟩ : ∃ g1, g1 = w1.heap.size := ⟨_, rfl⟩
  have hsw : w.heap.size + 1 < v.heap.size := World.block_lt_of_cell? v _ cj
  rw [← eg1] at cL HL
  have EG := Lib.hid eg1
  clear eg1
  go_wp2_with (rw [← EV.out])
  refine (KP.out v).mono ?_
  rintro e w2 ⟨va, rfl, r2, b2⟩
  obtain ⟨a2, c2, rfl, _⟩ := r2.slice (pc_all free m js)
  obtain ⟨va, eva⟩ : ∃ va, va = Value.slice a2 (pcV free m js).length c2 := ⟨_, rfl⟩
  rw [← eva] at r2
  have EVA := Lib.hid eva
  clear eva
  have cL2 := cell_low cL b2
  have cf2 := cell_low cf b2
  have cj2 := cell_low cj b2
  have R2 := Lib.hid (lowI r2 (Nat.le_trans BV.out.size (Nat.le_refl _)))
  have B2 := Lib.hid (BV.out.trans (b2.mono BV.out.size))
  have hv2 := b2.size
  clear cL cf cj r2 b2
  have F3 := Lib.hid (show SpF w.heap.size free m js g1 w.heap.size (w.heap.size + 1) w2.heap.size va (w2.alloc (.cells #[va] 24)) from by
    have bn : Below w2.heap.size w2 (w2.alloc (.cells #[va] 24)) := (Below.refl _ _).alloc (Nat.le_refl _) _
    refine ⟨⟨HL.out, Nat.le_refl _, by omega, by omega⟩, ?_, cell_low cf2 bn, cell_low cj2 bn, Go.Joins.cell_of_block (hp_new w2 (.cells #[va] 24)) 0, R2.out.below bn⟩
    rw [← EL.out]
    exact cell_low cL2 bn)
  have B3 := Lib.hid (B2.out.alloc B2.out.size (.cells #[va] 24))
  clear cL2 cf2 cj2
  obtain rfl := EVA.out
  (try dsimp only)
  go_wp2
  go_ret
  refine ⟨g1, w.heap.size, w.heap.size + 1, w2.heap.size, _, ?_, F3.out, B3.out⟩
  rw [EG.out]
  rfl
end Go.Proofs.Ytnncdpkmhpjmbaa
end

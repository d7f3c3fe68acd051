import Derived.Test.YtnncdpkmhpjmbaaZnAK
import Derived.Test.YtnncdpkmhpjmbaaZnBC
import Derived.Test.YtnncdpkmhpjmbaaZnBE
import Derived.Test.YtnncdpkmhpjmbaaZnBG
import Derived.Test.YtnncdpkmhpjmbaaZnBI
import Derived.Test.YtnncdpkmhpjmbaaZnBJ
section
namespace Go.Proofs.Ytnncdpkmhpjmbaa
open Go.ChangeShapes Go.WideShapes Go.ChangeAt Go.RowKit
set_option linter.unusedVariables false
set_option linter.unusedSimpArgs false
set_option maxRecDepth 8000

/-- What is left of the shares, to be read. -/
theorem ints_tail {w : World} {a : Option Addr} {g : Int} {gs : List Int} {c : Nat} (h : Ints w a (gs.length + 1) (g :: gs)) (hc : gs.length + 1 ≤ c) : Ints w (tailA a c 1) gs.length gs := by
  refine ⟨rfl, fun z hz => h.2.1 z (List.mem_cons_of_mem _ hz), ?_⟩
  rcases h.2.2 with h0 | ⟨b, off, rfl, hb, hcell⟩
  · omega
  · by_cases hl : gs.length = 0
    · exact Or.inl hl
    · refine Or.inr ⟨b, off + 1, ?_, hb, fun k hk => ?_⟩
      · unfold tailA; rw [if_neg (by omega)]; rfl
      · have := hcell (k + 1) (by omega)
        rw [show off + 1 + k = off + (k + 1) by omega, this]
        rfl
theorem tail_blk {a : Option Addr} {c p : Nat} (h : ∀ b o q, a = some ⟨b, o, q⟩ → b < p) : ∀ b o q, tailA a c 1 = some ⟨b, o, q⟩ → b < p := by
  intro b o q e
  unfold tailA at e
  split at e
  · exact h b o q e
  · cases a with
    | none => cases e
    | some x =>
      cases x with
      | mk b' o' q' =>
        simp [Addr.add] at e
        exact h b' o' q' rfl |> (fun h => by rw [← e.1]; exact h)
theorem run_sl_1 (a : Option Addr) (n c : Nat) (w : World) (h : 1 ≤ n) : (Instr.sliceAt 24 (.slice a n c) (some (.int .i64 1)) none none).run Try.prog w = .ok (.slice (tailA a c 1) (n - 1) (c - 1)) w := run_sl_l a n c 1 w h
theorem RowT.fld {lo g n cap i j : Nat} {xs : List It} {w : World} (h : RowT lo (.slice (some ⟨g, 0, none⟩) n cap) xs w) (hi : i < xs.length) (hj : j < 9) : w.cell? ⟨g, i * 9 + j, none⟩ = (itD xs i).L[j]? := by
  have hn : n = xs.length := h.len
  subst hn
  rw [World.ownsRow.cellAt h (i * 9 + j) (by omega), cellsI_at xs i j hj, itD_eq hi]
  rfl
theorem RowT.free {lo g n cap : Nat} {xs : List It} {w : World} (h : RowT lo (.slice (some ⟨g, 0, none⟩) n cap) xs w) (j : Nat) : w.frozen? ⟨g, j, none⟩ = false := by
  have hn : n = xs.length := h.len
  subst hn
  exact World.ownsRow.frozenAt h j
/-- What stands in memory while the margins are widened. -/
structure WdS (w0 : World) (lb n cap p5 : Nat) (ys : List It) (gs : List Int) (w : World) : Prop where
  row : RowT w0.heap.size (.slice (some ⟨lb, 0, none⟩) n cap) ys w
  blk : ∃ sa sc, w.heap[p5]? = some (.cells #[.slice sa gs.length sc] 24) ∧ gs.length ≤ sc ∧ Ints w sa gs.length gs ∧ (∀ b o q, sa = some ⟨b, o, q⟩ → b < p5)
  hb : Below w0.heap.size w0 w
  lt : p5 < lb
  le : w0.heap.size ≤ p5
theorem WdS.below {w0 w w' : World} {lb n cap p5 : Nat} {ys : List It} {gs : List Int} (h : WdS w0 lb n cap p5 ys gs w) (b : Below w.heap.size w w') : WdS w0 lb n cap p5 ys gs w' := by
  obtain ⟨sa, sc, h1, h2, h3, h4⟩ := h.blk
  exact ⟨h.row.below b, ⟨sa, sc, hp_below h1 b, h2, h3.below b, h4⟩, h.hb.trans (b.mono h.hb.size), h.lt, h.le⟩
theorem WdS.step {w0 w : World} {lb n cap p5 : Nat} {ys : List It} {g : Int} {gs : List Int} (h : WdS w0 lb n cap p5 ys (g :: gs) w) {i j : Nat} (hi : i < ys.length) (hj : j < 9) (x' : It) (v : Value) (e : x'.L = (itD ys i).L.set j v) {sa : Option Addr} {sc : Nat}
    (h1 : w.heap[p5]? = some (.cells #[.slice sa (gs.length + 1) sc] 24)) (h2 : gs.length + 1 ≤ sc) (h3 : Ints w sa (gs.length + 1) (g :: gs)) (h4 : ∀ b o q, sa = some ⟨b, o, q⟩ → b < p5) :
    WdS w0 lb n cap p5 (ys.set i x') gs ((w.setCell ⟨lb, i * 9 + j, none⟩ v).setCell ⟨p5, 0, none⟩ (.slice (tailA sa sc 1) gs.length (sc - 1))) := by
  have hlt := h.lt
  have g1 := gr_setC w lb (i * 9 + j) v
  have hb1 : (w.setCell ⟨lb, i * 9 + j, none⟩ v).heap[p5]? = some (.cells #[.slice sa (gs.length + 1) sc] 24) := hp_set h1 (by omega) _ _
  have g2 := gr_setC (w.setCell ⟨lb, i * 9 + j, none⟩ v) p5 0 (.slice (tailA sa sc 1) gs.length (sc - 1))
  have h3' := (ints_tail h3 h2).grownX g1 (fun b o e e2 => by
    injection e2 with e2
    have := tail_blk (c := sc) h4 b o none e
    omega)
  have h3'' := h3'.grownX g2 (fun b o e e2 => by
    injection e2 with e2
    have := tail_blk (c := sc) h4 b o none e
    omega)
  refine ⟨?_, ⟨tailA sa sc 1, sc - 1, ?_, by omega, h3'', tail_blk h4⟩, bl_set (bl_set h.hb _ (by have := h.le; omega) _) 0 h.le _, h.lt, h.le⟩
  · exact (h.row.put hi hj x' v e).kept g2 (Or.inr fun e => by have e : some lb = some p5 := e; injection e with e; omega)
  · simpa using Go.Joins.block_setCell hb1 (i := 0) (.slice (tailA sa sc 1) gs.length (sc - 1))
set_option maxHeartbeats 1000000 in
theorem iwid_no (a : Option Addr) (p5 : Nat) (w : World) :
    Calls Try.prog 88 #[.pointer a, .bool false, .pointer (some ⟨p5, 0, none⟩)] w fun e w' => e = .returned (.tuple #[]) ∧ w' = w := by
  go_enter Try.func88, Try.ntmps88
  go_wp2
  refine bodyPost_end (results_none rfl _ _ _) rfl ?_
  exact ⟨rfl, rfl⟩
set_option maxHeartbeats 2000000 in
theorem iwid_yes (w0 : World) (lb n cap p5 : Nat) (ys : List It) (g : Int) (gs : List Int) (w : World) (i j : Nat) (m : Int) (x' : It) (h : WdS w0 lb n cap p5 ys (g :: gs) w) (hi : i < ys.length) (hj : j < 9)
    (hm : (itD ys i).L[j]? = some (.int .i64 m)) (hw0 : -9223372036854775808 ≤ m + g) (hw1 : m + g ≤ 9223372036854775807) (e : x'.L = (itD ys i).L.set j (.int .i64 (m + g))) :
    Calls Try.prog 88 #[.pointer (some ⟨lb, i * 9 + j, none⟩), .bool true, .pointer (some ⟨p5, 0, none⟩)] w fun e w' => e = .returned (.tuple #[]) ∧ WdS w0 lb n cap p5 (ys.set i x') gs w' := by
  have H := Lib.hid h
  have E := Lib.hid e
  have HM := Lib.hid hm
  clear h e hm
  go_enter Try.func88, Try.ntmps88
  go_wp2_with (fail)
  refine region_tail 8 (by kernel_rfl) (by kernel_rfl) ?_
  intro w4 e4
  have H4 := Lib.hid (H.out.below (show Below w.heap.size w w4 from e4 ▸ (Below.refl _ _).drew))
  clear e4
  obtain ⟨sa, sc, h1, h2, h3, h4⟩ := H4.out.blk
  have HS := Lib.hid (H4.out.step hi hj x' _ E.out h1 h2 h3 h4)
  obtain ⟨sb, so, rfl, hsb, hcell⟩ := h3.look (k := 0) (by simp)
  have hc0 : w4.cell? ⟨sb, so, none⟩ = some (.int .i64 g) := hcell
  have hcm := H4.out.row.fld hi hj
  rw [HM.out] at hcm
  have hfz := H4.out.row.free (i * 9 + j)
  have hp := Go.Joins.cell_of_block h1 0
  have hpf := Go.Joins.unfrozen_of_block h1 0
  have hne : p5 ≠ lb := Nat.ne_of_lt H4.out.lt
  have hne2 := hne.symm
  have hsl := run_sl_1 (some ⟨sb, so, none⟩) (gs.length + 1) sc
  simp only [List.length_cons] at hp
  have hpos : (0 : Int) < ((gs.length + 1 : Nat) : Int) := by omega
  clear h1 h2 h3 h4 hcell hsb
  simp only [List.take_succ_cons, List.take_zero, List.drop_succ_cons, List.drop_zero]
  repeat (first | still_step)
  refine wpStill_nil ?_
  (try dsimp only)
  have hwr : IntKind.i64.wrap (m + g) = m + g := IntWalk.i64_in _ (by omega)
  rw [hwr]
  go_wp2_with (fail)
  refine bodyPost_end (results_none rfl _ _ _) rfl ?_
  exact ⟨rfl, HS.out⟩
/-- One margin: widened by the next share where it is auto. -/
theorem iwidM (ab : Bool) (w0 : World) (lb n cap p5 : Nat) (ys : List It) (gs gs' : List Int) (w : World) (i j : Nat) (x' : It) (h : WdS w0 lb n cap p5 ys gs w) (hi : i < ys.length) (hj : j < 9)
    (hy : ab = true → ∃ g m, gs = g :: gs' ∧ (itD ys i).L[j]? = some (.int .i64 m) ∧ -9223372036854775808 ≤ m + g ∧ m + g ≤ 9223372036854775807 ∧ x'.L = (itD ys i).L.set j (.int .i64 (m + g)))
    (hn : ab = false → gs' = gs ∧ x' = itD ys i) :
    Calls Try.prog 88 #[.pointer (some ⟨lb, i * 9 + j, none⟩), .bool ab, .pointer (some ⟨p5, 0, none⟩)] w fun e w' => e = .returned (.tuple #[]) ∧ WdS w0 lb n cap p5 (ys.set i x') gs' w' := by
  cases ab with
  | true =>
    obtain ⟨g, m, rfl, hm, h0, h1, e⟩ := hy rfl
    exact iwid_yes w0 lb n cap p5 ys g gs' w i j m x' h hi hj hm h0 h1 e
  | false =>
    obtain ⟨rfl, rfl⟩ := hn rfl
    refine (iwid_no _ p5 w).mono ?_
    rintro e w' ⟨rfl, rfl⟩
    refine ⟨rfl, ?_⟩
    rw [show ys.set i (itD ys i) = ys from by
      apply List.ext_getElem?
      intro q
      by_cases hq : i = q
      · subst hq; rw [List.getElem?_set_self hi, itD_eq hi]
      · rw [List.getElem?_set_ne hq]]
    exact h
theorem itD_set {xs : List It} {i : Nat} (h : i < xs.length) (x : It) : itD (xs.set i x) i = x := by
  unfold itD
  rw [List.getD_eq_getElem?_getD, List.getElem?_set_self h]; rfl
/-- The item with its first margin widened. -/
def wd1 (xs : List It) (G : List Int) (k : Nat) : It := { itD xs k with before := (itD xs k).before + (if (itD xs k).ab = true then G.getD (auN xs k) 0 else 0) }
def au1 (xs : List It) (k : Nat) : Nat := auN xs k + (if (itD xs k).ab = true then 1 else 0)
theorem au1_next (xs : List It) (k : Nat) : auN xs (k + 1) = au1 xs k + (if (itD xs k).ah = true then 1 else 0) := by
  rw [auN_next]; unfold au1; omega
theorem drop_next {G : List Int} {k : Nat} (h : k < G.length) : G.drop k = G.getD k 0 :: G.drop (k + 1) := by
  rw [List.drop_eq_getElem_cons h, List.getD_eq_getElem?_getD, List.getElem?_eq_getElem h]; rfl
theorem wd1_yes {xs ys : List It} {G : List Int} {k : Nat} (hy : itD ys k = itD xs k) (hg : auN xs (k + 1) ≤ G.length) (hb : ∀ j, -1048577 ≤ G.getD j 0 ∧ G.getD j 0 ≤ 1048577) (hm : -1048576 ≤ (itD xs k).before ∧ (itD xs k).before ≤ 1048576) (h : (itD xs k).ab = true) :
    ∃ g m, G.drop (auN xs k) = g :: G.drop (au1 xs k) ∧ (itD ys k).L[5]? = some (.int .i64 m) ∧ -9223372036854775808 ≤ m + g ∧ m + g ≤ 9223372036854775807 ∧ (wd1 xs G k).L = (itD ys k).L.set 5 (.int .i64 (m + g)) := by
  have e : au1 xs k = auN xs k + 1 := by unfold au1; rw [if_pos h]
  have e2 := au1_next xs k
  rw [e] at e2 ⊢
  have := hb (auN xs k)
  refine ⟨_, (itD xs k).before, drop_next (by omega), by rw [hy]; rfl, by omega, by omega, ?_⟩
  rw [hy]
  unfold wd1
  rw [if_pos h]
  rfl
theorem wd1_no {xs ys : List It} {G : List Int} {k : Nat} (hy : itD ys k = itD xs k) (h : (itD xs k).ab = false) : G.drop (au1 xs k) = G.drop (auN xs k) ∧ wd1 xs G k = itD ys k := by
  rw [hy]
  unfold wd1 au1
  rw [if_neg (by rw [h]; decide), if_neg (by rw [h]; decide), Int.add_zero]
  exact ⟨rfl, rfl⟩
theorem wd2_yes {xs ys : List It} {G : List Int} {k : Nat} (hk : k < ys.length) (hg : auN xs (k + 1) ≤ G.length) (hb : ∀ j, -1048577 ≤ G.getD j 0 ∧ G.getD j 0 ≤ 1048577) (hm : -1048576 ≤ (itD xs k).behind ∧ (itD xs k).behind ≤ 1048576) (h : (itD xs k).ah = true) :
    ∃ g m, G.drop (au1 xs k) = g :: G.drop (auN xs (k + 1)) ∧ (itD (ys.set k (wd1 xs G k)) k).L[6]? = some (.int .i64 m) ∧ -9223372036854775808 ≤ m + g ∧ m + g ≤ 9223372036854775807 ∧ (wdI xs G k).L = (itD (ys.set k (wd1 xs G k)) k).L.set 6 (.int .i64 (m + g)) := by
  have e2 := au1_next xs k
  rw [if_pos h] at e2
  rw [e2, itD_set hk]
  have := hb (au1 xs k)
  refine ⟨_, (itD xs k).behind, drop_next (by omega), rfl, by omega, by omega, ?_⟩
  unfold wdI wd1 au1
  rw [if_pos h]
  rfl
theorem wd2_no {xs ys : List It} {G : List Int} {k : Nat} (hk : k < ys.length) (h : (itD xs k).ah = false) : G.drop (auN xs (k + 1)) = G.drop (au1 xs k) ∧ wdI xs G k = itD (ys.set k (wd1 xs G k)) k := by
  have e2 := au1_next xs k
  rw [if_neg (by rw [h]; decide), Nat.add_zero] at e2
  rw [e2, itD_set hk]
  unfold wdI wd1
  rw [if_neg (show ¬ (itD xs k).ah = true by rw [h]; decide), Int.add_zero]
  exact ⟨rfl, rfl⟩
theorem wd_take {xs : List It} {G : List Int} {k : Nat} (h : k < xs.length) : ((wdL xs G).take k ++ xs.drop k).set k (wdI xs G k) = (wdL xs G).take (k + 1) ++ xs.drop (k + 1) := by
  have hl : ((wdL xs G).take k).length = k := by rw [List.length_take, wdL_len]; omega
  have h2 : k < (wdL xs G).length := by rw [wdL_len]; exact h
  rw [List.set_append_right _ _ (by omega), hl, Nat.sub_self, List.drop_eq_getElem_cons h, List.set_cons_zero, List.take_add_one, List.getElem?_eq_getElem h2]
  have e : (wdL xs G)[k] = wdI xs G k := by simp [wdL]
  rw [e, List.append_assoc]
  rfl
theorem wd_cur {xs : List It} {G : List Int} {k : Nat} (h : k < xs.length) : itD ((wdL xs G).take k ++ xs.drop k) k = itD xs k := by
  unfold itD
  rw [List.getD_eq_getElem?_getD, List.getD_eq_getElem?_getD, List.getElem?_append_right (by rw [List.length_take]; omega), List.length_take, wdL_len, List.getElem?_drop, show k + (k - min k xs.length) = k by omega]
theorem wd_lenK (xs : List It) (G : List Int) {k : Nat} (h : k ≤ xs.length) : ((wdL xs G).take k ++ xs.drop k).length = xs.length := by
  rw [List.length_append, List.length_take, wdL_len, List.length_drop]; omega
theorem row_capI {b : Nat} {v : Value} {xs : List Int} {w : World} (h : RowI b v xs w) : ∀ a n c, v = .slice a n c → xs.length ≤ c := by
  intro a n c e
  rcases h.2 with ⟨h1, h2⟩ | ⟨g, cap, cur, h1, _, _, h3, _⟩
  · have h2' : xs.length = 0 := h2
    omega
  · rw [h1] at e
    injection e with _ e2 e3
    omega
theorem row_ptr {b n c b' o : Nat} {q : Option Nat} {xs : List Int} {w : World} (h : RowI b (.slice (some ⟨b', o, q⟩) n c) xs w) : b' < w.heap.size := by
  rcases h.2 with ⟨h1, h2⟩ | ⟨g, cap, cur, h1, _, h2, _⟩
  · cases h1
  · obtain ⟨rfl, rfl, rfl⟩ : b' = g ∧ o = 0 ∧ q = none := by injection h1 with e1 _ _; injection e1 with e1; injection e1 with e1 e2 e3; exact ⟨e1, e2, e3⟩
    exact (World.ownsRow.lt h b' rfl).2
theorem row_some {lo : Nat} {v : Value} {xs : List It} {w : World} (h : RowT lo v xs w) (hx : 0 < xs.length) : ∃ lb lc, v = .slice (some ⟨lb, 0, none⟩) xs.length lc ∧ lo ≤ lb := by
  rcases h.2 with ⟨h1, h2⟩ | ⟨g, cap, cur, h1, h3, _⟩
  · have h2' : xs.length = 0 := h2
    omega
  · exact ⟨g, cap, h1, h3⟩
def WdRel (w0 : World) (lb cap p5 : Nat) (xs : List It) (G : List Int) (i : Value) (wr : World) : Prop :=
  ∃ k : Nat, k ≤ xs.length ∧ i = .int .i64 k ∧ WdS w0 lb xs.length cap p5 ((wdL xs G).take k ++ xs.drop k) (G.drop (auN xs k)) wr
set_option maxHeartbeats 4000000 in
theorem iwithautos (a : Option Addr) (cap : Nat) (xs : List It) (free : Int) (w : World) (hz : Its w a xs) (hl : xs.length ≤ 12) (hau : 0 < auN xs xs.length) (hmg : ∀ j, (-1048576 ≤ (itD xs j).before ∧ (itD xs j).before ≤ 1048576) ∧ (-1048576 ≤ (itD xs j).behind ∧ (itD xs j).behind ≤ 1048576)) :
    Calls Try.prog 75 #[.slice a xs.length cap, .int .i64 free] w (OutPostT (wxV xs free) w) := by
  have HZ := Lib.hid hz
  have HMG := Lib.hid hmg
  have KA := Lib.hid (iautos a cap xs w hz (by omega))
  have hG : wxV xs free = wdL xs (evnL (if free < 0 then 0 else free) (auN xs xs.length)) := rfl
  rw [hG]
  obtain ⟨F, eF⟩ : ∃ F : Int, F = if free < 0 then 0 else free := ⟨_, rfl⟩
  rw [← eF]
  have KE := Lib.hid (fun w' => iev_any F (auN xs xs.length : Int) w')
  have hle := auN_le xs xs.length
  have hlen : (evnL F (auN xs xs.length)).length = auN xs xs.length := evn_len (by omega)
  have hbd := evn_bd F (auN xs xs.length)
  have hall := evn_all F (auN xs xs.length)
  obtain ⟨G, eG⟩ : ∃ G, G = evnL F (auN xs xs.length) := ⟨_, rfl⟩
  rw [← eG] at hlen hbd hall ⊢
  have EG := Lib.hid eG
  have HBD := Lib.hid hbd
  have HALL := Lib.hid hall
  have HLEN := Lib.hid hlen
  clear hz hmg hG eG hbd hall hlen
  by_cases hq : 0 ≤ free
  · obtain rfl : F = free := by rw [eF, if_neg (by omega)]
    clear eF
    go_enter Try.func75, Try.ntmps75
    go_wp2_with (fail)
    refine KA.out.mono ?_
    rintro e w1 ⟨rfl, b1⟩
    have B1 := Lib.hid b1
    clear b1 KA
    (try dsimp only)
    go_wp2_with (fail)
    refine (KE.out w1).mono ?_
    rintro e w2 ⟨v, rfl, r2, b2⟩
    rw [← EG.out] at r2
    obtain ⟨sa, sc, rfl, hin⟩ := r2.slice HALL.out
    have hcap : G.length ≤ sc := row_capI r2 _ _ _ rfl
    have B2 := B1.out.trans (b2.mono B1.out.size)
    have hsab : ∀ b o q, sa = some ⟨b, o, q⟩ → b < w2.heap.size := fun b o q e => by subst e; exact row_ptr r2
    have bn : Below w2.heap.size w2 (w2.alloc (.cells #[.slice sa G.length sc] 24)) := (Below.refl _ _).alloc (Nat.le_refl _) _
    have hp := hp_new w2 (.cells #[.slice sa G.length sc] 24)
    have hinv := hin.below bn
    obtain ⟨v, ev⟩ : ∃ v, v = w2.alloc (.cells #[.slice sa G.length sc] 24) := ⟨_, rfl⟩
    have hvs : v.heap.size = w2.heap.size + 1 := by rw [ev]; simp
    rw [← ev] at bn hp hinv
    have EV := Lib.hid ev
    have BV := Lib.hid (B2.trans (bn.mono B2.size))
    have HP := Lib.hid hp
    have HIN := Lib.hid hinv
    have HSA := Lib.hid hsab
    have hle2 := B2.size
    clear ev bn hp hinv hin r2 b2 B2 hsab KE
    (try dsimp only)
    go_wp2_with (rw [← EV.out])
    refine (iclone_t a cap xs v (HZ.out.below BV.out) (by omega)).mono ?_
    rintro e w3 ⟨lv, rfl, r3, b3⟩
    obtain ⟨lb, lc, rfl, hlb⟩ := row_some r3 (by
      rcases Nat.eq_zero_or_pos xs.length with h | h
      · rw [h] at hau; exact absurd hau (Nat.lt_irrefl _)
      · exact h)
    have HW := Lib.hid (show WdS w lb xs.length lc w2.heap.size ((wdL xs G).take 0 ++ xs.drop 0) (G.drop (auN xs 0)) w3 from
      ⟨r3.lower (by omega), ⟨sa, sc, hp_below HP.out b3, hcap, HIN.out.below b3, HSA.out⟩, BV.out.trans (b3.mono BV.out.size), by omega, hle2⟩)
    clear r3 b3
    (try dsimp only)
    go_wp2_with (fail)
    go_loopw [18] (WdRel w lb lc w2.heap.size xs G) (fun i _ => xs.length - (intOf i).toNat)
    case atStart => exact ⟨0, Nat.zero_le _, rfl, HW.out⟩
    case round =>
      clear HW
      obtain ⟨k, hk, rfl, hw⟩ := hrel
      by_cases hlt : k < xs.length
      · have hlo : (0 : Int) ≤ (k : Int) := Int.natCast_nonneg _
        have hhi : (k : Int) < (xs.length : Int) := by omega
        have HW2 := Lib.hid hw
        have HNX := Lib.hid (wd_take (G := G) hlt)
        have hcur := wd_cur (G := G) hlt
        have hln : k < ((wdL xs G).take k ++ xs.drop k).length := by rw [wd_lenK xs G hk]; exact hlt
        have hau2 : auN xs (k + 1) ≤ G.length := by rw [HLEN.out]; exact auN_mono xs hlt
        have HY1 := Lib.hid (fun (h : (itD xs k).ab = true) => wd1_yes (ys := (wdL xs G).take k ++ xs.drop k) hcur hau2 HBD.out (HMG.out k).1 h)
        have HN1 := Lib.hid (fun (h : (itD xs k).ab = false) => wd1_no (ys := (wdL xs G).take k ++ xs.drop k) (G := G) hcur h)
        have HY2 := Lib.hid (fun (h : (itD xs k).ah = true) => wd2_yes (ys := (wdL xs G).take k ++ xs.drop k) hln hau2 HBD.out (HMG.out k).2 h)
        have HN2 := Lib.hid (fun (h : (itD xs k).ah = false) => wd2_no (ys := (wdL xs G).take k ++ xs.drop k) (G := G) hln h)
        obtain ⟨Y, eY⟩ : ∃ Y, Y = (wdL xs G).take k ++ xs.drop k := ⟨_, rfl⟩
        rw [← eY] at HW2 HNX HY1 HN1 HY2 HN2 hcur hln
        have HCUR := Lib.hid hcur
        have hl2 : k < (Y.set k (wd1 xs G k)).length := by rw [List.length_set]; exact hln
        clear hw eY hcur
        go_wp2_with (fail)
        refine region_tail 10 (by kernel_rfl) (by kernel_rfl) ?_
        intro w4 e4
        have H4 := Lib.hid (HW2.out.below (show Below wr.heap.size wr w4 from e4 ▸ (Below.refl _ _).drew))
        clear e4
        have c7 := H4.out.row.fld hln (show 7 < 9 by decide)
        rw [HCUR.out] at c7
        replace c7 : w4.cell? ⟨lb, k * 9 + 7, none⟩ = some (.bool (itD xs k).ab) := c7
        have K1 := Lib.hid (iwidM (itD xs k).ab w lb xs.length lc w2.heap.size Y _ _ w4 k 5 (wd1 xs G k) H4.out hln (by decide) HY1.out HN1.out)
        simp only [List.take_succ_cons, List.take_zero, List.drop_succ_cons, List.drop_zero]
        repeat (first | still_step)
        refine wpStill_nil ?_
        (try dsimp only)
        clear c7
        go_wp2_with (fail)
        refine K1.out.mono ?_
        rintro e w5 ⟨rfl, h5⟩
        have H5 := Lib.hid h5
        clear h5 K1 H4
        (try dsimp only)
        go_wp2_with (fail)
        refine region_tail 10 (by kernel_rfl) (by kernel_rfl) ?_
        intro w6 e6
        have H6 := Lib.hid (H5.out.below (show Below w5.heap.size w5 w6 from e6 ▸ (Below.refl _ _).drew))
        clear e6
        have c8 := H6.out.row.fld hl2 (show 8 < 9 by decide)
        rw [itD_set hln] at c8
        replace c8 : w6.cell? ⟨lb, k * 9 + 8, none⟩ = some (.bool (itD xs k).ah) := c8
        have K2 := Lib.hid (iwidM (itD xs k).ah w lb xs.length lc w2.heap.size (Y.set k (wd1 xs G k)) _ _ w6 k 6 (wdI xs G k) H6.out hl2 (by decide) HY2.out HN2.out)
        simp only [List.take_succ_cons, List.take_zero, List.drop_succ_cons, List.drop_zero]
        repeat (first | still_step)
        refine wpStill_nil ?_
        (try dsimp only)
        clear c8
        go_wp2_with (fail)
        refine K2.out.mono ?_
        rintro e w7 ⟨rfl, h7⟩
        rw [List.set_set, HNX.out] at h7
        have H7 := Lib.hid h7
        clear h7 K2 H6 H5
        (try dsimp only)
        go_wp2
        go_roundw
        case rel => exact ⟨k + 1, by omega, by go_num, H7.out⟩
        case measure => simp [intOf]; omega
      · obtain rfl : k = xs.length := by omega
        rw [List.take_of_length_le (by rw [wdL_len]; omega), List.drop_of_length_le (Nat.le_refl _), List.append_nil] at hw
        have HW2 := Lib.hid hw
        clear hw
        go_wp2
        go_ret
        exact ⟨_, rfl, HW2.out.row, HW2.out.hb⟩
  · obtain rfl : F = 0 := by rw [eF, if_pos (by omega)]
    clear eF
    go_enter Try.func75, Try.ntmps75
    go_wp2_with (fail)
    refine KA.out.mono ?_
    rintro e w1 ⟨rfl, b1⟩
    have B1 := Lib.hid b1
    clear b1 KA
    (try dsimp only)
    go_wp2_with (fail)
    refine (KE.out w1).mono ?_
    rintro e w2 ⟨v, rfl, r2, b2⟩
    rw [← EG.out] at r2
    obtain ⟨sa, sc, rfl, hin⟩ := r2.slice HALL.out
    have hcap : G.length ≤ sc := row_capI r2 _ _ _ rfl
    have B2 := B1.out.trans (b2.mono B1.out.size)
    have hsab : ∀ b o q, sa = some ⟨b, o, q⟩ → b < w2.heap.size := fun b o q e => by subst e; exact row_ptr r2
    have bn : Below w2.heap.size w2 (w2.alloc (.cells #[.slice sa G.length sc] 24)) := (Below.refl _ _).alloc (Nat.le_refl _) _
    have hp := hp_new w2 (.cells #[.slice sa G.length sc] 24)
    have hinv := hin.below bn
    obtain ⟨v, ev⟩ : ∃ v, v = w2.alloc (.cells #[.slice sa G.length sc] 24) := ⟨_, rfl⟩
    have hvs : v.heap.size = w2.heap.size + 1 := by rw [ev]; simp
    rw [← ev] at bn hp hinv
    have EV := Lib.hid ev
    have BV := Lib.hid (B2.trans (bn.mono B2.size))
    have HP := Lib.hid hp
    have HIN := Lib.hid hinv
    have HSA := Lib.hid hsab
    have hle2 := B2.size
    clear ev bn hp hinv hin r2 b2 B2 hsab KE
    (try dsimp only)
    go_wp2_with (rw [← EV.out])
    refine (iclone_t a cap xs v (HZ.out.below BV.out) (by omega)).mono ?_
    rintro e w3 ⟨lv, rfl, r3, b3⟩
    obtain ⟨lb, lc, rfl, hlb⟩ := row_some r3 (by
      rcases Nat.eq_zero_or_pos xs.length with h | h
      · rw [h] at hau; exact absurd hau (Nat.lt_irrefl _)
      · exact h)
    have HW := Lib.hid (show WdS w lb xs.length lc w2.heap.size ((wdL xs G).take 0 ++ xs.drop 0) (G.drop (auN xs 0)) w3 from
      ⟨r3.lower (by omega), ⟨sa, sc, hp_below HP.out b3, hcap, HIN.out.below b3, HSA.out⟩, BV.out.trans (b3.mono BV.out.size), by omega, hle2⟩)
    clear r3 b3
    (try dsimp only)
    go_wp2_with (fail)
    go_loopw [18] (WdRel w lb lc w2.heap.size xs G) (fun i _ => xs.length - (intOf i).toNat)
    case atStart => exact ⟨0, Nat.zero_le _, rfl, HW.out⟩
    case round =>
      clear HW
      obtain ⟨k, hk, rfl, hw⟩ := hrel
      by_cases hlt : k < xs.length
      · have hlo : (0 : Int) ≤ (k : Int) := Int.natCast_nonneg _
        have hhi : (k : Int) < (xs.length : Int) := by omega
        have HW2 := Lib.hid hw
        have HNX := Lib.hid (wd_take (G := G) hlt)
        have hcur := wd_cur (G := G) hlt
        have hln : k < ((wdL xs G).take k ++ xs.drop k).length := by rw [wd_lenK xs G hk]; exact hlt
        have hau2 : auN xs (k + 1) ≤ G.length := by rw [HLEN.out]; exact auN_mono xs hlt
        have HY1 := Lib.hid (fun (h : (itD xs k).ab = true) => wd1_yes (ys := (wdL xs G).take k ++ xs.drop k) hcur hau2 HBD.out (HMG.out k).1 h)
        have HN1 := Lib.hid (fun (h : (itD xs k).ab = false) => wd1_no (ys := (wdL xs G).take k ++ xs.drop k) (G := G) hcur h)
        have HY2 := Lib.hid (fun (h : (itD xs k).ah = true) => wd2_yes (ys := (wdL xs G).take k ++ xs.drop k) hln hau2 HBD.out (HMG.out k).2 h)
        have HN2 := Lib.hid (fun (h : (itD xs k).ah = false) => wd2_no (ys := (wdL xs G).take k ++ xs.drop k) (G := G) hln h)
        obtain ⟨Y, eY⟩ : ∃ Y, Y = (wdL xs G).take k ++ xs.drop k := ⟨_, rfl⟩
        rw [← eY] at HW2 HNX HY1 HN1 HY2 HN2 hcur hln
        have HCUR := Lib.hid hcur
        have hl2 : k < (Y.set k (wd1 xs G k)).length := by rw [List.length_set]; exact hln
        clear hw eY hcur
        go_wp2_with (fail)
        refine region_tail 10 (by kernel_rfl) (by kernel_rfl) ?_
        intro w4 e4
        have H4 := Lib.hid (HW2.out.below (show Below wr.heap.size wr w4 from e4 ▸ (Below.refl _ _).drew))
        clear e4
        have c7 := H4.out.row.fld hln (show 7 < 9 by decide)
        rw [HCUR.out] at c7
        replace c7 : w4.cell? ⟨lb, k * 9 + 7, none⟩ = some (.bool (itD xs k).ab) := c7
        have K1 := Lib.hid (iwidM (itD xs k).ab w lb xs.length lc w2.heap.size Y _ _ w4 k 5 (wd1 xs G k) H4.out hln (by decide) HY1.out HN1.out)
        simp only [List.take_succ_cons, List.take_zero, List.drop_succ_cons, List.drop_zero]
        repeat (first | still_step)
        refine wpStill_nil ?_
        (try dsimp only)
        clear c7
        go_wp2_with (fail)
        refine K1.out.mono ?_
        rintro e w5 ⟨rfl, h5⟩
        have H5 := Lib.hid h5
        clear h5 K1 H4
        (try dsimp only)
        go_wp2_with (fail)
        refine region_tail 10 (by kernel_rfl) (by kernel_rfl) ?_
        intro w6 e6
        have H6 := Lib.hid (H5.out.below (show Below w5.heap.size w5 w6 from e6 ▸ (Below.refl _ _).drew))
        clear e6
        have c8 := H6.out.row.fld hl2 (show 8 < 9 by decide)
        rw [itD_set hln] at c8
        replace c8 : w6.cell? ⟨lb, k * 9 + 8, none⟩ = some (.bool (itD xs k).ah) := c8
        have K2 := Lib.hid (iwidM (itD xs k).ah w lb xs.length lc w2.heap.size (Y.set k (wd1 xs G k)) _ _ w6 k 6 (wdI xs G k) H6.out hl2 (by decide) HY2.out HN2.out)
        simp only [List.take_succ_cons, List.take_zero, List.drop_succ_cons, List.drop_zero]
        repeat (first | still_step)
        refine wpStill_nil ?_
        (try dsimp only)
        clear c8
        go_wp2_with (fail)
        refine K2.out.mono ?_
        rintro e w7 ⟨rfl, h7⟩
        rw [List.set_set, HNX.out] at h7
        have H7 := Lib.hid h7
        clear h7 K2 H6 H5
        (try dsimp only)
        go_wp2
        go_roundw
        case rel => exact ⟨k + 1, by omega, by go_num, H7.out⟩
        case measure => simp [intOf]; omega
      · obtain rfl : k = xs.length := by omega
        rw [List.take_of_length_le (by rw [wdL_len]; omega), List.drop_of_length_le (Nat.le_refl _), List.append_nil] at hw
        have HW2 := Lib.hid hw
        clear hw
        go_wp2
        go_ret
        exact ⟨_, rfl, HW2.out.row, HW2.out.hb⟩
end Go.Proofs.Ytnncdpkmhpjmbaa
end

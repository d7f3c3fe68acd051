import Derived.Test.YtckpjldenkjddaaZtAE
import Derived.Test.YtckpjldenkjddaaZtBH
import Derived.Test.YtckpjldenkjddaaZtBI
import Derived.Test.YtckpjldenkjddaaZtBU
import Derived.Test.YtckpjldenkjddaaZtBV
section
namespace Go.Proofs.Ytckpjldenkjddaa
open Go.ChangeShapes Go.WideShapes Go.ChangeAt Go.RowKit
set_option linter.unusedVariables false
set_option linter.unusedSimpArgs false
set_option maxRecDepth 8000

theorem results_tiii {fn : Func} {p q r s : Tmp} {b c d v : Value} {g : Nat} {w : World} (h : fn.results = #[.cell p 26, .tmp q, .tmp r, .tmp s]) {tmps : Array Value} (hp : tmps.getD p undef = .pointer (some ⟨g, 0, none⟩)) (hq : tmps.getD q undef = b) (hr : tmps.getD r undef = c) (hs : tmps.getD s undef = d)
    (hc : w.cell? ⟨g, 0, none⟩ = some v) : (results fn tmps).run Try.prog w = .ok (.tuple #[.agg #[v], b, c, d]) w := by
  have hl := load_tr hc
  have hp' : tmps[p]?.getD undef = .pointer (some ⟨g, 0, none⟩) := by simpa using hp
  have hq' : tmps[q]?.getD undef = b := by simpa using hq
  have hr' : tmps[r]?.getD undef = c := by simpa using hr
  have hs' : tmps[s]?.getD undef = d := by simpa using hs
  simp [results, h, hp', hq', hr', hs', asAddr, hl]
theorem ad_sz4 {ns : List PN} {f : Nat → Int} (h : szS ns ≤ 4000) : szS (adN ns f) ≤ 8000 := by
  unfold adN
  split
  · unfold szS szL at *
    rw [List.length_append, List.map_append, List.sum_append]
    simp [newN, szK]
    omega
  · omega
def TiDraw (w : World) (e : Ending) (w' : World) : Prop :=
  ∃ (va : Option Addr) (vc : Nat) (ms : List ND) (n kid at3 : Int), e = .returned (.tuple #[.agg #[.slice va ms.length vc], .int .i64 n, .int .i64 kid, .int .i64 at3]) ∧ OwnN w.heap.size (.slice va ms.length vc) ms w' ∧ 1 ≤ ms.length ∧ szS (ms.map ND.n) ≤ 8000 ∧ I64 n ∧ I64 kid ∧ I64 at3 ∧ Below w.heap.size w w'
set_option maxHeartbeats 2000000 in
theorem draw_insertkid (a : Option Addr) (len cap : Nat) (w : World) (hl : len ≤ 1048576) (hc : Code w a len) :
    Calls Try.prog 13 #[.slice a len cap] w (TiDraw w) := by
  have hap := fun h0 => code_lt hc h0
  have h0 := hp_new w (.cells #[.slice none 0 0] 26)
  have bb := Go.Joins.below_alloc1 w (.cells #[.slice none 0 0] 26)
  obtain ⟨u, eu⟩ : ∃ u, u = w.alloc (.cells #[.slice none 0 0] 26) := ⟨_, rfl⟩
  rw [← eu] at h0 bb
  have EU := Lib.hid eu
  have HAP := Lib.hid (show 0 < len → ∀ b off, a = some ⟨b, off, none⟩ → b < w.heap.size from hap)
  have hc0 := hc.below bb
  have hus : w.heap.size < u.heap.size := by rw [eu]; simp
  clear eu hap hc
  go_enter Try.func13, Try.ntmps13
  go_wp2_with (rw [← EU.out])
  refine (new_cur a len cap u hl hc0).mono ?_
  rintro e w1 ⟨rfl, c1, b1, s1⟩
  have h1 := hp_below h0 b1
  have B1 := bb.trans (b1.mono (by omega))
  generalize u.heap.size = cb at *
  clear h0 bb b1 hc0
  (try dsimp only)
  go_wp2_with (fail)
  refine (l10any_any cb a len cap w1 s1 (fun h b off e => by have := HAP.out h b off e; have := B1.size; omega) c1).mono ?_
  rintro e w2 ⟨va, vc, ms, rfl, ho, hm1, hm2, hs, c2, g2⟩
  have h2 := hp_grown' h1 g2 (by simp; omega)
  have B2 := below_curT B1 B1.size g2 (by omega)
  have l2 : cb < w2.heap.size := by have := g2.size; omega
  have hrl : cb < w1.heap.size := s1
  have hw12 : w1.heap.size ≤ w2.heap.size := g2.size
  clear h1 B1 g2 c1
  have g3 := World.grownBy_alloc w2 (.cells #[.slice va ms.length vc] 26) none
  have c3 : Cur cb a len cap (w2.alloc (.cells #[.slice va ms.length vc] 26)) := c2.kept l2 g3 (fun k hk => by cases hk)
  have hr := hp_on h2 (.cells #[.slice va ms.length vc] 26)
  have ht := hp_new w2 (.cells #[.slice va ms.length vc] 26)
  have ho3 := ho.below (bel_alloc w2 (.cells #[.slice va ms.length vc] 26))
  have B3 := B2.trans ((bel_alloc w2 (.cells #[.slice va ms.length vc] 26)).mono B2.size)
  obtain ⟨w3, e3⟩ : ∃ q, q = w2.alloc (.cells #[.slice va ms.length vc] 26) := ⟨_, rfl⟩
  rw [← e3] at g3 c3 hr ht ho3 B3
  have E3 := Lib.hid e3
  have l3 : w2.heap.size < w3.heap.size := hp_lt ht
  clear e3 h2 B2 ho c2 g3
  have z3 := c_of ht
  (try dsimp only)
  go_wp2_with (rw [← E3.out])
  refine (l10at_any va vc ms.length cb a len cap w3 hm1 (by omega) (by omega) (fun h b off e => by have h1 := HAP.out h b off e; have h2 := B3.size; omega) c3).mono ?_
  rintro e w4 ⟨n, rfl, p0, p1, c4, g4⟩
  replace ht := hp_grown' ht g4 (by simp; omega)
  replace hr := hp_grown' hr g4 (by simp; omega)
  replace ho3 := ho3.kept (w' := w4) ⟨g4.size, fun k h1 h2 => g4.block k h2 (by simp; omega)⟩
  replace B3 := below_curT B3 B3.size g4 (by omega)
  replace l3 := Nat.lt_of_lt_of_le l3 g4.size
  clear z3 c3 g4
  have z4 := c_of ht
  (try dsimp only)
  go_wp2_with (fail)
  refine (l10at_any va vc ms.length cb a len cap w4 hm1 (by omega) (by omega) (fun h b off e => by have h1 := HAP.out h b off e; have h2 := B3.size; omega) c4).mono ?_
  rintro e w5 ⟨kid, rfl, n0, n1, c5, g5⟩
  replace ht := hp_grown' ht g5 (by simp; omega)
  replace hr := hp_grown' hr g5 (by simp; omega)
  replace ho3 := ho3.kept (w' := w5) ⟨g5.size, fun k h1 h2 => g5.block k h2 (by simp; omega)⟩
  replace B3 := below_curT B3 B3.size g5 (by omega)
  replace l3 := Nat.lt_of_lt_of_le l3 g5.size
  clear z4 c4 g5
  have z5 := c_of ht
  (try dsimp only)
  go_wp2_with (fail)
  refine (once_any 2 cb a len cap w5 (by omega) (by omega) c5).mono ?_
  rintro e w7 ⟨t, rfl, c7, g7⟩
  replace ht := hp_grown' ht g7 (by simp; omega)
  replace hr := hp_grown' hr g7 (by simp; omega)
  replace ho3 := ho3.kept (w' := w7) ⟨g7.size, fun k h1 h2 => g7.block k h2 (by simp; omega)⟩
  replace B3 := below_curT B3 B3.size g7 (by omega)
  replace l3 := Nat.lt_of_lt_of_le l3 g7.size
  clear c5 g7 z5
  cases t with
  | false =>
    (try dsimp only)
    go_wp2_with (fail)
    have hd4 : Cur cb a len cap w7.drew := c7.kept (show cb < w7.heap.size by omega) (row := none) ⟨rfl, rfl, rfl, Nat.le_refl _, fun _ _ _ => rfl⟩ (fun k hk => by cases hk)
    have hd5 : w7.drew.heap[w.heap.size]? = some (.cells #[.slice none 0 0] 26) := hr
    have hdo : OwnN w1.heap.size (.slice va ms.length vc) ms w7.drew := ho3.kept (w' := w7.drew) ⟨Nat.le_refl _, fun k h1 h2 => rfl⟩
    have hdB : Below w.heap.size w w7.drew := B3.drew
    have hds : w2.heap.size < w7.drew.heap.size := l3
    have hdt : HpAt w2.heap.size (.cells #[.slice va ms.length vc] 26) w7.drew := ht
    refine wp_region_held_drew (S := HpAt w2.heap.size (.cells #[.slice va ms.length vc] 26)) (by kernel_rfl) hdt (fun HS0 => ?_)
    have HS := hdt
    clear HS0 hdt c7 hr ho3 B3 ht l3
    generalize w7.drew = d3 at *
    refine wpAnyH_take (i := 0) (oi := ⟨some 29, Op.load 26 (Operand.tmp 7), _, _, _, _⟩) (v := .agg #[.slice va ms.length vc]) rfl (by kernel_rfl) (by kernel_rfl) (by kernel_rfl) (fun _ _ _ h => h) (yields_row rfl rfl rfl tr_under (tr_size _) (fun w' hw' => hw')) HS ?_
    simp only [World.size_alloc, Act.put, List.setIfInBounds_toArray, List.set_cons_succ, List.set_cons_zero]
    refine wpAnyH_take (i := 1) (oi := ⟨some 30, Op.move (Operand.tmp 8), _, _, _, _⟩) (v := .int .i64 n) rfl (by kernel_rfl) (by kernel_rfl) (by kernel_rfl) (fun _ _ _ h => h) (Or.inl ⟨by rfl, fun W hW => by rfl⟩) HS ?_
    simp only [World.size_alloc, Act.put, List.setIfInBounds_toArray, List.set_cons_succ, List.set_cons_zero]
    refine wpAnyH_take (i := 2) (oi := ⟨some 31, Op.move (Operand.tmp 9), _, _, _, _⟩) (v := .int .i64 kid) rfl (by kernel_rfl) (by kernel_rfl) (by kernel_rfl) (fun _ _ _ h => h) (Or.inl ⟨by rfl, fun W hW => by rfl⟩) HS ?_
    simp only [World.size_alloc, Act.put, List.setIfInBounds_toArray, List.set_cons_succ, List.set_cons_zero]
    refine wpAnyH_take (i := 3) (oi := ⟨some 32, Op.move (Operand.tmp 6), _, _, _, _⟩) (v := .pointer (some ⟨cb, 0, none⟩)) rfl (by kernel_rfl) (by kernel_rfl) (by kernel_rfl) (fun _ _ _ h => h) (Or.inl ⟨by rfl, fun W hW => by rfl⟩) HS ?_
    simp only [World.size_alloc, Act.put, List.setIfInBounds_toArray, List.set_cons_succ, List.set_cons_zero]
    refine anyH_1 4 rfl (by kernel_rfl) rfl ?_
    go_wp2_with (fail)
    refine ⟨hp_on HS _, ?_⟩
    (try simp only [World.size_alloc, Act.put, List.setIfInBounds_toArray, List.set_cons_succ, List.set_cons_zero])
    refine anyH_1 5 rfl (by kernel_rfl) rfl ?_
    go_wp2_with (fail)
    refine (pick_r (-1) 99 (by decide) (by decide) [0, 0, 1, 2, -1, 99] 6 rfl (by omega) (by omega) (by intro z hz; simp at hz; omega) cb a len cap d3 (by omega) hd4).mono ?_
    rintro e e2 ⟨at3, rfl, t0, t1, c6, g6⟩
    (try dsimp only)
    have h5 := hp_grown' hd5 g6 (by simp; omega)
    have hS2 : HpAt w2.heap.size (.cells #[.slice va ms.length vc] 26) e2 := hp_grown' HS g6 (by simp; omega)
    have ho5 := hdo.kept (w' := e2) ⟨g6.size, fun k h1 h2 => g6.block k h2 (by simp; omega)⟩
    have B5 := below_curT hdB hdB.size g6 (by omega)
    have sz6 := Nat.lt_of_lt_of_le hds g6.size
    clear g6 c6 HS hd4 hd5 hdo hdB
    refine ⟨hS2, ?_⟩
    (try simp only [World.size_alloc, Act.put, List.setIfInBounds_toArray, List.set_cons_succ, List.set_cons_zero])
    refine anyH_1 6 rfl (by kernel_rfl) rfl ?_
    have zr := c_of h5
    have fr := Go.Joins.unfrozen_of_block h5 0
    obtain ⟨w9, e9⟩ : ∃ q, q = e2.setCell ⟨w.heap.size, 0, none⟩ (.slice va ms.length vc) := ⟨_, rfl⟩
    have h9 : HpAt w2.heap.size (.cells #[.slice va ms.length vc] 26) w9 := by rw [e9]; exact hp_set hS2 (by omega) 0 _
    have C9 := Lib.hid (show w9.cell? ⟨w.heap.size, 0, none⟩ = some (.slice va ms.length vc) by rw [e9]; exact c_of (Go.Joins.block_setCell (i := 0) h5 _))
    have O9 := Lib.hid ((ho5.kept (w' := w9) (by rw [e9]; exact from_set (by omega) 0 _)).lower (show w.heap.size ≤ w1.heap.size by omega))
    have B9 := Lib.hid (show Below w.heap.size w w9 by rw [e9]; exact bl_set B5 (g := w.heap.size) 0 (Nat.le_refl _) _)
    have E9 := Lib.hid e9
    clear e9 hS2 ho5 B5
    go_wp2_with (fail)
    (try dsimp only)
    rw [← E9.out]
    refine ⟨h9, ?_⟩
    (try simp only [World.size_alloc, Act.put, List.setIfInBounds_toArray, List.set_cons_succ, List.set_cons_zero])
    clear zr fr h5
    refine anyH_1 7 rfl (by kernel_rfl) rfl ?_
    go_wp2_with (fail)
    first | refine ⟨h9, ?_⟩ | skip
    refine anyH_1 8 rfl (by kernel_rfl) rfl ?_
    go_wp2_with (fail)
    first | refine ⟨h9, ?_⟩ | skip
    refine anyH_1 9 rfl (by kernel_rfl) rfl ?_
    go_wp2_with (fail)
    first | refine ⟨h9, wpAnyH_done (by kernel_rfl) ?_ _⟩ | refine wpAnyH_done (by kernel_rfl) ?_ _ | refine ⟨by kernel_rfl, ?_⟩
    go_wp2_with (fail)
    exact bodyPost_ret (results_tiii rfl rfl rfl rfl rfl C9.out) rfl ⟨va, vc, ms, n, kid, at3, rfl, O9.out, hm1, (by omega), ⟨by omega, by omega⟩, ⟨by omega, by omega⟩, ⟨by omega, by omega⟩, B9.out⟩
  | true =>
    (try dsimp only)
    go_wp2_with (fail)
    refine wp_region_L (S := HpAt w2.heap.size (.cells #[.slice va ms.length vc] 26)) 7 (by kernel_rfl) ?_
    change wpAnyL _ _ _ _ 7 _ 9 (Array.replicate 9 false) _ _
    have hd4 : Cur cb a len cap w7.drew := c7.kept (show cb < w7.heap.size by omega) (row := none) ⟨rfl, rfl, rfl, Nat.le_refl _, fun _ _ _ => rfl⟩ (fun k hk => by cases hk)
    have hd5 : w7.drew.heap[w.heap.size]? = some (.cells #[.slice none 0 0] 26) := hr
    have hdo : OwnN w1.heap.size (.slice va ms.length vc) ms w7.drew := ho3.kept (w' := w7.drew) ⟨Nat.le_refl _, fun k h1 h2 => rfl⟩
    have hdB : Below w.heap.size w w7.drew := B3.drew
    have hds : w2.heap.size < w7.drew.heap.size := l3
    have HS : HpAt w2.heap.size (.cells #[.slice va ms.length vc] 26) w7.drew := ht
    clear c7 hr ho3 B3 ht l3
    generalize w7.drew = d3 at *
    refine wpAnyL_take (i := 0) (oi := ⟨some 23, Op.load 26 (Operand.tmp 7), _, _, _, _⟩) (v := .agg #[.slice va ms.length vc]) rfl (by kernel_rfl) (by kernel_rfl) (by kernel_rfl) (by kernel_rfl) (by kernel_rfl) (fun _ _ _ h => h) (yields_row rfl rfl rfl tr_under (tr_size _) (fun w' hw' => hw')) HS ?_
    simp only [World.size_alloc, Act.put, List.setIfInBounds_toArray, List.set_cons_succ, List.set_cons_zero]
    refine wpAnyL_pure (i := 1) (oi := ⟨some 24, Op.move (Operand.tmp 6), _, _, _, _⟩) (v := .pointer (some ⟨cb, 0, none⟩)) rfl (by kernel_rfl) (by kernel_rfl) (by kernel_rfl) (by decide) (fun _ _ _ h => h) (Or.inl ⟨rfl, fun W hW => by rfl⟩) (fun _ => HS) ?_
    simp only [World.size_alloc, Act.put, List.setIfInBounds_toArray, List.set_cons_succ, List.set_cons_zero]
    refine anyL_one 2 rfl (by kernel_rfl) rfl ?_
    go_wp2_with (fail)
    refine (drawsty_ok cb a len cap d3 (by omega) (fun h b off e => by have h1 := HAP.out h b off e; have h2 := hdB.size; omega) hd4).mono ?_
    rintro e e1 ⟨f, rfl, hf, c5, g5⟩
    (try dsimp only)
    replace HS : HpAt w2.heap.size (.cells #[.slice va ms.length vc] 26) e1 := hp_grown' HS g5 (by simp; omega)
    replace hd5 := hp_grown' hd5 g5 (by simp; omega)
    replace hdo := hdo.kept (w' := e1) ⟨g5.size, fun k h1 h2 => g5.block k h2 (by simp; omega)⟩
    replace hdB := below_curT hdB hdB.size g5 (by omega)
    replace hds := Nat.lt_of_lt_of_le hds g5.size
    have OKF := Lib.hid hf
    clear g5 hd4 hf
    first | refine ⟨HS, ?_⟩ | refine ⟨fun _ => HS, ?_⟩
    refine anyL_one 3 rfl (by kernel_rfl) rfl ?_
    go_wp2_with (fail)
    have hN := hdo.ndsR' rfl
    have hq := (saddnode va vc (ms.map ND.n) f e1 hN (by omega) OKF.out.inr)
    rw [List.length_map] at hq
    refine hq.mono ?_
    clear hq hN
    rintro e e2 ⟨v', ms', hms', rfl, ho', b'⟩
    obtain ⟨va', vc', rfl⟩ := own_form ho'.1
    (try dsimp only)
    have c6 : Cur cb a len cap e2 := c5.kept (show cb < e1.heap.size by omega) (row := none) ⟨b'.os, b'.tape, b'.output, b'.size, fun k hk _ => b'.block k hk⟩ (fun k hk => by cases hk)
    have HS2 : HpAt w2.heap.size (.cells #[.slice va ms.length vc] 26) e2 := hp_below HS b'
    replace hd5 := hp_below hd5 b'
    replace hdB := hdB.trans (b'.mono hdB.size)
    have hds2 := Nat.lt_of_lt_of_le hds b'.size
    have hse := b'.size
    clear HS c5
    first | refine ⟨HS2, ?_⟩ | refine ⟨fun _ => HS2, ?_⟩
    refine wpAnyL_pure (i := 4) (oi := ⟨some 22, Op.move (Operand.tmp 26), _, _, _, _⟩) (v := .tuple #[.agg #[.slice va' ms'.length vc'], .int .i64 (adC (ms.map ND.n) f)]) rfl (by kernel_rfl) (by kernel_rfl) (by kernel_rfl) (by decide) (fun _ _ _ h => h) (Or.inl ⟨rfl, fun W hW => by rfl⟩) (fun _ => HS2) ?_
    simp only [World.size_alloc, Act.put, List.setIfInBounds_toArray, List.set_cons_succ, List.set_cons_zero]
    refine wpAnyL_pure (i := 5) (oi := ⟨some 27, Op.extract (Operand.tmp 22) 0, _, _, _, _⟩) (v := .agg #[.slice va' ms'.length vc']) rfl (by kernel_rfl) (by kernel_rfl) (by kernel_rfl) (by decide) (fun _ _ _ h => h) (Or.inl ⟨rfl, fun W hW => by rfl⟩) (fun _ => HS2) ?_
    simp only [World.size_alloc, Act.put, List.setIfInBounds_toArray, List.set_cons_succ, List.set_cons_zero]
    refine wpAnyL_pure (i := 6) (oi := ⟨some 28, Op.extract (Operand.tmp 22) 1, _, _, _, _⟩) (v := .int .i64 (adC (ms.map ND.n) f)) rfl (by kernel_rfl) (by kernel_rfl) (by kernel_rfl) (by decide) (fun _ _ _ h => h) (Or.inl ⟨rfl, fun W hW => by rfl⟩) (fun _ => HS2) ?_
    simp only [World.size_alloc, Act.put, List.setIfInBounds_toArray, List.set_cons_succ, List.set_cons_zero]
    refine anyL_one 7 rfl (by kernel_rfl) rfl ?_
    have zt := c_of HS2
    have ft := Go.Joins.unfrozen_of_block HS2 0
    obtain ⟨w8, e8⟩ : ∃ q, q = e2.setCell ⟨w2.heap.size, 0, none⟩ (.slice va' ms'.length vc') := ⟨_, rfl⟩
    have ht : w8.heap[w2.heap.size]? = some (.cells #[.slice va' ms'.length vc'] 26) := by rw [e8]; exact Go.Joins.block_setCell (i := 0) HS2 _
    have hr : w8.heap[w.heap.size]? = some (.cells #[.slice none 0 0] 26) := by rw [e8]; exact hp_set hd5 (by omega) 0 _
    have ho3 : OwnN w1.heap.size (.slice va' ms'.length vc') ms' w8 := (ho'.kept (w' := w8) (by rw [e8]; exact from_set (by omega) 0 _)).lower (show w1.heap.size ≤ e1.heap.size by omega)
    have B3 : Below w.heap.size w w8 := by rw [e8]; exact bl_set hdB (g := w2.heap.size) 0 (by have := hdB.size; omega) _
    have c8 : Cur cb a len cap w8 := by rw [e8]; exact c6.kept (show cb < e2.heap.size by omega) (gr_self e2 w2.heap.size 0 _) (fun k hk => by simp at hk; subst hk; exact ⟨by omega, fun h0 b off e => by have h1 := HAP.out h0 b off e; omega⟩)
    have l3 : w2.heap.size < w8.heap.size := by rw [e8]; simpa using hds2
    have E8 := Lib.hid e8
    clear e8 hd5 hdB c6 ho' b'
    go_wp2_with (fail)
    (try dsimp only)
    rw [← E8.out]
    clear zt ft HS2
    (try simp only [World.size_alloc, Act.put, List.setIfInBounds_toArray, List.set_cons_succ, List.set_cons_zero])
    first | refine ⟨lastdone (by kernel_rfl), ?_⟩ | skip
    refine anyL_one 8 rfl (by kernel_rfl) rfl ?_
    go_wp2_with (fail)
    first | refine ⟨lastdone (by kernel_rfl), ?_⟩ | skip
    refine anyL_done (by kernel_rfl) ?_ _
    have hkI : I64 (adC (ms.map ND.n) f) := by unfold adC; split <;> (constructor <;> (try rw [List.length_map]) <;> omega)
    have hms2 : szS (ms'.map ND.n) ≤ 8000 := by rw [hms']; exact ad_sz4 hs
    have hml : 1 ≤ ms'.length := by
      have h1 : ms'.length = (adN (ms.map ND.n) f).length := by rw [← hms', List.length_map]
      have h2 : (ms.map ND.n).length ≤ (adN (ms.map ND.n) f).length := by unfold adN; split <;> simp
      rw [List.length_map] at h2
      omega
    (try dsimp only)
    go_wp2_with (fail)
    have hd4 : Cur cb a len cap w8.drew := c8.kept (show cb < w8.heap.size by omega) (row := none) ⟨rfl, rfl, rfl, Nat.le_refl _, fun _ _ _ => rfl⟩ (fun k hk => by cases hk)
    have hd5 : w8.drew.heap[w.heap.size]? = some (.cells #[.slice none 0 0] 26) := hr
    have hdo : OwnN w1.heap.size (.slice va' ms'.length vc') ms' w8.drew := ho3.kept (w' := w8.drew) ⟨Nat.le_refl _, fun k h1 h2 => rfl⟩
    have hdB : Below w.heap.size w w8.drew := B3.drew
    have hds : w2.heap.size < w8.drew.heap.size := l3
    have hdt : HpAt w2.heap.size (.cells #[.slice va' ms'.length vc'] 26) w8.drew := ht
    refine wp_region_held_drew (S := HpAt w2.heap.size (.cells #[.slice va' ms'.length vc'] 26)) (by kernel_rfl) hdt (fun HS0 => ?_)
    have HS := hdt
    clear HS0 hdt c8 hr ho3 B3 ht l3
    generalize w8.drew = d3 at *
    refine wpAnyH_take (i := 0) (oi := ⟨some 29, Op.load 26 (Operand.tmp 7), _, _, _, _⟩) (v := .agg #[.slice va' ms'.length vc']) rfl (by kernel_rfl) (by kernel_rfl) (by kernel_rfl) (fun _ _ _ h => h) (yields_row rfl rfl rfl tr_under (tr_size _) (fun w' hw' => hw')) HS ?_
    simp only [World.size_alloc, Act.put, List.setIfInBounds_toArray, List.set_cons_succ, List.set_cons_zero]
    refine wpAnyH_take (i := 1) (oi := ⟨some 30, Op.move (Operand.tmp 8), _, _, _, _⟩) (v := .int .i64 n) rfl (by kernel_rfl) (by kernel_rfl) (by kernel_rfl) (fun _ _ _ h => h) (Or.inl ⟨by rfl, fun W hW => by rfl⟩) HS ?_
    simp only [World.size_alloc, Act.put, List.setIfInBounds_toArray, List.set_cons_succ, List.set_cons_zero]
    refine wpAnyH_take (i := 2) (oi := ⟨some 31, Op.move (Operand.tmp 9), _, _, _, _⟩) (v := .int .i64 (adC (ms.map ND.n) f)) rfl (by kernel_rfl) (by kernel_rfl) (by kernel_rfl) (fun _ _ _ h => h) (Or.inl ⟨by rfl, fun W hW => by rfl⟩) HS ?_
    simp only [World.size_alloc, Act.put, List.setIfInBounds_toArray, List.set_cons_succ, List.set_cons_zero]
    refine wpAnyH_take (i := 3) (oi := ⟨some 32, Op.move (Operand.tmp 6), _, _, _, _⟩) (v := .pointer (some ⟨cb, 0, none⟩)) rfl (by kernel_rfl) (by kernel_rfl) (by kernel_rfl) (fun _ _ _ h => h) (Or.inl ⟨by rfl, fun W hW => by rfl⟩) HS ?_
    simp only [World.size_alloc, Act.put, List.setIfInBounds_toArray, List.set_cons_succ, List.set_cons_zero]
    refine anyH_1 4 rfl (by kernel_rfl) rfl ?_
    go_wp2_with (fail)
    refine ⟨hp_on HS _, ?_⟩
    (try simp only [World.size_alloc, Act.put, List.setIfInBounds_toArray, List.set_cons_succ, List.set_cons_zero])
    refine anyH_1 5 rfl (by kernel_rfl) rfl ?_
    go_wp2_with (fail)
    refine (pick_r (-1) 99 (by decide) (by decide) [0, 0, 1, 2, -1, 99] 6 rfl (by omega) (by omega) (by intro z hz; simp at hz; omega) cb a len cap d3 (by omega) hd4).mono ?_
    rintro e e2 ⟨at3, rfl, t0, t1, c6, g6⟩
    (try dsimp only)
    have h5 := hp_grown' hd5 g6 (by simp; omega)
    have hS2 : HpAt w2.heap.size (.cells #[.slice va' ms'.length vc'] 26) e2 := hp_grown' HS g6 (by simp; omega)
    have ho5 := hdo.kept (w' := e2) ⟨g6.size, fun k h1 h2 => g6.block k h2 (by simp; omega)⟩
    have B5 := below_curT hdB hdB.size g6 (by omega)
    have sz6 := Nat.lt_of_lt_of_le hds g6.size
    clear g6 c6 HS hd4 hd5 hdo hdB
    refine ⟨hS2, ?_⟩
    (try simp only [World.size_alloc, Act.put, List.setIfInBounds_toArray, List.set_cons_succ, List.set_cons_zero])
    refine anyH_1 6 rfl (by kernel_rfl) rfl ?_
    have zr := c_of h5
    have fr := Go.Joins.unfrozen_of_block h5 0
    obtain ⟨w9, e9⟩ : ∃ q, q = e2.setCell ⟨w.heap.size, 0, none⟩ (.slice va' ms'.length vc') := ⟨_, rfl⟩
    have h9 : HpAt w2.heap.size (.cells #[.slice va' ms'.length vc'] 26) w9 := by rw [e9]; exact hp_set hS2 (by omega) 0 _
    have C9 := Lib.hid (show w9.cell? ⟨w.heap.size, 0, none⟩ = some (.slice va' ms'.length vc') by rw [e9]; exact c_of (Go.Joins.block_setCell (i := 0) h5 _))
    have O9 := Lib.hid ((ho5.kept (w' := w9) (by rw [e9]; exact from_set (by omega) 0 _)).lower (show w.heap.size ≤ w1.heap.size by omega))
    have B9 := Lib.hid (show Below w.heap.size w w9 by rw [e9]; exact bl_set B5 (g := w.heap.size) 0 (Nat.le_refl _) _)
    have E9 := Lib.hid e9
    clear e9 hS2 ho5 B5
    go_wp2_with (fail)
    (try dsimp only)
    rw [← E9.out]
    refine ⟨h9, ?_⟩
    (try simp only [World.size_alloc, Act.put, List.setIfInBounds_toArray, List.set_cons_succ, List.set_cons_zero])
    clear zr fr h5
    refine anyH_1 7 rfl (by kernel_rfl) rfl ?_
    go_wp2_with (fail)
    first | refine ⟨h9, ?_⟩ | skip
    refine anyH_1 8 rfl (by kernel_rfl) rfl ?_
    go_wp2_with (fail)
    first | refine ⟨h9, ?_⟩ | skip
    refine anyH_1 9 rfl (by kernel_rfl) rfl ?_
    go_wp2_with (fail)
    first | refine ⟨h9, wpAnyH_done (by kernel_rfl) ?_ _⟩ | refine wpAnyH_done (by kernel_rfl) ?_ _ | refine ⟨by kernel_rfl, ?_⟩
    go_wp2_with (fail)
    exact bodyPost_ret (results_tiii rfl rfl rfl rfl rfl C9.out) rfl ⟨va', vc', ms', n, (adC (ms.map ND.n) f), at3, rfl, O9.out, hml, hms2, ⟨by omega, by omega⟩, hkI, ⟨by omega, by omega⟩, B9.out⟩
end Go.Proofs.Ytckpjldenkjddaa
end

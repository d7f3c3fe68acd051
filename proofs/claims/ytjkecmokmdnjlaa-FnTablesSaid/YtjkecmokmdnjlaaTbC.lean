/-
  The draws of a table and a width, and of two tables (spec.l09Case, DrawWantedOf, DrawSameTable): nothing that was there is turned. Conditions: those of the code.
-/
import Derived.Test.YtjkecmokmdnjlaaTbA
import Derived.Test.YtjkecmokmdnjlaaOnce
import Derived.Maps.AppendAt
import Derived.Deep.RegionHeld
import Derived.Deep.RegionHeld3
namespace Go.Proofs.Ytjkecmokmdnjlaa
open Go.ChangeShapes Go.WideShapes Go.ChangeAt Go.RowKit
set_option linter.unusedVariables false
set_option linter.unusedSimpArgs false

/-- A table and a width. -/
def CaseDraw (w : World) (e : Ending) (w' : World) : Prop :=
  ∃ (b n vc : Nat) (zs : List Int) (x : Int), e = .returned (.tuple #[.agg #[.slice (some ⟨b, 0, none⟩) n vc], .int .i64 x]) ∧ n ≤ 7 ∧ AllI zs ∧ (-9223372036854775808 ≤ x ∧ x ≤ 9223372036854775807) ∧ RowR w.heap.size (.slice (some ⟨b, 0, none⟩) n vc) n zs w' ∧ Below w.heap.size w w'
/-- Two tables. -/
def TwoDraw (w : World) (e : Ending) (w' : World) : Prop :=
  ∃ (v u : Value) (n m : Nat) (zs ys : List Int), e = .returned (.tuple #[.agg #[v], .agg #[u]]) ∧ n ≤ 7 ∧ m ≤ 7 ∧ AllI zs ∧ AllI ys ∧ RowR w.heap.size v n zs w' ∧ RowR w.heap.size u m ys w' ∧ Below w.heap.size w w'
theorem below_cur {b cb : Nat} {w wv w' : World} (h : Below b w wv) (hb : b ≤ wv.heap.size) (hg : wv.grownBy w' (some cb)) (hcb : b ≤ cb) : Below b w w' := h.grown hg hb (fun k hk => by simp at hk; omega)
theorem results_tabI {fn : Func} {p q : Tmp} {b v : Value} {g : Nat} {w : World} (h : fn.results = #[.cell p 26, .tmp q]) {tmps : Array Value} (hp : tmps.getD p undef = .pointer (some ⟨g, 0, none⟩)) (hq : tmps.getD q undef = b)
    (hc : w.cell? ⟨g, 0, none⟩ = some v) : (results fn tmps).run Try.prog w = .ok (.tuple #[.agg #[v], b]) w := by
  have hl := run_loadVar_mid (P := Try.prog) w g 0 26 [v] (.struct (Try.prog.fieldsOf 26)) (fun j u hv => by
    match j, hv with
    | 0, hv => simp at hv; subst hv; exact hc) (by kernel_rfl) rfl (by kernel_rfl)
  have hp' : tmps[p]?.getD undef = .pointer (some ⟨g, 0, none⟩) := by simpa using hp
  have hq' : tmps[q]?.getD undef = b := by simpa using hq
  simp [results, h, hp', hq', asAddr, hl]
theorem results_tab2 {fn : Func} {p q : Tmp} {v u : Value} {g g' : Nat} {w : World} (h : fn.results = #[.cell p 26, .cell q 26]) {tmps : Array Value} (hp : tmps.getD p undef = .pointer (some ⟨g, 0, none⟩)) (hq : tmps.getD q undef = .pointer (some ⟨g', 0, none⟩))
    (hc : w.cell? ⟨g, 0, none⟩ = some v) (hc' : w.cell? ⟨g', 0, none⟩ = some u) : (results fn tmps).run Try.prog w = .ok (.tuple #[.agg #[v], .agg #[u]]) w := by
  have hl : ∀ (g : Nat) (v : Value), w.cell? ⟨g, 0, none⟩ = some v → (loadVar 26 ⟨g, 0, none⟩).run Try.prog w = .ok (.agg #[v]) w := fun g v hc => run_loadVar_mid (P := Try.prog) w g 0 26 [v] (.struct (Try.prog.fieldsOf 26)) (fun j u hv => by
    match j, hv with
    | 0, hv => simp at hv; subst hv; exact hc) (by kernel_rfl) rfl (by kernel_rfl)
  have hp' : tmps[p]?.getD undef = .pointer (some ⟨g, 0, none⟩) := by simpa using hp
  have hq' : tmps[q]?.getD undef = .pointer (some ⟨g', 0, none⟩) := by simpa using hq
  simp [results, h, hp', hq', asAddr, hl _ _ hc, hl _ _ hc']
theorem ob_ne {b n c g : Nat} (h : b ≠ g) : (Value.slice (some ⟨b, 0, none⟩) n c).ownBlock = none ∨ (Value.slice (some ⟨b, 0, none⟩) n c).ownBlock ≠ some g := Or.inr (by intro e; simp [Value.ownBlock] at e; exact h e)
section
variable {P : Program} {w : World}
/-- At the operation: what is appended may be empty. -/
theorem wp_append_at {o : Oper} {a : Act} {K : Act → World → Prop} {Q : Exit → Act → World → Prop} (s x : Operand) (t : TypeId)
    (ho : o.op = .call { callee := .builtin .append, args := #[s, x], argTypes := #[t, t] })
    (base : Nat) (e : TypeId) (i : TypeInfo) (z : Value) (size bytes : Nat) (ht : P.underlying t = some (.slice e)) (hi : P.info? e = some i) (hz : i.zero = some z)
    (hsize : i.size = size) (hby : i.bytes = bytes) (hzs : z.cells.size = size) (hsz : 0 < size)
    (v : Value) (n : Nat) (xs : List Value) (hs : a.eval s = v) (hown : w.ownsRow base e size v n xs)
    (ad : Addr) (m c : Nat) (news : List Value) (hx : a.eval x = .slice (some ad) m c) (hl : news.length = m * size) (hnews : ∀ j u, news[j]? = some u → w.cell? (ad.add j) = some u) (h1 : ∀ u ∈ news, u.oneCell' = true)
    (h63 : n + m ≤ maxLen) (hbytes : (n + m) * bytes ≤ 140737488355328) (hbase : base ≤ w.heap.size)
    (h : ∀ v' w', w'.ownsRow base e size v' (n + m) (xs ++ news) → w.grownBy w' v.ownBlock → K (a.put o.dst v') w') : o.wp P a w K Q := by
  obtain ⟨v', w', hr, h2, h3, _, _⟩ := run_append_own_at (P := P) w base t o.type e i z size bytes ht hi hz hsize hby hzs hsz v n xs hown ad m c news hl hnews h1 h63 hbytes hbase
  unfold Oper.wp execOp
  simp only [ho, resolve, invoke, builtin, Sem.run_bind, Sem.run_pure, Result.andThen_ok, List.map_toArray, List.map_cons, List.map_nil, hs, hx, hr]
  exact h v' w' h2 h3
end
theorem yields_tab {ops : Array Oper} {S : World → Prop} {op : Oper} {a : Act} {g : Nat} {v : Value} {x : Operand} (hw : Region.wanted op (yielded ops a.tmps) = true) (ho : op.op = .load 26 x) (hx : a.eval x = .pointer (some ⟨g, 0, none⟩)) (hS : ∀ w, S w → w.cell? ⟨g, 0, none⟩ = some v) : YieldsIf Try.prog ops S op (.agg #[v]) a :=
  .inl ⟨hw, fun w hw' => by
    have hl := run_loadVar_mid (P := Try.prog) w g 0 26 [v] (.struct (Try.prog.fieldsOf 26)) (fun j u hv => by
      match j, hv with
      | 0, hv => simp at hv; subst hv; exact hS w hw') (by kernel_rfl) rfl (by kernel_rfl)
    unfold execOp
    simp only [ho, hx, Instr.loadAt, Instr.sureAddr, Sem.run_bind, Sem.run_pure, Result.andThen_ok, hl]⟩
theorem yields_rules {ops : Array Oper} {S : World → Prop} {op : Oper} {a : Act} {g : Nat} {v : Value} {x : Operand} (hw : Region.wanted op (yielded ops a.tmps) = true) (ho : op.op = .load 24 x) (hx : a.eval x = .pointer (some ⟨g, 0, none⟩)) (hS : ∀ w, S w → w.cell? ⟨g, 0, none⟩ = some v) : YieldsIf Try.prog ops S op v a :=
  .inl ⟨hw, fun w hw' => by
    have hc := hS w hw'
    unfold execOp
    simp only [ho, hx, Instr.loadAt, Instr.sureAddr, Sem.run_bind, Sem.run_pure, Result.andThen_ok]
    simp [go_sem, hc]⟩
/-- One operation alone may come next. -/
theorem anyH_one {P : Program} {md : Region.Mode} {ops : Array Oper} {Q : Exit → Act → World → Prop} {S : World → Prop} {fuel : Nat} {listed : Array Bool} {a : Act} {w : World} (i : Nat) {o : Oper} (ho : ops[i]? = some o) (hr : Region.ready md ops listed = [i]) (hw : Region.wanted o (yielded ops a.tmps) = true)
    (h : o.wp P a w (fun a' w' => S w' ∧ wpAnyH P md ops Q S fuel (listed.setIfInBounds i true) a' w') Q) : wpAnyH P md ops Q S (fuel + 1) listed a w :=
  wpAnyH_all hr (by simp) fun j hj => by
    simp only [List.mem_singleton] at hj
    subst hj
    unfold wpOp
    simp only [ho]
    rw [if_pos hw]
    exact Or.inl h
theorem so_ne {g0 n c g : Nat} (h : g ≠ g0) : some g ≠ (Value.slice (some ⟨g0, 0, none⟩) n c).ownBlock := by intro e; simp [Value.ownBlock] at e; exact h e
theorem cell_one {w : World} {g : Nat} {v : Value} {t : TypeId} {fr : Nat × Nat} (h : w.heap[g]? = some (.cells #[v] t fr)) : w.cell? ⟨g, 0, none⟩ = some v := by
  have h := Go.Joins.cell_of_block h 0
  simpa using h
theorem one_cell_put {w : World} {g : Nat} {v : Value} {t : TypeId} {fr : Nat × Nat} (h : w.heap[g]? = some (.cells #[v] t fr)) (u : Value) : (w.setCell ⟨g, 0, none⟩ u).cell? ⟨g, 0, none⟩ = some u := by
  have h := Go.Joins.cell_of_block (Go.Joins.block_setCell (i := 0) h u) 0
  simpa using h

set_option maxHeartbeats 1000000 in
theorem l09c_any (a : Option Addr) (len cap : Nat) (w : World) (hl : len ≤ 1048576) (hc : Code w a len) :
    Calls Try.prog 32 #[.slice a len cap] w (CaseDraw w) := by
  have hap := fun h0 => code_lt hc h0
  have h0 := hp_new w (.cells #[.slice none 0 0] 26)
  have bb := Go.Joins.below_alloc1 w (.cells #[.slice none 0 0] 26)
  obtain ⟨u, eu⟩ : ∃ u, u = w.alloc (.cells #[.slice none 0 0] 26) := ⟨_, rfl⟩
  rw [← eu] at h0 bb
  have EU := Lib.hid eu
  have HAP := Lib.hid (show 0 < len → ∀ b off, a = some ⟨b, off, none⟩ → b < w.heap.size from hap)
  have hc0 := hc.below bb
  have hus : w.heap.size < u.heap.size := by rw [eu]; simp
  clear eu hap hc
  go_enter Try.func32, Try.ntmps32
  go_wp2_with (rw [← EU.out])
  refine (new_cur a len cap u hl hc0).mono ?_
  rintro e w1 ⟨rfl, c1, b1, s1⟩
  have h1 := hp_below h0 b1
  have B1 := bb.trans (b1.mono (by omega))
  generalize u.heap.size = cb at *
  clear h0 bb b1 hc0
  (try dsimp only)
  go_wp2_with (fail)
  refine (l09a_any cb a len cap w1 s1 (fun h b off e => by have := HAP.out h b off e; have := B1.size; omega) c1).mono ?_
  rintro e w2 ⟨b, n, vc, zs, rfl, hn, hza, hr, c2, g2⟩
  have h2 := hp_grown' h1 g2 (by simp; omega)
  have B2 := below_cur B1 B1.size g2 (by omega)
  have l2 : cb < w2.heap.size := by have := g2.size; omega
  have hrl : cb < w1.heap.size := s1
  clear h1 B1 g2 c1
  (try dsimp only)
  go_wp2_with (fail)
  have hli := lit_ints w2 [-1, 0, 50, 100, 640, 5000, -2] (by decide)
  have ga := World.grownBy_alloc w2 (.cells ([-1, 0, 50, 100, 640, 5000, -2].map (Value.int .i64)).toArray 3) none
  have c3 : Cur cb a len cap (w2.alloc (.cells ([-1, 0, 50, 100, 640, 5000, -2].map (Value.int .i64)).toArray 3)) := c2.kept l2 ga (fun k hk => by cases hk)
  have h3 := hp_on h2 (.cells ([-1, 0, 50, 100, 640, 5000, -2].map (Value.int .i64)).toArray 3)
  have r3 : RowR w1.heap.size (.slice (some ⟨b, 0, none⟩) n vc) n zs (w2.alloc (.cells ([-1, 0, 50, 100, 640, 5000, -2].map (Value.int .i64)).toArray 3)) := World.ownsRow.alloc hr _
  have B3 := B2.trans ((Go.Joins.below_alloc1 w2 (.cells ([-1, 0, 50, 100, 640, 5000, -2].map (Value.int .i64)).toArray 3)).mono B2.size)
  clear h2 B2 hr c2 ga
  refine (pick_any w2.heap.size 0 7 7 _ cb a len cap _ (by omega) (by omega) hli (by omega) c3).mono ?_
  rintro e w4 ⟨x, rfl, x0, x1, c4, g4⟩
  have h4 := hp_grown' h3 g4 (by simp; omega)
  have r4 := r3.cur g4 hrl
  have B4 := below_cur B3 B3.size g4 (by omega)
  clear h3 r3 B3 g4 c3 c4 hli
  have hne : w1.heap.size ≤ b := (World.ownsRow.lt r4 b rfl).1
  have hws : w.heap.size < w1.heap.size := by omega
  have gs := gr_self w4 w.heap.size 0 (.slice (some ⟨b, 0, none⟩) n vc)
  have r5 := Lib.hid ((r4.kept gs (ob_ne (by omega))).lower (b' := w.heap.size) (by omega))
  have B5 := Lib.hid (bl_set B4 (g := w.heap.size) 0 (Nat.le_refl _) (.slice (some ⟨b, 0, none⟩) n vc))
  have C5 := Lib.hid (one_cell_put h4 (.slice (some ⟨b, 0, none⟩) n vc))
  have hcr : w4.cell? ⟨w.heap.size, 0, none⟩ = some (.slice none 0 0) := by have h := Go.Joins.cell_of_block h4 0; simpa using h
  have hfr : w4.frozen? ⟨w.heap.size, 0, none⟩ = false := Go.Joins.unfrozen_of_block h4 0
  clear h4 r4 B4 gs
  (try dsimp only)
  go_wp2_with (fail)
  exact bodyPost_ret (results_tabI rfl rfl rfl C5.out) rfl ⟨b, n, vc, zs, x, rfl, hn, hza, ⟨x0, x1⟩, r5.out, B5.out⟩

set_option maxHeartbeats 1000000 in
theorem draw_wantedof (a : Option Addr) (len cap : Nat) (w : World) (hl : len ≤ 1048576) (hc : Code w a len) :
    Calls Try.prog 10 #[.slice a len cap] w (CaseDraw w) := by
  have h0 := hp_new w (.cells #[.slice none 0 0] 26)
  have bb := Go.Joins.below_alloc1 w (.cells #[.slice none 0 0] 26)
  obtain ⟨u, eu⟩ : ∃ u, u = w.alloc (.cells #[.slice none 0 0] 26) := ⟨_, rfl⟩
  rw [← eu] at h0 bb
  have EU := Lib.hid eu
  have hc0 := hc.below bb
  have hus : w.heap.size < u.heap.size := by rw [eu]; simp
  clear eu hc
  go_enter Try.func10, Try.ntmps10
  go_wp2_with (rw [← EU.out])
  refine (l09c_any a len cap u hl hc0).mono ?_
  rintro e w4 ⟨b, n, vc, zs, x, rfl, hn, hza, ⟨x0, x1⟩, r4, b4⟩
  have h4 := hp_below h0 b4
  have B4 := bb.trans (b4.mono (by omega))
  have hne := (World.ownsRow.lt r4 b rfl).1
  have gs := gr_self w4 w.heap.size 0 (.slice (some ⟨b, 0, none⟩) n vc)
  have r5 := Lib.hid ((r4.kept gs (ob_ne (by omega))).lower (b' := w.heap.size) (by omega))
  have B5 := Lib.hid (bl_set B4 (g := w.heap.size) 0 (Nat.le_refl _) (.slice (some ⟨b, 0, none⟩) n vc))
  have C5 := Lib.hid (one_cell_put h4 (.slice (some ⟨b, 0, none⟩) n vc))
  have hcr : w4.cell? ⟨w.heap.size, 0, none⟩ = some (.slice none 0 0) := by have h := Go.Joins.cell_of_block h4 0; simpa using h
  have hfr : w4.frozen? ⟨w.heap.size, 0, none⟩ = false := Go.Joins.unfrozen_of_block h4 0
  clear h4 r4 B4 gs h0 bb b4 hc0
  (try dsimp only)
  go_wp2_with (fail)
  exact bodyPost_ret (results_tabI rfl rfl rfl C5.out) rfl ⟨b, n, vc, zs, x, rfl, hn, hza, ⟨x0, x1⟩, r5.out, B5.out⟩

theorem ob_far {v : Value} {n b0 g : Nat} {zs : List Int} {w : World} (h : RowR b0 v n zs w) (hg : g < b0) : v.ownBlock = none ∨ v.ownBlock ≠ some g := by
  cases hv : v.ownBlock with
  | none => exact Or.inl rfl
  | some k =>
    refine Or.inr fun e => ?_
    have h1 := (World.ownsRow.lt h k hv).1
    have e : k = g := by simpa using e
    omega
theorem two_end {w w6 : World} {v u : Value} {n m b0 : Nat} {zs ys : List Int} (hb0 : w.heap.size + 1 < b0) (h6 : w6.heap[w.heap.size]? = some (.cells #[.slice none 0 0] 26)) (q6 : w6.heap[w.heap.size + 1]? = some (.cells #[.slice none 0 0] 26))
    (p6 : RowR b0 v n zs w6) (r6 : RowR b0 u m ys w6) (B6 : Below w.heap.size w w6) :
    ((w6.setCell ⟨w.heap.size, 0, none⟩ v).setCell ⟨w.heap.size + 1, 0, none⟩ u).cell? ⟨w.heap.size, 0, none⟩ = some v ∧ ((w6.setCell ⟨w.heap.size, 0, none⟩ v).setCell ⟨w.heap.size + 1, 0, none⟩ u).cell? ⟨w.heap.size + 1, 0, none⟩ = some u ∧
    RowR w.heap.size v n zs ((w6.setCell ⟨w.heap.size, 0, none⟩ v).setCell ⟨w.heap.size + 1, 0, none⟩ u) ∧ RowR w.heap.size u m ys ((w6.setCell ⟨w.heap.size, 0, none⟩ v).setCell ⟨w.heap.size + 1, 0, none⟩ u) ∧ Below w.heap.size w ((w6.setCell ⟨w.heap.size, 0, none⟩ v).setCell ⟨w.heap.size + 1, 0, none⟩ u) := by
  have q7 := hp_set q6 (g' := w.heap.size) (by omega) 0 v
  have g7 := gr_self w6 w.heap.size 0 v
  have p7 := p6.kept g7 (ob_far p6 (by omega))
  have r7 := r6.kept g7 (ob_far r6 (by omega))
  have g8 := gr_self (w6.setCell ⟨w.heap.size, 0, none⟩ v) (w.heap.size + 1) 0 u
  have c7 := one_cell_put h6 v
  refine ⟨?_, one_cell_put q7 u, (p7.kept g8 (ob_far p7 hb0)).lower (by omega), (r7.kept g8 (ob_far r7 hb0)).lower (by omega), bl_set (bl_set B6 (g := w.heap.size) 0 (Nat.le_refl _) v) (g := w.heap.size + 1) 0 (by omega) u⟩
  rw [World.cell?_setCell_far _ _ _ _ (show w.heap.size + 1 ≠ w.heap.size by omega)]
  exact c7

set_option maxHeartbeats 1000000 in
theorem draw_sametable (a : Option Addr) (len cap : Nat) (w : World) (hl : len ≤ 1048576) (hc : Code w a len) :
    Calls Try.prog 19 #[.slice a len cap] w (TwoDraw w) := by
  have hap := fun h0 => code_lt hc h0
  have bb := Go.Joins.below_alloc2 w (.cells #[.slice none 0 0] 26) (.cells #[.slice none 0 0] 26)
  have h0 := hp_on (hp_new w (.cells #[.slice none 0 0] 26)) (.cells #[.slice none 0 0] 26)
  have q0 := hp_new (w.alloc (.cells #[.slice none 0 0] 26)) (.cells #[.slice none 0 0] 26)
  simp only [World.size_alloc] at h0 q0
  obtain ⟨u, eu⟩ : ∃ u, u = (w.alloc (.cells #[.slice none 0 0] 26)).alloc (.cells #[.slice none 0 0] 26) := ⟨_, rfl⟩
  rw [← eu] at h0 q0 bb
  have hus : w.heap.size + 1 < u.heap.size := by rw [eu]; simp
  have EU := Lib.hid eu
  have HAP := Lib.hid (show 0 < len → ∀ b off, a = some ⟨b, off, none⟩ → b < w.heap.size from hap)
  have hc0 := hc.below bb
  clear eu hap hc
  go_enter Try.func19, Try.ntmps19
  go_wp2_with (rw [← EU.out])
  refine (new_cur a len cap u hl hc0).mono ?_
  rintro e w1 ⟨rfl, c1, b1, s1⟩
  have h1 := hp_below h0 b1
  have q1 := hp_below q0 b1
  have B1 := bb.trans (b1.mono (by omega))
  generalize u.heap.size = cb at *
  clear h0 q0 bb b1 hc0
  (try dsimp only)
  go_wp2_with (fail)
  refine (l09a_any cb a len cap w1 s1 (fun h b off e => by have := HAP.out h b off e; have := B1.size; omega) c1).mono ?_
  rintro e w2 ⟨b, n, vc, zs, rfl, hn, hza, hr, c2, g2⟩
  have h2 := hp_grown' h1 g2 (by simp; omega)
  have q2 := hp_grown' q1 g2 (by simp; omega)
  have B2 := below_cur B1 B1.size g2 (by omega)
  have l2 : cb < w2.heap.size := by have := g2.size; omega
  have hrl : cb < w1.heap.size := s1
  clear h1 q1 B1 g2 c1
  have x3 := hp_new w2 (.cells #[.slice (some ⟨b, 0, none⟩) n vc] 26)
  have h3 := hp_on h2 (.cells #[.slice (some ⟨b, 0, none⟩) n vc] 26)
  have q3 := hp_on q2 (.cells #[.slice (some ⟨b, 0, none⟩) n vc] 26)
  have B3 := B2.trans ((Go.Joins.below_alloc1 w2 (.cells #[.slice (some ⟨b, 0, none⟩) n vc] 26)).mono B2.size)
  have c3 := c2.kept l2 (World.grownBy_alloc w2 (.cells #[.slice (some ⟨b, 0, none⟩) n vc] 26) none) (fun k hk => by cases hk)
  have r3 : RowR w1.heap.size (.slice (some ⟨b, 0, none⟩) n vc) n zs (w2.alloc (.cells #[.slice (some ⟨b, 0, none⟩) n vc] 26)) := World.ownsRow.alloc hr _
  obtain ⟨v, ev⟩ : ∃ v, v = w2.alloc (.cells #[.slice (some ⟨b, 0, none⟩) n vc] 26) := ⟨_, rfl⟩
  rw [← ev] at x3 h3 q3 B3 c3 r3
  have EV := Lib.hid ev
  have l3 : w2.heap.size < v.heap.size := by rw [ev]; simp
  clear ev h2 q2 B2 hr c2
  (try dsimp only)
  go_wp2_with (rw [← EV.out])
  refine (once_any 2 cb a len cap v (by omega) (by omega) c3).mono ?_
  rintro e w4 ⟨t, rfl, c4, g4⟩
  have h4 := hp_grown' h3 g4 (by simp; omega)
  have q4 := hp_grown' q3 g4 (by simp; omega)
  have x4 := hp_grown' x3 g4 (by simp; omega)
  have r4 := r3.cur g4 hrl
  have B4 := below_cur B3 B3.size g4 (by omega)
  have l4 : w2.heap.size < w4.heap.size := hp_lt x4
  have hb1 := (World.ownsRow.lt r4 b rfl).1
  have hb2 := (World.ownsRow.lt r4 b rfl).2
  generalize w2.heap.size = ga at *
  clear h3 q3 x3 B3 c3 r3 g4
  cases t
  · (try dsimp only)
    go_wp2_with (fail)
    have cT : w4.drew.cell? ⟨ga, 0, none⟩ = some (.slice (some ⟨b, 0, none⟩) n vc) := by have h := Go.Joins.cell_of_block x4 0; simpa using h
    have c5 := c4.kept (w' := w4.drew) (row := none) (by omega) ⟨rfl, rfl, rfl, Nat.le_refl _, fun _ _ _ => rfl⟩ (fun k hk => by cases hk)
    have KEY : ∀ (w6 : World) (b2 m vc2 : Nat), w4.drew.grownBy w6 (some cb) →
        w6.cell? ⟨ga, 0, none⟩ = some (.slice (some ⟨b, 0, none⟩) n vc) ∧ w6.cell? ⟨w.heap.size, 0, none⟩ = some (.slice none 0 0) ∧ w6.frozen? ⟨w.heap.size, 0, none⟩ = false ∧
        (w6.setCell ⟨w.heap.size, 0, none⟩ (.slice (some ⟨b, 0, none⟩) n vc)).cell? ⟨w.heap.size + 1, 0, none⟩ = some (.slice none 0 0) ∧ (w6.setCell ⟨w.heap.size, 0, none⟩ (.slice (some ⟨b, 0, none⟩) n vc)).frozen? ⟨w.heap.size + 1, 0, none⟩ = false ∧
        (w6.setCell ⟨w.heap.size, 0, none⟩ (.slice (some ⟨b, 0, none⟩) n vc)).cell? ⟨ga, 0, none⟩ = some (.slice (some ⟨b, 0, none⟩) n vc) ∧
        ((w6.setCell ⟨w.heap.size, 0, none⟩ (.slice (some ⟨b, 0, none⟩) n vc)).setCell ⟨w.heap.size + 1, 0, none⟩ (.slice (some ⟨b2, 0, none⟩) m vc2)).cell? ⟨ga, 0, none⟩ = some (.slice (some ⟨b, 0, none⟩) n vc) ∧
        Hid (w6.heap[w.heap.size]? = some (.cells #[.slice none 0 0] 26) ∧ w6.heap[w.heap.size + 1]? = some (.cells #[.slice none 0 0] 26) ∧ RowR w1.heap.size (.slice (some ⟨b, 0, none⟩) n vc) n zs w6 ∧ Below w.heap.size w w6) := by
      intro w6 b2 m vc2 g6
      have g5 : w4.grownBy w6 (some cb) := gr_trans (show w4.grownBy w4.drew (some cb) from ⟨rfl, rfl, rfl, Nat.le_refl _, fun _ _ _ => rfl⟩) g6
      have h6 := hp_grown' h4 g5 (by simp; omega)
      have q6 := hp_grown' q4 g5 (by simp; omega)
      have x6 := hp_grown' x4 g5 (by simp; omega)
      have p6 := r4.cur g5 hrl
      have B6 := below_cur B4 B4.size g5 (by omega)
      have cT6 := cell_one x6
      have cR6 := cell_one h6
      have fR6 := Go.Joins.unfrozen_of_block h6 0
      have q7 := hp_set q6 (g' := w.heap.size) (by omega) 0 (.slice (some ⟨b, 0, none⟩) n vc)
      have x7 := hp_set x6 (g' := w.heap.size) (by omega) 0 (.slice (some ⟨b, 0, none⟩) n vc)
      have cT7 := cell_one x7
      have cQ7 := cell_one q7
      have fQ7 := Go.Joins.unfrozen_of_block q7 0
      have cT8 := cell_one (hp_set x7 (g' := w.heap.size + 1) (by omega) 0 (.slice (some ⟨b2, 0, none⟩) m vc2))
      exact ⟨cT6, cR6, fR6, cQ7, fQ7, cT7, cT8, Lib.hid ⟨h6, q6, p6, B6⟩⟩
    go_region_held3 (fun w' => w'.cell? ⟨ga, 0, none⟩ = some (.slice (some ⟨b, 0, none⟩) n vc))
      (first | exact cT | exact cT6 | exact cT7 | exact cT8)
      (first
        | (go_at_call 40; refine (l09a_any cb a len cap w4.drew (show cb < w4.heap.size by omega) (fun h b off e => by have := HAP.out h b off e; have := B4.size; show b < w4.heap.size; omega) c5).mono ?_; rintro e w6 ⟨b2, m, vc2, ys, rfl, hm, hya, r6, c6, g6⟩
           obtain ⟨cT6, cR6, fR6, cQ7, fQ7, cT7, cT8, HH6⟩ := KEY w6 b2 m vc2 g6
           have R6 := Lib.hid r6
           clear r6 c6 g6)
        | fail)
    have HF := Lib.hid (two_end (b0 := w1.heap.size) (by omega) HH6.out.1 HH6.out.2.1 HH6.out.2.2.1 (R6.out.lower (show w1.heap.size ≤ w4.heap.size by omega)) HH6.out.2.2.2)
    clear HH6 R6 KEY cT6 cR6 fR6 cQ7 fQ7 cT7 cT8 cT h4 q4 x4 r4 B4 c4 c5
    go_wp2_with (fail)
    exact bodyPost_ret (results_tab2 rfl rfl rfl HF.out.1 HF.out.2.1) rfl ⟨_, _, n, m, zs, ys, rfl, hn, hm, hza, hya, HF.out.2.2.1, HF.out.2.2.2.1, HF.out.2.2.2.2⟩
  · (try dsimp only)
    go_wp2_with (fail)
    have cT : w4.drew.cell? ⟨ga, 0, none⟩ = some (.slice (some ⟨b, 0, none⟩) n vc) := cell_one x4
    refine wp_region_held_drew (S := fun w' => w'.cell? ⟨ga, 0, none⟩ = some (.slice (some ⟨b, 0, none⟩) n vc)) (by kernel_rfl) cT (fun hHeld => ?_)
    refine wpAnyH_take (i := 0) (oi := ⟨some 12, Op.load 26 (Operand.tmp 5), 26, _, _, _⟩) (v := .agg #[.slice (some ⟨b, 0, none⟩) n vc]) rfl (by kernel_rfl) (by kernel_rfl) (by kernel_rfl) (fun _ _ _ h => h) (yields_tab rfl rfl rfl (fun _ h => h)) hHeld ?_
    simp only [World.size_alloc, Act.put, List.setIfInBounds_toArray, List.set_cons_succ, List.set_cons_zero]
    refine wpAnyH_take (i := 2) (oi := ⟨some 14, Op.fieldAddr 26 (Operand.tmp 5) 0, _, _, _, _⟩) (v := .pointer (some ⟨ga, 0, none⟩)) rfl (by kernel_rfl) (by kernel_rfl) (by kernel_rfl) (fun _ _ _ h => h) (Or.inl ⟨rfl, fun W hW => by rfl⟩) hHeld ?_
    simp only [World.size_alloc, Act.put, List.setIfInBounds_toArray, List.set_cons_succ, List.set_cons_zero]
    refine wpAnyH_take (i := 3) (oi := ⟨some 15, Op.load 24 (Operand.tmp 14), _, _, _, _⟩) (v := .slice (some ⟨b, 0, none⟩) n vc) rfl (by kernel_rfl) (by kernel_rfl) (by kernel_rfl) (fun _ _ _ h => h) (yields_rules rfl rfl rfl (fun _ h => h)) hHeld ?_
    simp only [World.size_alloc, Act.put, List.setIfInBounds_toArray, List.set_cons_succ, List.set_cons_zero]
    refine anyH_one 1 rfl (by kernel_rfl) rfl ?_
    go_wp2_with (fail)
    have hHeld5 : (w4.alloc (.cells #[] 32)).drew.cell? ⟨ga, 0, none⟩ = some (.slice (some ⟨b, 0, none⟩) n vc) := cell_one (hp_on x4 (.cells #[] 32))
    refine ⟨cT, ?_⟩
    refine anyH_one 4 rfl (by kernel_rfl) rfl ?_
    have hown5 : RowR w4.heap.size (.slice (some ⟨w4.heap.size, 0, none⟩) 0 0) 0 [] (w4.alloc (.cells #[] 32)).drew := World.ownsRow.drew (World.ownsRow_lit w4 #[] 0 (Nat.le_refl _) (by unfold maxLen; omega) rfl)
    have r5 : RowR w1.heap.size (.slice (some ⟨b, 0, none⟩) n vc) n zs (w4.alloc (.cells #[] 32)).drew := World.ownsRow.drew (World.ownsRow.alloc r4 _)
    have h5 : (w4.alloc (.cells #[] 32)).drew.heap[w.heap.size]? = some (.cells #[.slice none 0 0] 26) := hp_on h4 _
    have q5 : (w4.alloc (.cells #[] 32)).drew.heap[w.heap.size + 1]? = some (.cells #[.slice none 0 0] 26) := hp_on q4 _
    have x5 : (w4.alloc (.cells #[] 32)).drew.heap[ga]? = some (.cells #[.slice (some ⟨b, 0, none⟩) n vc] 26) := hp_on x4 _
    have B5 : Below w.heap.size w (w4.alloc (.cells #[] 32)).drew := (B4.trans ((Go.Joins.below_alloc1 w4 (.cells #[] 32)).mono B4.size)).drew
    have hzl := r5.size
    have hz5 : w4.heap.size < (w4.alloc (.cells #[] 32)).drew.heap.size := (World.ownsRow.lt hown5 _ rfl).2
    generalize (w4.alloc (.cells #[] 32)).drew = w5 at *
    obtain ⟨i0, hi, hz0, hz1, hz2⟩ := info_parts info_rule
    refine wp_append_at _ _ 24 rfl w4.heap.size 32 i0 (.agg #[.int .i64 0, .int .i64 0, .int .i64 0]) 3 24 Try.underlying24 hi hz0 hz1 hz2 rfl (by decide) _ 0 [] rfl hown5 ⟨b, 0, none⟩ n vc (zs.map (Value.int .i64)) rfl (by simp [hzl]) (fun j u hu => ?c1) (fun u hu => ?c2) (by unfold maxLen; omega) (by omega) (Nat.le_of_lt hz5) ?_
    case c1 =>
      have hj : j < n * 3 := by rw [← hzl]; have := (List.getElem?_eq_some_iff.1 hu).1; simpa using this
      have h := World.ownsRow.cellAt r5 j hj
      have hu' : (zs.map (Value.int .i64))[j]? = some u := hu
      have ha : (⟨b, 0, none⟩ : Addr).add j = ⟨b, j, none⟩ := by unfold Addr.add; split <;> simp_all
      rw [ha, h, hu']
    case c2 => obtain ⟨z, _, rfl⟩ := List.mem_map.1 hu; rfl
    intro v' w6 hown6 g6
    rw [Nat.zero_add] at hown6
    have hown6 : RowR w4.heap.size v' n zs w6 := by unfold RowR; simpa using hown6
    obtain ⟨va', vc', hv', -⟩ := hown6.slice hza
    subst hv'
    have h6 := hp_grown' h5 g6 (so_ne (by omega))
    have q6 := hp_grown' q5 g6 (so_ne (by omega))
    have x6 := hp_grown' x5 g6 (so_ne (by omega))
    have p6 := r5.kept g6 (Or.inr (fun e => so_ne (n := 0) (c := 0) (show b ≠ w4.heap.size by omega) e))
    have B6 := B5.grown g6 B5.size (fun k hk => Nat.le_trans (by omega) (World.ownsRow.lt hown5 k hk).1)
    have hHeld6 := cell_one x6
    refine ⟨hHeld6, ?_⟩
    simp only [World.size_alloc, Act.put, List.getElem_toArray, List.getElem_cons_succ, List.getElem_cons_zero, List.setIfInBounds_toArray, List.set_cons_succ, List.set_cons_zero]
    refine wpAnyH_take (i := 5) (oi := ⟨some 17, Op.build 26 #[(0, Operand.tmp 16)], _, _, _, _⟩) (v := .agg #[.slice va' n vc']) rfl (by kernel_rfl) (by kernel_rfl) (by kernel_rfl) (fun _ _ _ h => h) (Or.inl ⟨rfl, fun W hW => by first | rfl | (unfold execOp; simp [go_sem])⟩) hHeld6 ?_
    simp only [World.size_alloc, Act.put, List.setIfInBounds_toArray, List.set_cons_succ, List.set_cons_zero]
    have cR6 := cell_one h6
    have fR6 := Go.Joins.unfrozen_of_block h6 0
    have q7 := hp_set q6 (g' := w.heap.size) (by omega) 0 (.slice (some ⟨b, 0, none⟩) n vc)
    have x7 := hp_set x6 (g' := w.heap.size) (by omega) 0 (.slice (some ⟨b, 0, none⟩) n vc)
    have cT7 := cell_one x7
    have cQ7 := cell_one q7
    have fQ7 := Go.Joins.unfrozen_of_block q7 0
    have cT8 := cell_one (hp_set x7 (g' := w.heap.size + 1) (by omega) 0 (.slice va' n vc'))
    have HF := Lib.hid (two_end (b0 := w1.heap.size) (by omega) h6 q6 p6 (hown6.lower (show w1.heap.size ≤ w4.heap.size by omega)) B6)
    clear h6 q6 p6 hown6 B6 q7 x7 x6 h5 q5 x5 r5 hown5 B5 g6 cT h4 q4 x4 r4 B4 c4 hi hz0 hz1 hz2
    refine anyH_one 6 rfl (by kernel_rfl) rfl ?_
    go_wp2_with (fail)
    refine anyH_one 7 rfl (by kernel_rfl) rfl ?_
    go_wp2_with (fail)
    refine wpAnyH_done (by kernel_rfl) ?_ _
    go_wp2_with (fail)
    exact bodyPost_ret (results_tab2 rfl rfl rfl HF.out.1 HF.out.2.1) rfl ⟨_, _, n, n, zs, zs, rfl, hn, hn, hza, hza, HF.out.2.2.1, HF.out.2.2.2.1, HF.out.2.2.2.2⟩
end Go.Proofs.Ytjkecmokmdnjlaa

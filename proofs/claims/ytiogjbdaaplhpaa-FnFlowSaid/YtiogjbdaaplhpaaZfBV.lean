import Derived.Test.YtiogjbdaaplhpaaZfAY
import Derived.Test.YtiogjbdaaplhpaaZfBH
import Derived.Test.YtiogjbdaaplhpaaZfBU
section
namespace Go.Proofs.Ytiogjbdaaplhpaa
open Go.ChangeShapes Go.WideShapes Go.ChangeAt Go.RowKit
set_option linter.unusedVariables false
set_option linter.unusedSimpArgs false
set_option maxRecDepth 8000

/-- A tree and a number. -/
def TnDraw (w : World) (e : Ending) (w' : World) : Prop :=
  ∃ (va : Option Addr) (vc : Nat) (ms : List ND) (z : Int), e = .returned (.tuple #[.agg #[.slice va ms.length vc], .int .i64 z]) ∧ OwnN w.heap.size (.slice va ms.length vc) ms w' ∧ 1 ≤ ms.length ∧ ms.length ≤ 13 ∧ szS (ms.map ND.n) ≤ 4000 ∧ (-1 ≤ z ∧ z ≤ 1000) ∧ Below w.heap.size w w'
theorem results_trI {fn : Func} {p q : Tmp} {b v : Value} {g : Nat} {w : World} (h : fn.results = #[.cell p 26, .tmp q]) {tmps : Array Value} (hp : tmps.getD p undef = .pointer (some ⟨g, 0, none⟩)) (hq : tmps.getD q undef = b)
    (hc : w.cell? ⟨g, 0, none⟩ = some v) : (results fn tmps).run Try.prog w = .ok (.tuple #[.agg #[v], b]) w := by
  have hl := run_loadVar_mid (P := Try.prog) w g 0 26 [v] (.struct (Try.prog.fieldsOf 26)) (fun j u hv => by
    match j, hv with
    | 0, hv => simp at hv; subst hv; exact hc) (by kernel_rfl) rfl (by kernel_rfl)
  have hp' : tmps[p]?.getD undef = .pointer (some ⟨g, 0, none⟩) := by simpa using hp
  have hq' : tmps[q]?.getD undef = b := by simpa using hq
  simp [results, h, hp', hq', asAddr, hl]
theorem tr_under : Try.prog.underlying 26 = some (.struct (Try.prog.fieldsOf 26)) := by kernel_rfl
theorem tr_size (v : Value) : (Try.prog.info? 26).map (·.size) = some (#[v] : Array Value).size := by kernel_rfl
theorem below_curT {b cb : Nat} {w wv w' : World} (h : Below b w wv) (hb : b ≤ wv.heap.size) (hg : wv.grownBy w' (some cb)) (hcb : b ≤ cb) : Below b w w' := h.grown hg hb (fun k hk => by simp at hk; omega)

set_option maxHeartbeats 1000000 in
theorem draw_depthof (a : Option Addr) (len cap : Nat) (w : World) (hl : len ≤ 1048576) (hc : Code w a len) :
    Calls Try.prog 130 #[.slice a len cap] w (TnDraw w) := by
  have hap := fun h0 => code_lt hc h0
  have h0 := hp_new w (.cells #[.slice none 0 0] 26)
  have bb := Go.Joins.below_alloc1 w (.cells #[.slice none 0 0] 26)
  obtain ⟨u, eu⟩ : ∃ u, u = w.alloc (.cells #[.slice none 0 0] 26) := ⟨_, rfl⟩
  rw [← eu] at h0 bb
  have EU := Lib.hid eu
  have HAP := Lib.hid (show 0 < len → ∀ b off, a = some ⟨b, off, none⟩ → b < w.heap.size from hap)
  have hc0 := hc.below bb
  have hus : w.heap.size < u.heap.size := by rw [eu]; simp
  clear eu hap hc
  go_enter Try.func130, Try.ntmps130
  go_wp2_with (rw [← EU.out])
  refine (new_cur a len cap u hl hc0).mono ?_
  rintro e w1 ⟨rfl, c1, b1, s1⟩
  have h1 := hp_below h0 b1
  have B1 := bb.trans (b1.mono (by omega))
  generalize u.heap.size = cb at *
  clear h0 bb b1 hc0
  (try dsimp only)
  go_wp2_with (fail)
  refine (l10any_any cb a len cap w1 s1 (fun h b off e => by have := HAP.out h b off e; have := B1.size; omega) c1).mono ?_
  rintro e w2 ⟨va, vc, ms, rfl, ho, hm1, hm2, hs, c2, g2⟩
  have h2 := hp_grown' h1 g2 (by simp; omega)
  have B2 := below_curT B1 B1.size g2 (by omega)
  have l2 : cb < w2.heap.size := by have := g2.size; omega
  have hrl : cb < w1.heap.size := s1
  clear h1 B1 g2 c1
  have g3 := World.grownBy_alloc w2 (.cells #[.slice va ms.length vc] 26) none
  have c3 : Cur cb a len cap (w2.alloc (.cells #[.slice va ms.length vc] 26)) := c2.kept l2 g3 (fun k hk => by cases hk)
  have h3 := hp_on h2 (.cells #[.slice va ms.length vc] 26)
  have h4 := hp_new w2 (.cells #[.slice va ms.length vc] 26)
  have ho3 := ho.below (bel_alloc w2 (.cells #[.slice va ms.length vc] 26))
  have B3 := B2.trans ((bel_alloc w2 (.cells #[.slice va ms.length vc] 26)).mono B2.size)
  obtain ⟨w3, e3⟩ : ∃ q, q = w2.alloc (.cells #[.slice va ms.length vc] 26) := ⟨_, rfl⟩
  rw [← e3] at g3 c3 h3 h4 ho3 B3
  have E3 := Lib.hid e3
  clear e3 h2 B2 ho c2 g3
  (try dsimp only)
  go_wp2_with (rw [← E3.out])
  refine wp_region_held_drew (S := fun w' => w'.heap[w2.heap.size]? = some (.cells #[.slice va ms.length vc] 26)) (by kernel_rfl) h4 (fun HS => ?_)
  refine wpAnyH_take (i := 0) (oi := ⟨some 10, Op.load 26 (Operand.tmp 5), _, _, _, _⟩) (v := .agg #[.slice va ms.length vc]) rfl (by kernel_rfl) (by kernel_rfl) (by kernel_rfl) (fun _ _ _ h => h) (yields_row rfl rfl rfl tr_under (tr_size _) (fun w' hw' => hw')) HS ?_
  simp only [World.size_alloc, Act.put, List.setIfInBounds_toArray, List.set_cons_succ, List.set_cons_zero]
  refine wpAnyH_take (i := 1) (oi := ⟨some 11, Op.move (Operand.tmp 4), _, _, _, _⟩) (v := .pointer (some ⟨cb, 0, none⟩)) rfl (by kernel_rfl) (by kernel_rfl) (by kernel_rfl) (fun _ _ _ h => h) (Or.inl ⟨by rfl, fun W hW => by rfl⟩) HS ?_
  simp only [World.size_alloc, Act.put, List.setIfInBounds_toArray, List.set_cons_succ, List.set_cons_zero]
  refine wpAnyH_take (i := 2) (oi := ⟨some 12, Op.load 26 (Operand.tmp 5), _, _, _, _⟩) (v := .agg #[.slice va ms.length vc]) rfl (by kernel_rfl) (by kernel_rfl) (by kernel_rfl) (fun _ _ _ h => h) (yields_row rfl rfl rfl tr_under (tr_size _) (fun w' hw' => hw')) HS ?_
  simp only [World.size_alloc, Act.put, List.setIfInBounds_toArray, List.set_cons_succ, List.set_cons_zero]
  refine anyH_1 3 rfl (by kernel_rfl) rfl ?_
  go_wp2_with (fail)
  refine (l10at_any va vc ms.length cb a len cap w3.drew hm1 (by omega) (by have := hp_lt h4; show cb < w3.heap.size; omega) (fun h b off e => by have h1 := HAP.out h b off e; have h2 := B3.size; show b < w3.heap.size; omega) (c3.kept (show cb < w3.heap.size by have := hp_lt h4; omega) (row := none) ⟨rfl, rfl, rfl, Nat.le_refl _, fun _ _ _ => rfl⟩ (fun k hk => by cases hk))).mono ?_
  rintro e e1 ⟨z, rfl, z0, z1, c5, g5⟩
  (try dsimp only)
  have h5 := hp_grown' (show w3.drew.heap[w2.heap.size]? = _ from h4) g5 (by simp; omega)
  have hr5 := hp_grown' (show w3.drew.heap[w.heap.size]? = _ from h3) g5 (by simp; omega)
  have ho5 := ho3.kept (w' := e1) ⟨Nat.le_trans (Nat.le_refl _) g5.size, fun k h1 h2 => g5.block k h2 (by simp; omega)⟩
  have B5 := below_curT (wv := w3.drew) B3.drew B3.size g5 (by omega)
  clear g5 c5 c3 h3 h4 ho3 B3 HS
  have HS := h5
  refine ⟨HS, ?_⟩
  refine anyH_1 4 rfl (by kernel_rfl) rfl ?_
  have zr := c_of hr5
  have fr := Go.Joins.unfrozen_of_block hr5 0
  obtain ⟨w6, e6⟩ : ∃ q, q = e1.setCell ⟨w.heap.size, 0, none⟩ (.slice va ms.length vc) := ⟨_, rfl⟩
  have h6 : w6.heap[w2.heap.size]? = some (.cells #[.slice va ms.length vc] 26) := by rw [e6]; exact hp_set h5 (by have := hp_lt hr5; omega) 0 _
  have C6 := Lib.hid (show w6.cell? ⟨w.heap.size, 0, none⟩ = some (.slice va ms.length vc) by rw [e6]; exact c_of (Go.Joins.block_setCell (i := 0) hr5 _))
  have O6 := Lib.hid ((ho5.kept (w' := w6) (by rw [e6]; exact from_set (by omega) 0 _)).lower (show w.heap.size ≤ w1.heap.size by omega))
  have B6 := Lib.hid (show Below w.heap.size w w6 by rw [e6]; exact bl_set B5 (g := w.heap.size) 0 (Nat.le_refl _) _)
  have E6 := Lib.hid e6
  clear e6 hr5 ho5 B5 HS
  have HS := h6
  clear h5 h6
  go_wp2_with (fail)
  (try dsimp only)
  rw [← E6.out]
  refine ⟨HS, ?_⟩
  refine anyH_1 5 rfl (by kernel_rfl) rfl ?_
  clear zr fr
  go_wp2_with (fail)
  refine ⟨by kernel_rfl, ?_⟩
  go_wp2_with (fail)
  exact bodyPost_ret (results_trI rfl rfl rfl C6.out) rfl ⟨va, vc, ms, z, rfl, O6.out, hm1, hm2, hs, ⟨by omega, by omega⟩, B6.out⟩

set_option maxHeartbeats 1000000 in
theorem draw_case12 (a : Option Addr) (len cap : Nat) (w : World) (hl : len ≤ 1048576) (hc : Code w a len) :
    Calls Try.prog 89 #[.slice a len cap] w (TnDraw w) := by
  have h0 := hp_new w (.cells #[.slice none 0 0] 26)
  have bb := Go.Joins.below_alloc1 w (.cells #[.slice none 0 0] 26)
  obtain ⟨u, eu⟩ : ∃ u, u = w.alloc (.cells #[.slice none 0 0] 26) := ⟨_, rfl⟩
  rw [← eu] at h0 bb
  have EU := Lib.hid eu
  have hc0 := hc.below bb
  have hus : w.heap.size < u.heap.size := by rw [eu]; simp
  clear eu hc
  go_enter Try.func89, Try.ntmps89
  go_wp2_with (rw [← EU.out])
  refine (draw_depthof a len cap u hl hc0).mono ?_
  rintro e w1 ⟨va, vc, ms, z, rfl, ho, hm1, hm2, hs, hz, b1⟩
  have h1 := hp_below h0 b1
  have B1 := bb.trans (b1.mono (by omega))
  have hr := c_of h1
  have fr := Go.Joins.unfrozen_of_block h1 0
  obtain ⟨w6, e6⟩ : ∃ q, q = w1.setCell ⟨w.heap.size, 0, none⟩ (.slice va ms.length vc) := ⟨_, rfl⟩
  have C6 := Lib.hid (show w6.cell? ⟨w.heap.size, 0, none⟩ = some (.slice va ms.length vc) by rw [e6]; exact c_of (Go.Joins.block_setCell (i := 0) h1 _))
  have O6 := Lib.hid ((ho.kept (w' := w6) (by rw [e6]; exact from_set (by omega) 0 _)).lower (show w.heap.size ≤ u.heap.size by omega))
  have B6 := Lib.hid (show Below w.heap.size w w6 by rw [e6]; exact bl_set B1 (g := w.heap.size) 0 (Nat.le_refl _) _)
  have E6 := Lib.hid e6
  clear e6 h0 h1 ho b1 B1 bb
  (try dsimp only)
  go_wp2_with (rw [← E6.out])
  exact bodyPost_ret (results_trI rfl rfl rfl C6.out) rfl ⟨va, vc, ms, z, rfl, O6.out, hm1, hm2, hs, hz, B6.out⟩

set_option maxHeartbeats 1000000 in
theorem draw_flowkids (a : Option Addr) (len cap : Nat) (w : World) (hl : len ≤ 1048576) (hc : Code w a len) :
    Calls Try.prog 34 #[.slice a len cap] w (TnDraw w) := by
  have h0 := hp_new w (.cells #[.slice none 0 0] 26)
  have bb := Go.Joins.below_alloc1 w (.cells #[.slice none 0 0] 26)
  obtain ⟨u, eu⟩ : ∃ u, u = w.alloc (.cells #[.slice none 0 0] 26) := ⟨_, rfl⟩
  rw [← eu] at h0 bb
  have EU := Lib.hid eu
  have hc0 := hc.below bb
  have hus : w.heap.size < u.heap.size := by rw [eu]; simp
  clear eu hc
  go_enter Try.func34, Try.ntmps34
  go_wp2_with (rw [← EU.out])
  refine (draw_case12 a len cap u hl hc0).mono ?_
  rintro e w1 ⟨va, vc, ms, z, rfl, ho, hm1, hm2, hs, hz, b1⟩
  have h1 := hp_below h0 b1
  have B1 := bb.trans (b1.mono (by omega))
  have hr := c_of h1
  have fr := Go.Joins.unfrozen_of_block h1 0
  obtain ⟨w6, e6⟩ : ∃ q, q = w1.setCell ⟨w.heap.size, 0, none⟩ (.slice va ms.length vc) := ⟨_, rfl⟩
  have C6 := Lib.hid (show w6.cell? ⟨w.heap.size, 0, none⟩ = some (.slice va ms.length vc) by rw [e6]; exact c_of (Go.Joins.block_setCell (i := 0) h1 _))
  have O6 := Lib.hid ((ho.kept (w' := w6) (by rw [e6]; exact from_set (by omega) 0 _)).lower (show w.heap.size ≤ u.heap.size by omega))
  have B6 := Lib.hid (show Below w.heap.size w w6 by rw [e6]; exact bl_set B1 (g := w.heap.size) 0 (Nat.le_refl _) _)
  have E6 := Lib.hid e6
  clear e6 h0 h1 ho b1 B1 bb
  (try dsimp only)
  go_wp2_with (rw [← E6.out])
  exact bodyPost_ret (results_trI rfl rfl rfl C6.out) rfl ⟨va, vc, ms, z, rfl, O6.out, hm1, hm2, hs, hz, B6.out⟩
end Go.Proofs.Ytiogjbdaaplhpaa
end

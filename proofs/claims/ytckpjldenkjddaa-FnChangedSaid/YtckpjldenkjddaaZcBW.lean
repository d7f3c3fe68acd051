import Derived.Test.YtckpjldenkjddaaZcAS
import Derived.Test.YtckpjldenkjddaaZcBH
import Derived.Test.YtckpjldenkjddaaZcBJ
import Derived.Test.YtckpjldenkjddaaZcBQ
import Derived.Test.YtckpjldenkjddaaZcBV
section
namespace Go.Proofs.Ytckpjldenkjddaa
open Go.ChangeShapes Go.WideShapes Go.ChangeAt Go.RowKit
set_option linter.unusedVariables false
set_option linter.unusedSimpArgs false
set_option maxRecDepth 8000

def HpAt (g : Nat) (o : Obj) (w' : World) : Prop := w'.heap[g]? = some o
theorem load_tr {w : World} {g : Nat} {v : Value} (h : w.cell? ⟨g, 0, none⟩ = some v) : (loadVar 26 ⟨g, 0, none⟩).run Try.prog w = .ok (.agg #[v]) w :=
  run_loadVar_mid (P := Try.prog) w g 0 26 [v] (.struct (Try.prog.fieldsOf 26)) (fun j u hv => by
    match j, hv with
    | 0, hv => simp at hv; subst hv; exact h) (by kernel_rfl) rfl (by kernel_rfl)
theorem load_tb {w : World} {g : Nat} {v : Value} (h : w.cell? ⟨g, 0, none⟩ = some v) : (loadVar 51 ⟨g, 0, none⟩).run Try.prog w = .ok (.agg #[v]) w :=
  run_loadVar_mid (P := Try.prog) w g 0 51 [v] (.struct (Try.prog.fieldsOf 51)) (fun j u hv => by
    match j, hv with
    | 0, hv => simp at hv; subst hv; exact h) (by kernel_rfl) rfl (by kernel_rfl)
theorem results_tis {fn : Func} {p q r : Tmp} {b v : Value} {g g' : Nat} {w : World} {t : TypeId} {f : Nat → Int} (h : fn.results = #[.cell p 26, .tmp q, .cell r 41]) {tmps : Array Value} (hp : tmps.getD p undef = .pointer (some ⟨g, 0, none⟩)) (hq : tmps.getD q undef = b) (hr : tmps.getD r undef = .pointer (some ⟨g', 0, none⟩))
    (hc : w.cell? ⟨g, 0, none⟩ = some v) (hg : w.heap[g']? = some (.cells (sCells f) t)) : (results fn tmps).run Try.prog w = .ok (.tuple #[.agg #[v], b, .agg (sCells f)]) w := by
  have hl := load_tr hc
  have hl' := load_sty hg
  have hp' : tmps[p]?.getD undef = .pointer (some ⟨g, 0, none⟩) := by simpa using hp
  have hq' : tmps[q]?.getD undef = b := by simpa using hq
  have hr' : tmps[r]?.getD undef = .pointer (some ⟨g', 0, none⟩) := by simpa using hr
  simp [results, h, hp', hq', hr', asAddr, hl, hl']
theorem results_tit {fn : Func} {p q r : Tmp} {b v u : Value} {g g' : Nat} {w : World} (h : fn.results = #[.cell p 26, .tmp q, .cell r 51]) {tmps : Array Value} (hp : tmps.getD p undef = .pointer (some ⟨g, 0, none⟩)) (hq : tmps.getD q undef = b) (hr : tmps.getD r undef = .pointer (some ⟨g', 0, none⟩))
    (hc : w.cell? ⟨g, 0, none⟩ = some v) (hg : w.cell? ⟨g', 0, none⟩ = some u) : (results fn tmps).run Try.prog w = .ok (.tuple #[.agg #[v], b, .agg #[u]]) w := by
  have hl := load_tr hc
  have hl' := load_tb hg
  have hp' : tmps[p]?.getD undef = .pointer (some ⟨g, 0, none⟩) := by simpa using hp
  have hq' : tmps[q]?.getD undef = b := by simpa using hq
  have hr' : tmps[r]?.getD undef = .pointer (some ⟨g', 0, none⟩) := by simpa using hr
  simp [results, h, hp', hq', hr', asAddr, hl, hl']
theorem results_ts {fn : Func} {p r : Tmp} {v : Value} {g g' : Nat} {w : World} {t : TypeId} {f : Nat → Int} (h : fn.results = #[.cell p 26, .cell r 41]) {tmps : Array Value} (hp : tmps.getD p undef = .pointer (some ⟨g, 0, none⟩)) (hr : tmps.getD r undef = .pointer (some ⟨g', 0, none⟩))
    (hc : w.cell? ⟨g, 0, none⟩ = some v) (hg : w.heap[g']? = some (.cells (sCells f) t)) : (results fn tmps).run Try.prog w = .ok (.tuple #[.agg #[v], .agg (sCells f)]) w := by
  have hl := load_tr hc
  have hl' := load_sty hg
  have hp' : tmps[p]?.getD undef = .pointer (some ⟨g, 0, none⟩) := by simpa using hp
  have hr' : tmps[r]?.getD undef = .pointer (some ⟨g', 0, none⟩) := by simpa using hr
  simp [results, h, hp', hr', asAddr, hl, hl']
theorem from_row {lo g : Nat} {w : World} (hg : g < lo) (cs : Array Value) : From lo w (w.setRow g cs) := ⟨by rw [setRow_size]; exact Nat.le_refl _, fun k h1 _ => setRow_other w g k cs (by omega)⟩
def TsDraw (w : World) (e : Ending) (w' : World) : Prop :=
  ∃ (va : Option Addr) (vc : Nat) (ms : List ND) (z : Int) (f : Nat → Int), e = .returned (.tuple #[.agg #[.slice va ms.length vc], .int .i64 z, .agg (sCells f)]) ∧ OwnN w.heap.size (.slice va ms.length vc) ms w' ∧ 1 ≤ ms.length ∧ ms.length ≤ 13 ∧ szS (ms.map ND.n) ≤ 4000 ∧ (-1 ≤ z ∧ z ≤ 1000) ∧ InR f ∧ Below w.heap.size w w'
def TaDraw (w : World) (e : Ending) (w' : World) : Prop :=
  ∃ (va : Option Addr) (vc : Nat) (ms : List ND) (f : Nat → Int), e = .returned (.tuple #[.agg #[.slice va ms.length vc], .agg (sCells f)]) ∧ OwnN w.heap.size (.slice va ms.length vc) ms w' ∧ 1 ≤ ms.length ∧ ms.length ≤ 13 ∧ szS (ms.map ND.n) ≤ 4000 ∧ InR f ∧ Below w.heap.size w w'
def TtDraw (w : World) (e : Ending) (w' : World) : Prop :=
  ∃ (va : Option Addr) (vc : Nat) (ms : List ND) (z : Int) (b n tc : Nat) (rs : List Int), e = .returned (.tuple #[.agg #[.slice va ms.length vc], .int .i64 z, .agg #[.slice (some ⟨b, 0, none⟩) n tc]]) ∧ OwnN w.heap.size (.slice va ms.length vc) ms w' ∧ 1 ≤ ms.length ∧ ms.length ≤ 13 ∧ szS (ms.map ND.n) ≤ 4000 ∧ (-1 ≤ z ∧ z ≤ 1000) ∧ n ≤ 7 ∧ AllI rs ∧ RowR w.heap.size (.slice (some ⟨b, 0, none⟩) n tc) n rs w' ∧ Below w.heap.size w w'

set_option maxHeartbeats 2000000 in
theorem draw_setstyle (a : Option Addr) (len cap : Nat) (w : World) (hl : len ≤ 1048576) (hc : Code w a len) :
    Calls Try.prog 24 #[.slice a len cap] w (TsDraw w) := by
  have hap := fun h0 => code_lt hc h0
  obtain ⟨u0, eu0⟩ : ∃ q, q = w.alloc (.cells #[.slice none 0 0] 26) := ⟨_, rfl⟩
  obtain ⟨u, eu⟩ : ∃ q, q = u0.alloc (.cells (sCells fun _ => 0) 41) := ⟨_, rfl⟩
  have s0 : u0.heap.size = w.heap.size + 1 := by rw [eu0]; simp
  have h0 : u.heap[w.heap.size]? = some (.cells #[.slice none 0 0] 26) := by rw [eu, eu0]; exact hp_on (hp_new w _) _
  have k0 : u.heap[w.heap.size + 1]? = some (.cells (sCells fun _ => 0) 41) := by rw [eu, ← s0]; exact hp_new u0 _
  have bb : Below w.heap.size w u := by rw [eu, eu0]; exact Go.Joins.below_alloc2 ..
  have hus : w.heap.size + 1 < u.heap.size := by rw [eu]; simp; omega
  have EU0 := Lib.hid eu0
  have EU := Lib.hid eu
  have HAP := Lib.hid (show 0 < len → ∀ b off, a = some ⟨b, off, none⟩ → b < w.heap.size from hap)
  have hc0 := hc.below bb
  have S0 := Lib.hid s0
  clear eu eu0 s0 hap hc
  go_enter Try.func24, Try.ntmps24
  go_wp2_with (first | (rw [← EU0.out]) | (rw [← EU.out]) | ((with_reducible apply list_alloc_sty); exact rfl; exact rfl; simp only [World.size_alloc, Act.put, List.setIfInBounds_toArray, List.set_cons_succ, List.set_cons_zero]))
  (try rw [← EU.out])
  (try rw [S0.out])
  refine (new_cur a len cap u hl hc0).mono ?_
  rintro e w1 ⟨rfl, c1, b1, s1⟩
  have h1 := hp_below h0 b1
  have k1 := hp_below k0 b1
  have B1 := bb.trans (b1.mono (by omega))
  generalize u.heap.size = cb at *
  clear h0 k0 bb b1 hc0
  (try dsimp only)
  go_wp2_with (fail)
  refine (l10any_any cb a len cap w1 s1 (fun h b off e => by have := HAP.out h b off e; have := B1.size; omega) c1).mono ?_
  rintro e w2 ⟨va, vc, ms, rfl, ho, hm1, hm2, hs, c2, g2⟩
  have h2 := hp_grown' h1 g2 (by simp; omega)
  have k2 := hp_grown' k1 g2 (by simp; omega)
  have B2 := below_curT B1 B1.size g2 (by omega)
  have l2 : cb < w2.heap.size := by have := g2.size; omega
  have hrl : cb < w1.heap.size := s1
  clear h1 k1 B1 g2 c1
  have g3 := World.grownBy_alloc w2 (.cells #[.slice va ms.length vc] 26) none
  have c3 : Cur cb a len cap (w2.alloc (.cells #[.slice va ms.length vc] 26)) := c2.kept l2 g3 (fun k hk => by cases hk)
  have h3 := hp_on h2 (.cells #[.slice va ms.length vc] 26)
  have k3 := hp_on k2 (.cells #[.slice va ms.length vc] 26)
  have h4 := hp_new w2 (.cells #[.slice va ms.length vc] 26)
  have ho3 := ho.below (bel_alloc w2 (.cells #[.slice va ms.length vc] 26))
  have B3 := B2.trans ((bel_alloc w2 (.cells #[.slice va ms.length vc] 26)).mono B2.size)
  obtain ⟨w3, e3⟩ : ∃ q, q = w2.alloc (.cells #[.slice va ms.length vc] 26) := ⟨_, rfl⟩
  rw [← e3] at g3 c3 h3 k3 h4 ho3 B3
  have E3 := Lib.hid e3
  have hlt2 : w2.heap.size < w3.heap.size := hp_lt h4
  clear e3 h2 k2 B2 ho c2 g3
  (try dsimp only)
  go_wp2_with (rw [← E3.out])
  refine wp_region_held_drew (S := HpAt w2.heap.size (.cells #[.slice va ms.length vc] 26)) (by kernel_rfl) h4 (fun HS => ?_)
  have c4 : Cur cb a len cap w3.drew := c3.kept (show cb < w3.heap.size by omega) (row := none) ⟨rfl, rfl, rfl, Nat.le_refl _, fun _ _ _ => rfl⟩ (fun k hk => by cases hk)
  have h5 : w3.drew.heap[w.heap.size]? = some (.cells #[.slice none 0 0] 26) := h3
  have k5 : w3.drew.heap[w.heap.size + 1]? = some (.cells (sCells fun _ => 0) 41) := k3
  have ho5 : OwnN w1.heap.size (.slice va ms.length vc) ms w3.drew := ho3.kept (w' := w3.drew) ⟨Nat.le_refl _, fun k h1 h2 => rfl⟩
  have B5 : Below w.heap.size w w3.drew := B3.drew
  have sz5 : w2.heap.size < w3.drew.heap.size := hlt2
  have HS : w3.drew.heap[w2.heap.size]? = some (.cells #[.slice va ms.length vc] 26) := h4
  clear c3 h3 k3 ho3 B3 h4
  generalize w3.drew = d3 at *
  refine wpAnyH_take (i := 0) (oi := ⟨some 11, Op.load 26 (Operand.tmp 6), _, _, _, _⟩) (v := .agg #[.slice va ms.length vc]) rfl (by kernel_rfl) (by kernel_rfl) (by kernel_rfl) (fun _ _ _ h => h) (yields_row rfl rfl rfl tr_under (tr_size _) (fun w' hw' => hw')) HS ?_
  simp only [World.size_alloc, Act.put, List.setIfInBounds_toArray, List.set_cons_succ, List.set_cons_zero]
  refine wpAnyH_take (i := 1) (oi := ⟨some 12, Op.move (Operand.tmp 5), _, _, _, _⟩) (v := .pointer (some ⟨cb, 0, none⟩)) rfl (by kernel_rfl) (by kernel_rfl) (by kernel_rfl) (fun _ _ _ h => h) (Or.inl ⟨by rfl, fun W hW => by rfl⟩) HS ?_
  simp only [World.size_alloc, Act.put, List.setIfInBounds_toArray, List.set_cons_succ, List.set_cons_zero]
  refine wpAnyH_take (i := 2) (oi := ⟨some 13, Op.load 26 (Operand.tmp 6), _, _, _, _⟩) (v := .agg #[.slice va ms.length vc]) rfl (by kernel_rfl) (by kernel_rfl) (by kernel_rfl) (fun _ _ _ h => h) (yields_row rfl rfl rfl tr_under (tr_size _) (fun w' hw' => hw')) HS ?_
  simp only [World.size_alloc, Act.put, List.setIfInBounds_toArray, List.set_cons_succ, List.set_cons_zero]
  refine wpAnyH_take (i := 4) (oi := ⟨some 15, Op.move (Operand.tmp 5), _, _, _, _⟩) (v := .pointer (some ⟨cb, 0, none⟩)) rfl (by kernel_rfl) (by kernel_rfl) (by kernel_rfl) (fun _ _ _ h => h) (Or.inl ⟨by rfl, fun W hW => by rfl⟩) HS ?_
  simp only [World.size_alloc, Act.put, List.setIfInBounds_toArray, List.set_cons_succ, List.set_cons_zero]
  refine anyH_1 3 rfl (by kernel_rfl) rfl ?_
  go_wp2_with (fail)
  refine (l10at_any va vc ms.length cb a len cap d3 hm1 (by omega) (by omega) (fun h b off e => by have h1 := HAP.out h b off e; have h2 := B5.size; omega) c4).mono ?_
  rintro e e1 ⟨z, rfl, z0, z1, c5, g5⟩
  (try dsimp only)
  replace HS := hp_grown' HS g5 (by simp; omega)
  replace h5 := hp_grown' h5 g5 (by simp; omega)
  replace k5 := hp_grown' k5 g5 (by simp; omega)
  replace ho5 := ho5.kept (w' := e1) ⟨g5.size, fun k h1 h2 => g5.block k h2 (by simp; omega)⟩
  replace B5 := below_curT B5 B5.size g5 (by omega)
  replace sz5 := Nat.lt_of_lt_of_le sz5 g5.size
  clear g5 c4
  refine ⟨HS, ?_⟩
  (try simp only [World.size_alloc, Act.put, List.setIfInBounds_toArray, List.set_cons_succ, List.set_cons_zero])
  refine anyH_1 5 rfl (by kernel_rfl) rfl ?_
  go_wp2_with (fail)
  refine (anysty_in cb a len cap e1 (by omega) (fun h b off e => by have h1 := HAP.out h b off e; have h2 := B5.size; omega) c5).mono ?_
  rintro e e2 ⟨f, rfl, hf, c6, g6⟩
  (try dsimp only)
  replace HS := hp_grown' HS g6 (by simp; omega)
  replace h5 := hp_grown' h5 g6 (by simp; omega)
  replace k5 := hp_grown' k5 g6 (by simp; omega)
  replace ho5 := ho5.kept (w' := e2) ⟨g6.size, fun k h1 h2 => g6.block k h2 (by simp; omega)⟩
  replace B5 := below_curT B5 B5.size g6 (by omega)
  have sz6 := Nat.lt_of_lt_of_le sz5 g6.size
  clear g6 c6 c5
  refine ⟨HS, ?_⟩
  (try simp only [World.size_alloc, Act.put, List.setIfInBounds_toArray, List.set_cons_succ, List.set_cons_zero])
  refine anyH_1 6 rfl (by kernel_rfl) rfl ?_
  have zr := c_of h5
  have fr := Go.Joins.unfrozen_of_block h5 0
  obtain ⟨w6, e6⟩ : ∃ q, q = e2.setCell ⟨w.heap.size, 0, none⟩ (.slice va ms.length vc) := ⟨_, rfl⟩
  have h6 : w6.heap[w2.heap.size]? = some (.cells #[.slice va ms.length vc] 26) := by rw [e6]; exact hp_set HS (by omega) 0 _
  have k6 : w6.heap[w.heap.size + 1]? = some (.cells (sCells fun _ => 0) 41) := by rw [e6]; exact hp_set k5 (by omega) 0 _
  have q6 : w6.heap[w.heap.size]? = some (.cells #[.slice va ms.length vc] 26) := by rw [e6]; exact Go.Joins.block_setCell (i := 0) h5 _
  have o6 : OwnN w1.heap.size (.slice va ms.length vc) ms w6 := ho5.kept (w' := w6) (by rw [e6]; exact from_set (by omega) 0 _)
  have b6 : Below w.heap.size w w6 := by rw [e6]; exact bl_set B5 (g := w.heap.size) 0 (Nat.le_refl _) _
  have s6 : w6.heap.size = e2.heap.size := by rw [e6]; simp
  have E6 := Lib.hid e6
  clear e6 HS k5 ho5 B5
  go_wp2_with (fail)
  (try dsimp only)
  rw [← E6.out]
  refine ⟨h6, ?_⟩
  (try simp only [World.size_alloc, Act.put, List.setIfInBounds_toArray, List.set_cons_succ, List.set_cons_zero])
  clear zr fr h5
  refine anyH_1 7 rfl (by kernel_rfl) rfl ?_
  go_wp2_with (fail)
  refine ⟨h6, ?_⟩
  (try simp only [World.size_alloc, Act.put, List.setIfInBounds_toArray, List.set_cons_succ, List.set_cons_zero])
  refine anyH_1 8 rfl (by kernel_rfl) rfl ?_
  refine wp_put_sty rfl rfl rfl k6 ?_
  have C7 := Lib.hid (c_of (hp_row q6 (g' := w.heap.size + 1) (by omega) (sCells f)))
  have K7 := Lib.hid (show (w6.setRow (w.heap.size + 1) (sCells f)).heap[w.heap.size + 1]? = some (.cells (sCells f) 41) from setRow_heap _ _ _ _ _ _ k6)
  have O7 := Lib.hid ((o6.kept (from_row (g := w.heap.size + 1) (by omega) (sCells f))).lower (show w.heap.size ≤ w1.heap.size by omega))
  have B7 := Lib.hid (below_setRow b6 (g := w.heap.size + 1) (by omega) (sCells f))
  have HS7 := hp_row h6 (g' := w.heap.size + 1) (by omega) (sCells f)
  clear h6 k6 q6 o6 b6
  refine ⟨HS7, ?_⟩
  refine wpAnyH_done (by kernel_rfl) ?_ _
  go_wp2
  exact bodyPost_ret (results_tis rfl rfl rfl rfl C7.out K7.out) rfl ⟨va, vc, ms, z, f, rfl, O7.out, hm1, hm2, hs, ⟨by omega, by omega⟩, hf, B7.out⟩
set_option maxHeartbeats 2000000 in
theorem draw_addnode (a : Option Addr) (len cap : Nat) (w : World) (hl : len ≤ 1048576) (hc : Code w a len) :
    Calls Try.prog 32 #[.slice a len cap] w (TaDraw w) := by
  have hap := fun h0 => code_lt hc h0
  obtain ⟨u0, eu0⟩ : ∃ q, q = w.alloc (.cells #[.slice none 0 0] 26) := ⟨_, rfl⟩
  obtain ⟨u, eu⟩ : ∃ q, q = u0.alloc (.cells (sCells fun _ => 0) 41) := ⟨_, rfl⟩
  have s0 : u0.heap.size = w.heap.size + 1 := by rw [eu0]; simp
  have h0 : u.heap[w.heap.size]? = some (.cells #[.slice none 0 0] 26) := by rw [eu, eu0]; exact hp_on (hp_new w _) _
  have k0 : u.heap[w.heap.size + 1]? = some (.cells (sCells fun _ => 0) 41) := by rw [eu, ← s0]; exact hp_new u0 _
  have bb : Below w.heap.size w u := by rw [eu, eu0]; exact Go.Joins.below_alloc2 ..
  have hus : w.heap.size + 1 < u.heap.size := by rw [eu]; simp; omega
  have EU0 := Lib.hid eu0
  have EU := Lib.hid eu
  have HAP := Lib.hid (show 0 < len → ∀ b off, a = some ⟨b, off, none⟩ → b < w.heap.size from hap)
  have hc0 := hc.below bb
  have S0 := Lib.hid s0
  clear eu eu0 s0 hap hc
  go_enter Try.func32, Try.ntmps32
  go_wp2_with (first | (rw [← EU0.out]) | (rw [← EU.out]) | ((with_reducible apply list_alloc_sty); exact rfl; exact rfl; simp only [World.size_alloc, Act.put, List.setIfInBounds_toArray, List.set_cons_succ, List.set_cons_zero]))
  (try rw [← EU.out])
  (try rw [S0.out])
  refine (new_cur a len cap u hl hc0).mono ?_
  rintro e w1 ⟨rfl, c1, b1, s1⟩
  have h1 := hp_below h0 b1
  have k1 := hp_below k0 b1
  have B1 := bb.trans (b1.mono (by omega))
  generalize u.heap.size = cb at *
  clear h0 k0 bb b1 hc0
  (try dsimp only)
  go_wp2_with (fail)
  refine (l10any_any cb a len cap w1 s1 (fun h b off e => by have := HAP.out h b off e; have := B1.size; omega) c1).mono ?_
  rintro e w2 ⟨va, vc, ms, rfl, ho, hm1, hm2, hs, c2, g2⟩
  have h2 := hp_grown' h1 g2 (by simp; omega)
  have k2 := hp_grown' k1 g2 (by simp; omega)
  have B2 := below_curT B1 B1.size g2 (by omega)
  have l2 : cb < w2.heap.size := by have := g2.size; omega
  have hrl : cb < w1.heap.size := s1
  clear h1 k1 B1 g2 c1
  have g3 := World.grownBy_alloc w2 (.cells #[.slice va ms.length vc] 26) none
  have c3 : Cur cb a len cap (w2.alloc (.cells #[.slice va ms.length vc] 26)) := c2.kept l2 g3 (fun k hk => by cases hk)
  have h3 := hp_on h2 (.cells #[.slice va ms.length vc] 26)
  have k3 := hp_on k2 (.cells #[.slice va ms.length vc] 26)
  have h4 := hp_new w2 (.cells #[.slice va ms.length vc] 26)
  have ho3 := ho.below (bel_alloc w2 (.cells #[.slice va ms.length vc] 26))
  have B3 := B2.trans ((bel_alloc w2 (.cells #[.slice va ms.length vc] 26)).mono B2.size)
  obtain ⟨w3, e3⟩ : ∃ q, q = w2.alloc (.cells #[.slice va ms.length vc] 26) := ⟨_, rfl⟩
  rw [← e3] at g3 c3 h3 k3 h4 ho3 B3
  have E3 := Lib.hid e3
  have hlt2 : w2.heap.size < w3.heap.size := hp_lt h4
  clear e3 h2 k2 B2 ho c2 g3
  (try dsimp only)
  go_wp2_with (rw [← E3.out])
  refine wp_region_held_drew (S := HpAt w2.heap.size (.cells #[.slice va ms.length vc] 26)) (by kernel_rfl) h4 (fun HS => ?_)
  have c4 : Cur cb a len cap w3.drew := c3.kept (show cb < w3.heap.size by omega) (row := none) ⟨rfl, rfl, rfl, Nat.le_refl _, fun _ _ _ => rfl⟩ (fun k hk => by cases hk)
  have h5 : w3.drew.heap[w.heap.size]? = some (.cells #[.slice none 0 0] 26) := h3
  have k5 : w3.drew.heap[w.heap.size + 1]? = some (.cells (sCells fun _ => 0) 41) := k3
  have ho5 : OwnN w1.heap.size (.slice va ms.length vc) ms w3.drew := ho3.kept (w' := w3.drew) ⟨Nat.le_refl _, fun k h1 h2 => rfl⟩
  have B5 : Below w.heap.size w w3.drew := B3.drew
  have sz5 : w2.heap.size < w3.drew.heap.size := hlt2
  have HS : w3.drew.heap[w2.heap.size]? = some (.cells #[.slice va ms.length vc] 26) := h4
  clear c3 h3 k3 ho3 B3 h4
  generalize w3.drew = d3 at *
  refine wpAnyH_take (i := 0) (oi := ⟨some 10, Op.load 26 (Operand.tmp 5), _, _, _, _⟩) (v := .agg #[.slice va ms.length vc]) rfl (by kernel_rfl) (by kernel_rfl) (by kernel_rfl) (fun _ _ _ h => h) (yields_row rfl rfl rfl tr_under (tr_size _) (fun w' hw' => hw')) HS ?_
  simp only [World.size_alloc, Act.put, List.setIfInBounds_toArray, List.set_cons_succ, List.set_cons_zero]
  refine wpAnyH_take (i := 1) (oi := ⟨some 11, Op.move (Operand.tmp 4), _, _, _, _⟩) (v := .pointer (some ⟨cb, 0, none⟩)) rfl (by kernel_rfl) (by kernel_rfl) (by kernel_rfl) (fun _ _ _ h => h) (Or.inl ⟨by rfl, fun W hW => by rfl⟩) HS ?_
  simp only [World.size_alloc, Act.put, List.setIfInBounds_toArray, List.set_cons_succ, List.set_cons_zero]
  refine anyH_1 2 rfl (by kernel_rfl) rfl ?_
  go_wp2_with (fail)
  refine (anysty_in cb a len cap d3 (by omega) (fun h b off e => by have h1 := HAP.out h b off e; have h2 := B5.size; omega) c4).mono ?_
  rintro e e2 ⟨f, rfl, hf, c6, g6⟩
  (try dsimp only)
  replace HS := hp_grown' HS g6 (by simp; omega)
  replace h5 := hp_grown' h5 g6 (by simp; omega)
  replace k5 := hp_grown' k5 g6 (by simp; omega)
  replace ho5 := ho5.kept (w' := e2) ⟨g6.size, fun k h1 h2 => g6.block k h2 (by simp; omega)⟩
  replace B5 := below_curT B5 B5.size g6 (by omega)
  have sz6 := Nat.lt_of_lt_of_le sz5 g6.size
  clear g6 c6 c4
  refine ⟨HS, ?_⟩
  (try simp only [World.size_alloc, Act.put, List.setIfInBounds_toArray, List.set_cons_succ, List.set_cons_zero])
  refine anyH_1 3 rfl (by kernel_rfl) rfl ?_
  have zr := c_of h5
  have fr := Go.Joins.unfrozen_of_block h5 0
  obtain ⟨w6, e6⟩ : ∃ q, q = e2.setCell ⟨w.heap.size, 0, none⟩ (.slice va ms.length vc) := ⟨_, rfl⟩
  have h6 : w6.heap[w2.heap.size]? = some (.cells #[.slice va ms.length vc] 26) := by rw [e6]; exact hp_set HS (by omega) 0 _
  have k6 : w6.heap[w.heap.size + 1]? = some (.cells (sCells fun _ => 0) 41) := by rw [e6]; exact hp_set k5 (by omega) 0 _
  have q6 : w6.heap[w.heap.size]? = some (.cells #[.slice va ms.length vc] 26) := by rw [e6]; exact Go.Joins.block_setCell (i := 0) h5 _
  have o6 : OwnN w1.heap.size (.slice va ms.length vc) ms w6 := ho5.kept (w' := w6) (by rw [e6]; exact from_set (by omega) 0 _)
  have b6 : Below w.heap.size w w6 := by rw [e6]; exact bl_set B5 (g := w.heap.size) 0 (Nat.le_refl _) _
  have s6 : w6.heap.size = e2.heap.size := by rw [e6]; simp
  have E6 := Lib.hid e6
  clear e6 HS k5 ho5 B5
  go_wp2_with (fail)
  (try dsimp only)
  rw [← E6.out]
  refine ⟨h6, ?_⟩
  (try simp only [World.size_alloc, Act.put, List.setIfInBounds_toArray, List.set_cons_succ, List.set_cons_zero])
  clear zr fr h5
  refine anyH_1 4 rfl (by kernel_rfl) rfl ?_
  refine wp_put_sty rfl rfl rfl k6 ?_
  have C7 := Lib.hid (c_of (hp_row q6 (g' := w.heap.size + 1) (by omega) (sCells f)))
  have K7 := Lib.hid (show (w6.setRow (w.heap.size + 1) (sCells f)).heap[w.heap.size + 1]? = some (.cells (sCells f) 41) from setRow_heap _ _ _ _ _ _ k6)
  have O7 := Lib.hid ((o6.kept (from_row (g := w.heap.size + 1) (by omega) (sCells f))).lower (show w.heap.size ≤ w1.heap.size by omega))
  have B7 := Lib.hid (below_setRow b6 (g := w.heap.size + 1) (by omega) (sCells f))
  have HS7 := hp_row h6 (g' := w.heap.size + 1) (by omega) (sCells f)
  clear h6 k6 q6 o6 b6
  refine ⟨HS7, ?_⟩
  refine wpAnyH_done (by kernel_rfl) ?_ _
  go_wp2
  exact bodyPost_ret (results_ts rfl rfl rfl C7.out K7.out) rfl ⟨va, vc, ms, f, rfl, O7.out, hm1, hm2, hs, hf, B7.out⟩
set_option maxHeartbeats 2000000 in
theorem draw_settable (a : Option Addr) (len cap : Nat) (w : World) (hl : len ≤ 1048576) (hc : Code w a len) :
    Calls Try.prog 27 #[.slice a len cap] w (TtDraw w) := by
  have hap := fun h0 => code_lt hc h0
  obtain ⟨u0, eu0⟩ : ∃ q, q = w.alloc (.cells #[.slice none 0 0] 26) := ⟨_, rfl⟩
  obtain ⟨u, eu⟩ : ∃ q, q = u0.alloc (.cells #[.slice none 0 0] 51) := ⟨_, rfl⟩
  have s0 : u0.heap.size = w.heap.size + 1 := by rw [eu0]; simp
  have h0 : u.heap[w.heap.size]? = some (.cells #[.slice none 0 0] 26) := by rw [eu, eu0]; exact hp_on (hp_new w _) _
  have k0 : u.heap[w.heap.size + 1]? = some (.cells #[.slice none 0 0] 51) := by rw [eu, ← s0]; exact hp_new u0 _
  have bb : Below w.heap.size w u := by rw [eu, eu0]; exact Go.Joins.below_alloc2 ..
  have hus : w.heap.size + 1 < u.heap.size := by rw [eu]; simp; omega
  have EU0 := Lib.hid eu0
  have EU := Lib.hid eu
  have HAP := Lib.hid (show 0 < len → ∀ b off, a = some ⟨b, off, none⟩ → b < w.heap.size from hap)
  have hc0 := hc.below bb
  have S0 := Lib.hid s0
  clear eu eu0 s0 hap hc
  go_enter Try.func27, Try.ntmps27
  go_wp2_with (first | (rw [← EU0.out]) | (rw [← EU.out]))
  (try rw [← EU.out])
  (try rw [S0.out])
  refine (new_cur a len cap u hl hc0).mono ?_
  rintro e w1 ⟨rfl, c1, b1, s1⟩
  have h1 := hp_below h0 b1
  have k1 := hp_below k0 b1
  have B1 := bb.trans (b1.mono (by omega))
  generalize u.heap.size = cb at *
  clear h0 k0 bb b1 hc0
  (try dsimp only)
  go_wp2_with (fail)
  refine (l10any_any cb a len cap w1 s1 (fun h b off e => by have := HAP.out h b off e; have := B1.size; omega) c1).mono ?_
  rintro e w2 ⟨va, vc, ms, rfl, ho, hm1, hm2, hs, c2, g2⟩
  have h2 := hp_grown' h1 g2 (by simp; omega)
  have k2 := hp_grown' k1 g2 (by simp; omega)
  have B2 := below_curT B1 B1.size g2 (by omega)
  have l2 : cb < w2.heap.size := by have := g2.size; omega
  have hrl : cb < w1.heap.size := s1
  clear h1 k1 B1 g2 c1
  have g3 := World.grownBy_alloc w2 (.cells #[.slice va ms.length vc] 26) none
  have c3 : Cur cb a len cap (w2.alloc (.cells #[.slice va ms.length vc] 26)) := c2.kept l2 g3 (fun k hk => by cases hk)
  have h3 := hp_on h2 (.cells #[.slice va ms.length vc] 26)
  have k3 := hp_on k2 (.cells #[.slice va ms.length vc] 26)
  have h4 := hp_new w2 (.cells #[.slice va ms.length vc] 26)
  have ho3 := ho.below (bel_alloc w2 (.cells #[.slice va ms.length vc] 26))
  have B3 := B2.trans ((bel_alloc w2 (.cells #[.slice va ms.length vc] 26)).mono B2.size)
  obtain ⟨w3, e3⟩ : ∃ q, q = w2.alloc (.cells #[.slice va ms.length vc] 26) := ⟨_, rfl⟩
  rw [← e3] at g3 c3 h3 k3 h4 ho3 B3
  have E3 := Lib.hid e3
  have hlt2 : w2.heap.size < w3.heap.size := hp_lt h4
  clear e3 h2 k2 B2 ho c2 g3
  (try dsimp only)
  go_wp2_with (rw [← E3.out])
  refine wp_region_held_drew (S := HpAt w2.heap.size (.cells #[.slice va ms.length vc] 26)) (by kernel_rfl) h4 (fun HS => ?_)
  have c4 : Cur cb a len cap w3.drew := c3.kept (show cb < w3.heap.size by omega) (row := none) ⟨rfl, rfl, rfl, Nat.le_refl _, fun _ _ _ => rfl⟩ (fun k hk => by cases hk)
  have h5 : w3.drew.heap[w.heap.size]? = some (.cells #[.slice none 0 0] 26) := h3
  have k5 : w3.drew.heap[w.heap.size + 1]? = some (.cells #[.slice none 0 0] 51) := k3
  have ho5 : OwnN w1.heap.size (.slice va ms.length vc) ms w3.drew := ho3.kept (w' := w3.drew) ⟨Nat.le_refl _, fun k h1 h2 => rfl⟩
  have B5 : Below w.heap.size w w3.drew := B3.drew
  have sz5 : w2.heap.size < w3.drew.heap.size := hlt2
  have HS : w3.drew.heap[w2.heap.size]? = some (.cells #[.slice va ms.length vc] 26) := h4
  clear c3 h3 k3 ho3 B3 h4
  generalize w3.drew = d3 at *
  refine wpAnyH_take (i := 0) (oi := ⟨some 11, Op.load 26 (Operand.tmp 6), _, _, _, _⟩) (v := .agg #[.slice va ms.length vc]) rfl (by kernel_rfl) (by kernel_rfl) (by kernel_rfl) (fun _ _ _ h => h) (yields_row rfl rfl rfl tr_under (tr_size _) (fun w' hw' => hw')) HS ?_
  simp only [World.size_alloc, Act.put, List.setIfInBounds_toArray, List.set_cons_succ, List.set_cons_zero]
  refine wpAnyH_take (i := 1) (oi := ⟨some 12, Op.move (Operand.tmp 5), _, _, _, _⟩) (v := .pointer (some ⟨cb, 0, none⟩)) rfl (by kernel_rfl) (by kernel_rfl) (by kernel_rfl) (fun _ _ _ h => h) (Or.inl ⟨by rfl, fun W hW => by rfl⟩) HS ?_
  simp only [World.size_alloc, Act.put, List.setIfInBounds_toArray, List.set_cons_succ, List.set_cons_zero]
  refine wpAnyH_take (i := 2) (oi := ⟨some 13, Op.load 26 (Operand.tmp 6), _, _, _, _⟩) (v := .agg #[.slice va ms.length vc]) rfl (by kernel_rfl) (by kernel_rfl) (by kernel_rfl) (fun _ _ _ h => h) (yields_row rfl rfl rfl tr_under (tr_size _) (fun w' hw' => hw')) HS ?_
  simp only [World.size_alloc, Act.put, List.setIfInBounds_toArray, List.set_cons_succ, List.set_cons_zero]
  refine wpAnyH_take (i := 4) (oi := ⟨some 15, Op.move (Operand.tmp 5), _, _, _, _⟩) (v := .pointer (some ⟨cb, 0, none⟩)) rfl (by kernel_rfl) (by kernel_rfl) (by kernel_rfl) (fun _ _ _ h => h) (Or.inl ⟨by rfl, fun W hW => by rfl⟩) HS ?_
  simp only [World.size_alloc, Act.put, List.setIfInBounds_toArray, List.set_cons_succ, List.set_cons_zero]
  refine anyH_1 3 rfl (by kernel_rfl) rfl ?_
  go_wp2_with (fail)
  refine (l10at_any va vc ms.length cb a len cap d3 hm1 (by omega) (by omega) (fun h b off e => by have h1 := HAP.out h b off e; have h2 := B5.size; omega) c4).mono ?_
  rintro e e1 ⟨z, rfl, z0, z1, c5, g5⟩
  (try dsimp only)
  replace HS := hp_grown' HS g5 (by simp; omega)
  replace h5 := hp_grown' h5 g5 (by simp; omega)
  replace k5 := hp_grown' k5 g5 (by simp; omega)
  replace ho5 := ho5.kept (w' := e1) ⟨g5.size, fun k h1 h2 => g5.block k h2 (by simp; omega)⟩
  replace B5 := below_curT B5 B5.size g5 (by omega)
  replace sz5 := Nat.lt_of_lt_of_le sz5 g5.size
  clear g5 c4
  refine ⟨HS, ?_⟩
  (try simp only [World.size_alloc, Act.put, List.setIfInBounds_toArray, List.set_cons_succ, List.set_cons_zero])
  refine anyH_1 5 rfl (by kernel_rfl) rfl ?_
  go_wp2_with (fail)
  refine (l09a_any cb a len cap e1 (by omega) (fun h b off e => by have h1 := HAP.out h b off e; have h2 := B5.size; omega) c5).mono ?_
  rintro e e2 ⟨tb, tn, tc, rs, rfl, htn, hrs, hrow, c6, g6⟩
  (try dsimp only)
  replace HS := hp_grown' HS g6 (by simp; omega)
  replace h5 := hp_grown' h5 g6 (by simp; omega)
  replace k5 := hp_grown' k5 g6 (by simp; omega)
  replace ho5 := ho5.kept (w' := e2) ⟨g6.size, fun k h1 h2 => g6.block k h2 (by simp; omega)⟩
  replace B5 := below_curT B5 B5.size g6 (by omega)
  have sz6 := Nat.lt_of_lt_of_le sz5 g6.size
  clear g6 c6 c5
  refine ⟨HS, ?_⟩
  (try simp only [World.size_alloc, Act.put, List.setIfInBounds_toArray, List.set_cons_succ, List.set_cons_zero])
  refine anyH_1 6 rfl (by kernel_rfl) rfl ?_
  have zr := c_of h5
  have fr := Go.Joins.unfrozen_of_block h5 0
  obtain ⟨w6, e6⟩ : ∃ q, q = e2.setCell ⟨w.heap.size, 0, none⟩ (.slice va ms.length vc) := ⟨_, rfl⟩
  have h6 : w6.heap[w2.heap.size]? = some (.cells #[.slice va ms.length vc] 26) := by rw [e6]; exact hp_set HS (by omega) 0 _
  have k6 : w6.heap[w.heap.size + 1]? = some (.cells #[.slice none 0 0] 51) := by rw [e6]; exact hp_set k5 (by omega) 0 _
  have q6 : w6.heap[w.heap.size]? = some (.cells #[.slice va ms.length vc] 26) := by rw [e6]; exact Go.Joins.block_setCell (i := 0) h5 _
  have o6 : OwnN w1.heap.size (.slice va ms.length vc) ms w6 := ho5.kept (w' := w6) (by rw [e6]; exact from_set (by omega) 0 _)
  have b6 : Below w.heap.size w w6 := by rw [e6]; exact bl_set B5 (g := w.heap.size) 0 (Nat.le_refl _) _
  have s6 : w6.heap.size = e2.heap.size := by rw [e6]; simp
  have E6 := Lib.hid e6
  have r6 : RowR e1.heap.size (.slice (some ⟨tb, 0, none⟩) tn tc) tn rs w6 := ownsRow_from (w' := w6) hrow (by rw [e6]; exact from_set (by omega) 0 _)
  clear e6 HS k5 ho5 B5
  go_wp2_with (fail)
  (try dsimp only)
  rw [← E6.out]
  refine ⟨h6, ?_⟩
  (try simp only [World.size_alloc, Act.put, List.setIfInBounds_toArray, List.set_cons_succ, List.set_cons_zero])
  clear zr fr h5
  refine anyH_1 7 rfl (by kernel_rfl) rfl ?_
  go_wp2_with (fail)
  refine ⟨h6, ?_⟩
  (try simp only [World.size_alloc, Act.put, List.setIfInBounds_toArray, List.set_cons_succ, List.set_cons_zero])
  refine anyH_1 8 rfl (by kernel_rfl) rfl ?_
  have zk := c_of k6
  have fk := Go.Joins.unfrozen_of_block k6 0
  obtain ⟨w7, e7⟩ : ∃ q, q = w6.setCell ⟨w.heap.size + 1, 0, none⟩ (.slice (some ⟨tb, 0, none⟩) tn tc) := ⟨_, rfl⟩
  have C7 := Lib.hid (show w7.cell? ⟨w.heap.size, 0, none⟩ = some (.slice va ms.length vc) by rw [e7]; exact c_of (hp_set q6 (by omega) 0 _))
  have K7 := Lib.hid (show w7.cell? ⟨w.heap.size + 1, 0, none⟩ = some (.slice (some ⟨tb, 0, none⟩) tn tc) by rw [e7]; exact c_of (Go.Joins.block_setCell (i := 0) k6 _))
  have O7 := Lib.hid ((o6.kept (w' := w7) (by rw [e7]; exact from_set (by omega) 0 _)).lower (show w.heap.size ≤ w1.heap.size by omega))
  have R7 := Lib.hid (RowR.lower (ownsRow_from (w' := w7) r6 (by rw [e7]; exact from_set (by omega) 0 _)) (show w.heap.size ≤ e1.heap.size by omega))
  have B7 := Lib.hid (show Below w.heap.size w w7 by rw [e7]; exact bl_set b6 (g := w.heap.size + 1) 0 (by omega) _)
  have HS7 : w7.heap[w2.heap.size]? = some (.cells #[.slice va ms.length vc] 26) := by rw [e7]; exact hp_set h6 (by omega) 0 _
  have E7 := Lib.hid e7
  clear e7 h6 k6 q6 o6 b6 r6
  go_wp2_with (fail)
  (try dsimp only)
  rw [← E7.out]
  clear zk fk
  refine ⟨HS7, ?_⟩
  refine wpAnyH_done (by kernel_rfl) ?_ _
  go_wp2
  exact bodyPost_ret (results_tit rfl rfl rfl rfl C7.out K7.out) rfl ⟨va, vc, ms, z, tb, tn, tc, rs, rfl, O7.out, hm1, hm2, hs, ⟨by omega, by omega⟩, htn, hrs, R7.out, B7.out⟩
theorem results_tii {fn : Func} {p q r : Tmp} {b c v : Value} {g : Nat} {w : World} (h : fn.results = #[.cell p 26, .tmp q, .tmp r]) {tmps : Array Value} (hp : tmps.getD p undef = .pointer (some ⟨g, 0, none⟩)) (hq : tmps.getD q undef = b) (hr : tmps.getD r undef = c)
    (hc : w.cell? ⟨g, 0, none⟩ = some v) : (results fn tmps).run Try.prog w = .ok (.tuple #[.agg #[v], b, c]) w := by
  have hl := load_tr hc
  have hp' : tmps[p]?.getD undef = .pointer (some ⟨g, 0, none⟩) := by simpa using hp
  have hq' : tmps[q]?.getD undef = b := by simpa using hq
  have hr' : tmps[r]?.getD undef = c := by simpa using hr
  simp [results, h, hp', hq', hr', asAddr, hl]
def TrDraw (w : World) (e : Ending) (w' : World) : Prop :=
  ∃ (va : Option Addr) (vc : Nat) (ms : List ND) (n kid : Int), e = .returned (.tuple #[.agg #[.slice va ms.length vc], .int .i64 n, .int .i64 kid]) ∧ OwnN w.heap.size (.slice va ms.length vc) ms w' ∧ 1 ≤ ms.length ∧ ms.length ≤ 13 ∧ szS (ms.map ND.n) ≤ 4000 ∧ I64 n ∧ I64 kid ∧ Below w.heap.size w w'
set_option maxHeartbeats 2000000 in
theorem draw_removekid (a : Option Addr) (len cap : Nat) (w : World) (hl : len ≤ 1048576) (hc : Code w a len) :
    Calls Try.prog 30 #[.slice a len cap] w (TrDraw w) := by
  have hap := fun h0 => code_lt hc h0
  have h0 := hp_new w (.cells #[.slice none 0 0] 26)
  have bb := Go.Joins.below_alloc1 w (.cells #[.slice none 0 0] 26)
  obtain ⟨u, eu⟩ : ∃ u, u = w.alloc (.cells #[.slice none 0 0] 26) := ⟨_, rfl⟩
  rw [← eu] at h0 bb
  have EU := Lib.hid eu
  have HAP := Lib.hid (show 0 < len → ∀ b off, a = some ⟨b, off, none⟩ → b < w.heap.size from hap)
  have hc0 := hc.below bb
  have hus : w.heap.size < u.heap.size := by rw [eu]; simp
  clear eu hap hc
  go_enter Try.func30, Try.ntmps30
  go_wp2_with (rw [← EU.out])
  refine (new_cur a len cap u hl hc0).mono ?_
  rintro e w1 ⟨rfl, c1, b1, s1⟩
  have h1 := hp_below h0 b1
  have B1 := bb.trans (b1.mono (by omega))
  generalize u.heap.size = cb at *
  clear h0 bb b1 hc0
  (try dsimp only)
  go_wp2_with (fail)
  refine (l10any_any cb a len cap w1 s1 (fun h b off e => by have := HAP.out h b off e; have := B1.size; omega) c1).mono ?_
  rintro e w2 ⟨va, vc, ms, rfl, ho, hm1, hm2, hs, c2, g2⟩
  have h2 := hp_grown' h1 g2 (by simp; omega)
  have B2 := below_curT B1 B1.size g2 (by omega)
  have l2 : cb < w2.heap.size := by have := g2.size; omega
  have hrl : cb < w1.heap.size := s1
  have hw12 : w1.heap.size ≤ w2.heap.size := g2.size
  clear h1 B1 g2 c1
  have g3 := World.grownBy_alloc w2 (.cells #[.slice va ms.length vc] 26) none
  have c3 : Cur cb a len cap (w2.alloc (.cells #[.slice va ms.length vc] 26)) := c2.kept l2 g3 (fun k hk => by cases hk)
  have hr := hp_on h2 (.cells #[.slice va ms.length vc] 26)
  have ht := hp_new w2 (.cells #[.slice va ms.length vc] 26)
  have ho3 := ho.below (bel_alloc w2 (.cells #[.slice va ms.length vc] 26))
  have B3 := B2.trans ((bel_alloc w2 (.cells #[.slice va ms.length vc] 26)).mono B2.size)
  obtain ⟨w3, e3⟩ : ∃ q, q = w2.alloc (.cells #[.slice va ms.length vc] 26) := ⟨_, rfl⟩
  rw [← e3] at g3 c3 hr ht ho3 B3
  have E3 := Lib.hid e3
  have l3 : w2.heap.size < w3.heap.size := hp_lt ht
  clear e3 h2 B2 ho c2 g3
  have z3 := c_of ht
  (try dsimp only)
  go_wp2_with (rw [← E3.out])
  refine (l10at_any va vc ms.length cb a len cap w3 hm1 (by omega) (by omega) (fun h b off e => by have h1 := HAP.out h b off e; have h2 := B3.size; omega) c3).mono ?_
  rintro e w4 ⟨kid, rfl, p0, p1, c4, g4⟩
  replace ht := hp_grown' ht g4 (by simp; omega)
  replace hr := hp_grown' hr g4 (by simp; omega)
  replace ho3 := ho3.kept (w' := w4) ⟨g4.size, fun k h1 h2 => g4.block k h2 (by simp; omega)⟩
  replace B3 := below_curT B3 B3.size g4 (by omega)
  replace l3 := Nat.lt_of_lt_of_le l3 g4.size
  clear z3 c3 g4
  have z4 := c_of ht
  (try dsimp only)
  go_wp2_with (fail)
  refine (l10at_any va vc ms.length cb a len cap w4 hm1 (by omega) (by omega) (fun h b off e => by have h1 := HAP.out h b off e; have h2 := B3.size; omega) c4).mono ?_
  rintro e w5 ⟨n, rfl, n0, n1, c5, g5⟩
  replace ht := hp_grown' ht g5 (by simp; omega)
  replace hr := hp_grown' hr g5 (by simp; omega)
  replace ho3 := ho3.kept (w' := w5) ⟨g5.size, fun k h1 h2 => g5.block k h2 (by simp; omega)⟩
  replace B3 := below_curT B3 B3.size g5 (by omega)
  replace l3 := Nat.lt_of_lt_of_le l3 g5.size
  clear z4 c4 g5
  have z5 := c_of ht
  (try dsimp only)
  go_wp2_with (fail)
  refine (sl10is va ms.length vc kid w5).mono ?_
  rintro e w6 ⟨rfl, b6⟩
  have c6 : Cur cb a len cap w6 := c5.kept (show cb < w5.heap.size by omega) (row := none) ⟨b6.os, b6.tape, b6.output, b6.size, fun k hk _ => b6.block k hk⟩ (fun k hk => by cases hk)
  replace ht := hp_below ht b6
  replace hr := hp_below hr b6
  replace ho3 := ho3.below b6
  replace B3 := B3.trans (b6.mono B3.size)
  replace l3 := Nat.lt_of_lt_of_le l3 b6.size
  clear z5 c5 b6
  cases hin : nIn ms.length kid with
  | false =>
    have zr := c_of hr
    have fr := Go.Joins.unfrozen_of_block hr 0
    obtain ⟨w9, e9⟩ : ∃ q, q = w6.setCell ⟨w.heap.size, 0, none⟩ (.slice va ms.length vc) := ⟨_, rfl⟩
    have C9 := Lib.hid (show w9.cell? ⟨w.heap.size, 0, none⟩ = some (.slice va ms.length vc) by rw [e9]; exact c_of (Go.Joins.block_setCell (i := 0) hr _))
    have O9 := Lib.hid ((ho3.kept (w' := w9) (by rw [e9]; exact from_set (by omega) 0 _)).lower (show w.heap.size ≤ w1.heap.size by omega))
    have B9 := Lib.hid (show Below w.heap.size w w9 by rw [e9]; exact bl_set B3 (g := w.heap.size) 0 (Nat.le_refl _) _)
    have E9 := Lib.hid e9
    have zt := c_of ht
    clear e9 hr ho3 B3 ht
    (try dsimp only)
    go_wp2_with (first | (rw [← E9.out]))
    exact bodyPost_ret (results_tii rfl rfl rfl rfl C9.out) rfl ⟨va, vc, ms, n, kid, rfl, O9.out, hm1, hm2, hs, ⟨by omega, by omega⟩, ⟨by omega, by omega⟩, B9.out⟩
  | true =>
    (try dsimp only)
    go_wp2_with (fail)
    refine (once_any 2 cb a len cap w6 (by omega) (by omega) c6).mono ?_
    rintro e w7 ⟨t, rfl, c7, g7⟩
    replace ht := hp_grown' ht g7 (by simp; omega)
    replace hr := hp_grown' hr g7 (by simp; omega)
    replace ho3 := ho3.kept (w' := w7) ⟨g7.size, fun k h1 h2 => g7.block k h2 (by simp; omega)⟩
    replace B3 := below_curT B3 B3.size g7 (by omega)
    replace l3 := Nat.lt_of_lt_of_le l3 g7.size
    clear c6 g7
    cases t with
    | false =>
      have zr := c_of hr
      have fr := Go.Joins.unfrozen_of_block hr 0
      obtain ⟨w9, e9⟩ : ∃ q, q = w7.setCell ⟨w.heap.size, 0, none⟩ (.slice va ms.length vc) := ⟨_, rfl⟩
      have C9 := Lib.hid (show w9.cell? ⟨w.heap.size, 0, none⟩ = some (.slice va ms.length vc) by rw [e9]; exact c_of (Go.Joins.block_setCell (i := 0) hr _))
      have O9 := Lib.hid ((ho3.kept (w' := w9) (by rw [e9]; exact from_set (by omega) 0 _)).lower (show w.heap.size ≤ w1.heap.size by omega))
      have B9 := Lib.hid (show Below w.heap.size w w9 by rw [e9]; exact bl_set B3 (g := w.heap.size) 0 (Nat.le_refl _) _)
      have E9 := Lib.hid e9
      have zt := c_of ht
      clear e9 hr ho3 B3 ht
      (try dsimp only)
      go_wp2_with (first | (rw [← E9.out]))
      exact bodyPost_ret (results_tii rfl rfl rfl rfl C9.out) rfl ⟨va, vc, ms, n, kid, rfl, O9.out, hm1, hm2, hs, ⟨by omega, by omega⟩, ⟨by omega, by omega⟩, B9.out⟩
    | true =>
      obtain ⟨a', c', e1, hN⟩ := ho3.nds
      simp only [Value.slice.injEq] at e1
      rw [← e1.1] at hN
      clear e1
      have hnl : (ms.map ND.n).length = ms.length := by simp
      have hin' : nIn (ms.map ND.n).length kid = true := by rw [hnl]; exact hin
      have hup : I64 (ndAt (ms.map ND.n) kid).up := by
        have hk := nIn_iff.1 hin'
        have hlk : (kid - 1).toNat < (ms.map ND.n).length := by omega
        rw [ndAt_get hk hlk]
        exact (hN.1 _ (List.getElem_mem hlk)).1
      obtain ⟨kv, tv, hnd⟩ := sl10ndF (cap := vc) hN (by rw [hnl]; omega) hin'
      rw [hnl] at hnd
      have KND := Lib.hid (hnd w7 (Below.refl _ _))
      have FF := Lib.hid (fun w' => fldUp (ndAt (ms.map ND.n) kid).up kv (ndAt (ms.map ND.n) kid).sty (ndAt (ms.map ND.n) kid).meas tv w')
      generalize (ndAt (ms.map ND.n) kid) = N at *
      clear hnd hN
      have z7 := c_of ht
      (try dsimp only)
      go_wp2_with (fail)
      refine KND.out.mono ?_
      rintro e w8 ⟨rfl, b8⟩
      replace ht := hp_below ht b8
      replace hr := hp_below hr b8
      replace ho3 := ho3.below b8
      replace B3 := B3.trans (b8.mono B3.size)
      replace l3 := Nat.lt_of_lt_of_le l3 b8.size
      clear z7 b8 KND c7
      have zr := c_of hr
      have fr := Go.Joins.unfrozen_of_block hr 0
      obtain ⟨w9, e9⟩ : ∃ q, q = w8.setCell ⟨w.heap.size, 0, none⟩ (.slice va ms.length vc) := ⟨_, rfl⟩
      have C9 := Lib.hid (show w9.cell? ⟨w.heap.size, 0, none⟩ = some (.slice va ms.length vc) by rw [e9]; exact c_of (Go.Joins.block_setCell (i := 0) hr _))
      have O9 := Lib.hid ((ho3.kept (w' := w9) (by rw [e9]; exact from_set (by omega) 0 _)).lower (show w.heap.size ≤ w1.heap.size by omega))
      have B9 := Lib.hid (show Below w.heap.size w w9 by rw [e9]; exact bl_set B3 (g := w.heap.size) 0 (Nat.le_refl _) _)
      have E9 := Lib.hid e9
      have zt := c_of ht
      clear e9 hr ho3 B3 ht
      (try dsimp only)
      go_wp2_with (fail)
      rw [FF.out]
      (try simp only [Result.andThen_ok])
      go_wp2_with (first | (rw [← E9.out]))
      exact bodyPost_ret (results_tii rfl rfl rfl rfl C9.out) rfl ⟨va, vc, ms, N.up, kid, rfl, O9.out, hm1, hm2, hs, hup, ⟨by omega, by omega⟩, B9.out⟩

end Go.Proofs.Ytckpjldenkjddaa
end

import Derived.Deep.RegionHeld
import Derived.Laws.Tables
import Derived.Deep.RegionLaw
import Derived.Lib.SliceRun
import Derived.Test.YtckpjldenkjddaaZtAO
import Derived.Test.YtckpjldenkjddaaZtAY
import Derived.Test.YtckpjldenkjddaaZtBA
import Derived.Test.YtckpjldenkjddaaZtBB
import Derived.Test.YtckpjldenkjddaaZtBC
section
namespace Go.Proofs.Ytckpjldenkjddaa
open Go.ChangeShapes Go.WideShapes Go.ChangeAt Go.RowKit
set_option linter.unusedVariables false
set_option linter.unusedSimpArgs false
set_option maxRecDepth 8000

theorem built_nd3 (f : Nat → Int) (m : Bool) (t : Value) : Try.prog.built 61 [(2, .agg (sCells f)), (3, .bool m), (4, .agg #[t])] = some (nA 0 (.slice none 0 0) f m t) := by kernel_rfl
theorem yields_nd3 {ops : Array Oper} {S : World → Prop} {op : Oper} {a : Act} {f : Nat → Int} {m : Bool} {t : Value} (hw : Region.wanted op (yielded ops a.tmps) = true) (x y z : Operand) (ho : op.op = .build 61 #[(2, x), (3, y), (4, z)]) (hx : a.eval x = .agg (sCells f)) (hy : a.eval y = .bool m) (hz : a.eval z = .agg #[t]) :
    YieldsIf Try.prog ops S op (.agg (nA 0 (.slice none 0 0) f m t)) a :=
  .inl ⟨hw, fun w _ => by
    have e : Try.prog.built 61 ((#[(2, x), (3, y), (4, z)] : Array (Nat × Operand)).map fun (i, q) => (i, a.eval q)).toList = some (nA 0 (.slice none 0 0) f m t) := by
      simp only [List.map_toArray, List.map_cons, List.map_nil, hx, hy, hz]
      exact built_nd3 f m t
    unfold execOp
    simp only [ho, Sem.run_bind, run_build w _ _ _ e, Result.andThen_ok]
    rfl⟩
theorem wp_alloc_nd {op : Oper} {a : Act} {w : World} {K : Act → World → Prop} {Q : Exit → Act → World → Prop} (ho : op.op = .alloc 61) (h : K (a.put op.dst (.pointer (some ⟨w.heap.size, 0, none⟩))) (w.alloc (.cells nZ 61))) : op.wp Try.prog a w K Q := by
  unfold Oper.wp
  rw [run_alloc_nd ho, Oper.upon_value]
  exact h
theorem TRow.off {lo rl g : Nat} {v : Value} {zs : List Int} {w w' : World} (h : TRow lo v rl zs w) (hg : w.grownBy w' (some g)) (hne : ∀ b, blk v rl = some b → b ≠ g) : TRow lo v rl zs w' := by
  obtain ⟨a, c, e, hr⟩ := h
  refine ⟨a, c, e, ?_⟩
  by_cases h0 : rl = 0
  · exact Or.inl h0
  · refine Or.inr (World.ownsRow.kept (hr.resolve_left h0) hg ?_)
    cases hx : v.ownBlock with
    | none => exact Or.inl rfl
    | some b => exact Or.inr fun e => hne b (by unfold blk; rw [if_neg h0]; exact hx) (by simpa using e)
theorem TRow.offr {lo rl : Nat} {v : Value} {zs : List Int} {w w' : World} {row : Option Nat} (h : TRow lo v rl zs w) (hg : w.grownBy w' row) (hne : ∀ b, blk v rl = some b → some b ≠ row) : TRow lo v rl zs w' := by
  obtain ⟨a, c, e, hr⟩ := h
  refine ⟨a, c, e, ?_⟩
  by_cases h0 : rl = 0
  · exact Or.inl h0
  · refine Or.inr (World.ownsRow.kept (hr.resolve_left h0) hg ?_)
    cases hx : v.ownBlock with
    | none => exact Or.inl rfl
    | some b => exact Or.inr (hne b (by unfold blk; rw [if_neg h0]; exact hx))
theorem TRow.lt {lo rl b : Nat} {v : Value} {zs : List Int} {w : World} (h : TRow lo v rl zs w) (hb : blk v rl = some b) : lo ≤ b ∧ b < w.heap.size := by
  obtain ⟨a, c, e, hr⟩ := h
  unfold blk at hb
  split at hb
  · cases hb
  · rename_i h0
    exact World.ownsRow.lt (hr.resolve_left h0) b hb
theorem gr_cells {a : World} {g : Nat} : ∀ (vs : List Value) (o : Nat) (b : World), a.grownBy b (some g) → a.grownBy (b.setCells g o vs) (some g)
  | [], _, _, h => h
  | v :: vs, o, b, h => gr_cells vs (o + 1) _ (gr_set h)
/-- Behind the first region: the node's box, its table of its own. -/
def LcGot (c : World) (nd : PN) (g : Nat) (ta : Option Addr) (tc : Nat) (w' : World) : Prop :=
  Below c.heap.size c w' ∧ c.heap.size ≤ g ∧ w'.heap[g]? = some (.cells (nA 0 (.slice none 0 0) nd.sty nd.meas (.slice ta nd.rl tc)) 61) ∧ TRow c.heap.size (.slice ta nd.rl tc) nd.rl nd.rules w' ∧ ∀ b, blk (.slice ta nd.rl tc) nd.rl = some b → b ≠ g
theorem lcgot {c v w' : World} {nd : PN} {g : Nat} {ta : Option Addr} {tc : Nat} (hb : Below c.heap.size c v) (hg : c.heap.size ≤ g) (h : v.heap[g]? = some (.cells nZ 61)) (ht : TRow c.heap.size (.slice ta nd.rl tc) nd.rl nd.rules v) (hne : ∀ b, blk (.slice ta nd.rl tc) nd.rl = some b → b ≠ g)
    (e : w' = v.setCells g 0 (nL 0 (.slice none 0 0) nd.sty nd.meas (.slice ta nd.rl tc))) : LcGot c nd g ta tc w' := by
  have h2 := hp_puts (nL 0 (.slice none 0 0) nd.sty nd.meas (.slice ta nd.rl tc)) 0 _ v h
  rw [putA_all _ _ (by rw [nL_len]; exact (nA_size ..).symm), ← e] at h2
  refine ⟨by rw [e]; exact below_cells hg _ 0 v hb, hg, h2, ?_, hne⟩
  refine ht.off (g := g) ?_ hne
  rw [e]
  exact gr_cells _ 0 v (World.grownBy.refl v _)
/-- What is left of a round over the children. -/
def LcqRel (w w1 : World) (nd : PN) (uz : Int) (zs : List Int) (g : Nat) (ta : Option Addr) (tc : Nat) (iv : Value) (wr : World) : Prop :=
  ∃ (j : Nat) (ka : Option Addr) (kc : Nat), j ≤ zs.length ∧ iv = .int .i64 j ∧ wr.heap[g]? = some (.cells (nA uz (.slice ka j kc) nd.sty nd.meas (.slice ta nd.rl tc)) 61) ∧ wr.heap[w.heap.size]? = some (.cells nZ 61) ∧
    RowI w1.heap.size (.slice ka j kc) (zs.take j) wr ∧ TRow (w.heap.size + 1) (.slice ta nd.rl tc) nd.rl nd.rules wr ∧ Below w.heap.size w wr ∧ w1.heap.size ≤ wr.heap.size
set_option maxHeartbeats 4000000 in
theorem ilcopy (s b o G n : Nat) (i uz : Int) (nd : PN) (zs : List Int) (upv : Value) (va : Option Addr) (vc : Nat) (w : World)
    (h : w.heap[s]? = some (.cells (lkA i (.pointer (some ⟨b, o, none⟩)) upv (.slice va zs.length vc)) 95))
    (hu : UpP w G n uz upv) (hui : uz = 0 ∨ nIn n uz = true) (huz : I64 uz) (hk : KidsAt w G n va zs) (hki : ∀ z ∈ zs, nIn n z = true) (hza : AllI zs)
    (hnum : ∀ k, k < n → w.cell? ⟨G + 1 + k, 0, none⟩ = some (.int .i64 ((k : Int) + 1))) (hnd : NodeAt w b o nd) (hok : nd.ok) (hzl : zs.length ≤ 1048576) (hrl : nd.rl ≤ 1048576) (hn : n ≤ 1048576) :
    Calls Try.prog 110 #[.pointer (some ⟨s, 0, none⟩)] w (ToNPost { nd with up := uz, kids := zs } w) := by
  obtain ⟨j0, hj0, hjz0, hjz1, hjz2⟩ := info_parts info_intC
  obtain ⟨kv0, tv0, hrg, ⟨ka0, kc0, rfl, hk0⟩, ⟨ta0, tc0, rfl, hti⟩⟩ := hnd
  obtain ⟨u0, eu0⟩ : ∃ u0, u0 = w.alloc (.cells nZ 61) := ⟨_, rfl⟩
  have B0 : Below w.heap.size w u0 := by rw [eu0]; exact bel_alloc w _
  have H0 : u0.heap[w.heap.size]? = some (.cells nZ 61) := by rw [eu0]; exact hp_new w _
  have HS := hp_below h B0
  have RG := rg_below hrg B0
  have TI := hti.below B0
  have EU := Lib.hid eu0
  have S0 := Lib.hid (show u0.heap.size = w.heap.size + 1 by rw [eu0]; simp)
  have HU := Lib.hid hu
  have HK := Lib.hid hk
  have HNUM := Lib.hid hnum
  have HH := Lib.hid h
  clear eu0 hu hk hnum hrg hk0 h hti
  go_enter Try.func110, Try.ntmps110
  go_wp2_with (first
    | ((with_reducible apply list_alloc_nd); exact rfl; exact rfl; simp only [World.size_alloc, Act.put, List.setIfInBounds_toArray, List.set_cons_succ, List.set_cons_zero])
    | (rw [← EU.out])
    | fail)
  refine reg_key (fun (g : Nat) (ta : Option Addr) (tc : Nat) (_ : Nat) w' => LcGot u0 nd g ta tc w') ?_
  apply Exists.intro
  refine ⟨?pA, ?sA⟩
  case pA =>
    refine wp_region_held_drew (S := fun w' => Below u0.heap.size u0 w') (by kernel_rfl) (Below.refl u0.heap.size u0).drew (fun HB => ?_)
    obtain ⟨d, ed⟩ : ∃ d, d = u0.drew := ⟨_, rfl⟩
    rw [← ed] at HB ⊢
    clear ed
    obtain ⟨z0, -⟩ : ∃ z : Nat, True := ⟨0, trivial⟩
    refine wpAnyH_take (i := 0) (oi := ⟨some 6, Op.move (Operand.tmp 0), _, _, _, _⟩) (v := .pointer (some ⟨s, 0, none⟩)) rfl (by kernel_rfl) (by kernel_rfl) (by kernel_rfl) (fun _ _ _ h => by cases h.1) (Or.inl ⟨rfl, fun W hW => by rfl⟩) HB ?_
    simp only [World.size_alloc, Act.put, List.setIfInBounds_toArray, List.set_cons_succ, List.set_cons_zero]
    refine wpAnyH_take (i := 1) (oi := ⟨some 7, Op.nilCheck (Operand.tmp 6), _, _, _, _⟩) (v := .pointer (some ⟨s, 0, none⟩)) rfl (by kernel_rfl) (by kernel_rfl) (by kernel_rfl) (fun _ _ _ h => by cases h.1) (Or.inl ⟨rfl, fun W hW => by go_simp <;> with_reducible rfl⟩) HB ?_
    simp only [World.size_alloc, Act.put, List.setIfInBounds_toArray, List.set_cons_succ, List.set_cons_zero]
    refine wpAnyH_take (i := 2) (oi := ⟨some 8, Op.fieldAddr 95 (Operand.tmp 7) 1, _, _, _, _⟩) (v := .pointer (some ⟨s, 1, none⟩)) rfl (by kernel_rfl) (by kernel_rfl) (by kernel_rfl) (fun _ _ _ h => by cases h.1) (Or.inl ⟨rfl, fun W hW => by go_simp <;> with_reducible rfl⟩) HB ?_
    simp only [World.size_alloc, Act.put, List.setIfInBounds_toArray, List.set_cons_succ, List.set_cons_zero]
    refine wpAnyH_take (i := 3) (oi := ⟨some 9, Op.load 93 (Operand.tmp 8), _, _, _, _⟩) (v := .pointer (some ⟨b, o, none⟩)) rfl (by kernel_rfl) (by kernel_rfl) (by kernel_rfl) (fun _ _ _ h => by cases h.1) (Or.inl ⟨rfl, fun W hW => by have q1 : W.cell? ⟨s, 1, none⟩ = some (.pointer (some ⟨b, o, none⟩)) := (Go.Joins.cell_of_block (hp_below HS hW) 1).trans rfl; go_simp <;> with_reducible rfl⟩) HB ?_
    simp only [World.size_alloc, Act.put, List.setIfInBounds_toArray, List.set_cons_succ, List.set_cons_zero]
    refine wpAnyH_take (i := 4) (oi := ⟨some 10, Op.nilCheck (Operand.tmp 9), _, _, _, _⟩) (v := .pointer (some ⟨b, o, none⟩)) rfl (by kernel_rfl) (by kernel_rfl) (by kernel_rfl) (fun _ _ _ h => by cases h.1) (Or.inl ⟨rfl, fun W hW => by go_simp <;> with_reducible rfl⟩) HB ?_
    simp only [World.size_alloc, Act.put, List.setIfInBounds_toArray, List.set_cons_succ, List.set_cons_zero]
    refine wpAnyH_take (i := 5) (oi := ⟨some 11, Op.fieldAddr 61 (Operand.tmp 10) 2, _, _, _, _⟩) (v := .pointer (some ⟨b, o + 2, none⟩)) rfl (by kernel_rfl) (by kernel_rfl) (by kernel_rfl) (fun _ _ _ h => by cases h.1) (Or.inl ⟨rfl, fun W hW => by go_simp <;> with_reducible rfl⟩) HB ?_
    simp only [World.size_alloc, Act.put, List.setIfInBounds_toArray, List.set_cons_succ, List.set_cons_zero]
    refine wpAnyH_take (i := 6) (oi := ⟨some 12, Op.load 41 (Operand.tmp 11), _, _, _, _⟩) (v := .agg (sCells nd.sty).toList.toArray) rfl (by kernel_rfl) (by kernel_rfl) (by kernel_rfl) (fun _ _ _ h => by cases h.1) (yieldsIf_load_mid rfl _ _ rfl b (o + 2) rfl _ _ (fun W hW => range_styN (rg_below RG hW)) sty_under rfl (sty_sizeL nd.sty)) HB ?_
    simp only [World.size_alloc, Act.put, List.setIfInBounds_toArray, List.set_cons_succ, List.set_cons_zero]
    refine wpAnyH_take (i := 7) (oi := ⟨some 13, Op.move (Operand.tmp 0), _, _, _, _⟩) (v := .pointer (some ⟨s, 0, none⟩)) rfl (by kernel_rfl) (by kernel_rfl) (by kernel_rfl) (fun _ _ _ h => by cases h.1) (Or.inl ⟨rfl, fun W hW => by rfl⟩) HB ?_
    simp only [World.size_alloc, Act.put, List.setIfInBounds_toArray, List.set_cons_succ, List.set_cons_zero]
    refine wpAnyH_take (i := 8) (oi := ⟨some 14, Op.nilCheck (Operand.tmp 13), _, _, _, _⟩) (v := .pointer (some ⟨s, 0, none⟩)) rfl (by kernel_rfl) (by kernel_rfl) (by kernel_rfl) (fun _ _ _ h => by cases h.1) (Or.inl ⟨rfl, fun W hW => by go_simp <;> with_reducible rfl⟩) HB ?_
    simp only [World.size_alloc, Act.put, List.setIfInBounds_toArray, List.set_cons_succ, List.set_cons_zero]
    refine wpAnyH_take (i := 9) (oi := ⟨some 15, Op.fieldAddr 95 (Operand.tmp 14) 1, _, _, _, _⟩) (v := .pointer (some ⟨s, 1, none⟩)) rfl (by kernel_rfl) (by kernel_rfl) (by kernel_rfl) (fun _ _ _ h => by cases h.1) (Or.inl ⟨rfl, fun W hW => by go_simp <;> with_reducible rfl⟩) HB ?_
    simp only [World.size_alloc, Act.put, List.setIfInBounds_toArray, List.set_cons_succ, List.set_cons_zero]
    refine wpAnyH_take (i := 10) (oi := ⟨some 16, Op.load 93 (Operand.tmp 15), _, _, _, _⟩) (v := .pointer (some ⟨b, o, none⟩)) rfl (by kernel_rfl) (by kernel_rfl) (by kernel_rfl) (fun _ _ _ h => by cases h.1) (Or.inl ⟨rfl, fun W hW => by have q1 : W.cell? ⟨s, 1, none⟩ = some (.pointer (some ⟨b, o, none⟩)) := (Go.Joins.cell_of_block (hp_below HS hW) 1).trans rfl; go_simp <;> with_reducible rfl⟩) HB ?_
    simp only [World.size_alloc, Act.put, List.setIfInBounds_toArray, List.set_cons_succ, List.set_cons_zero]
    refine wpAnyH_take (i := 11) (oi := ⟨some 17, Op.nilCheck (Operand.tmp 16), _, _, _, _⟩) (v := .pointer (some ⟨b, o, none⟩)) rfl (by kernel_rfl) (by kernel_rfl) (by kernel_rfl) (fun _ _ _ h => by cases h.1) (Or.inl ⟨rfl, fun W hW => by go_simp <;> with_reducible rfl⟩) HB ?_
    simp only [World.size_alloc, Act.put, List.setIfInBounds_toArray, List.set_cons_succ, List.set_cons_zero]
    refine wpAnyH_take (i := 12) (oi := ⟨some 18, Op.fieldAddr 61 (Operand.tmp 17) 3, _, _, _, _⟩) (v := .pointer (some ⟨b, o + 62, none⟩)) rfl (by kernel_rfl) (by kernel_rfl) (by kernel_rfl) (fun _ _ _ h => by cases h.1) (Or.inl ⟨rfl, fun W hW => by go_simp <;> with_reducible rfl⟩) HB ?_
    simp only [World.size_alloc, Act.put, List.setIfInBounds_toArray, List.set_cons_succ, List.set_cons_zero]
    refine wpAnyH_take (i := 13) (oi := ⟨some 19, Op.load 4 (Operand.tmp 18), _, _, _, _⟩) (v := .bool nd.meas) rfl (by kernel_rfl) (by kernel_rfl) (by kernel_rfl) (fun _ _ _ h => by cases h.1) (Or.inl ⟨rfl, fun W hW => by have q1 : W.cell? ⟨b, o + 62, none⟩ = some (.bool nd.meas) := rg_below RG hW 62 _ nL_meas; go_simp <;> with_reducible rfl⟩) HB ?_
    simp only [World.size_alloc, Act.put, List.setIfInBounds_toArray, List.set_cons_succ, List.set_cons_zero]
    refine wpAnyH_take (i := 14) (oi := ⟨some 20, Op.move (Operand.tmp 0), _, _, _, _⟩) (v := .pointer (some ⟨s, 0, none⟩)) rfl (by kernel_rfl) (by kernel_rfl) (by kernel_rfl) (fun _ _ _ h => by cases h.1) (Or.inl ⟨rfl, fun W hW => by rfl⟩) HB ?_
    simp only [World.size_alloc, Act.put, List.setIfInBounds_toArray, List.set_cons_succ, List.set_cons_zero]
    refine wpAnyH_take (i := 15) (oi := ⟨some 21, Op.nilCheck (Operand.tmp 20), _, _, _, _⟩) (v := .pointer (some ⟨s, 0, none⟩)) rfl (by kernel_rfl) (by kernel_rfl) (by kernel_rfl) (fun _ _ _ h => by cases h.1) (Or.inl ⟨rfl, fun W hW => by go_simp <;> with_reducible rfl⟩) HB ?_
    simp only [World.size_alloc, Act.put, List.setIfInBounds_toArray, List.set_cons_succ, List.set_cons_zero]
    refine wpAnyH_take (i := 16) (oi := ⟨some 22, Op.fieldAddr 95 (Operand.tmp 21) 1, _, _, _, _⟩) (v := .pointer (some ⟨s, 1, none⟩)) rfl (by kernel_rfl) (by kernel_rfl) (by kernel_rfl) (fun _ _ _ h => by cases h.1) (Or.inl ⟨rfl, fun W hW => by go_simp <;> with_reducible rfl⟩) HB ?_
    simp only [World.size_alloc, Act.put, List.setIfInBounds_toArray, List.set_cons_succ, List.set_cons_zero]
    refine wpAnyH_take (i := 17) (oi := ⟨some 23, Op.load 93 (Operand.tmp 22), _, _, _, _⟩) (v := .pointer (some ⟨b, o, none⟩)) rfl (by kernel_rfl) (by kernel_rfl) (by kernel_rfl) (fun _ _ _ h => by cases h.1) (Or.inl ⟨rfl, fun W hW => by have q1 : W.cell? ⟨s, 1, none⟩ = some (.pointer (some ⟨b, o, none⟩)) := (Go.Joins.cell_of_block (hp_below HS hW) 1).trans rfl; go_simp <;> with_reducible rfl⟩) HB ?_
    simp only [World.size_alloc, Act.put, List.setIfInBounds_toArray, List.set_cons_succ, List.set_cons_zero]
    refine wpAnyH_take (i := 18) (oi := ⟨some 24, Op.nilCheck (Operand.tmp 23), _, _, _, _⟩) (v := .pointer (some ⟨b, o, none⟩)) rfl (by kernel_rfl) (by kernel_rfl) (by kernel_rfl) (fun _ _ _ h => by cases h.1) (Or.inl ⟨rfl, fun W hW => by go_simp <;> with_reducible rfl⟩) HB ?_
    simp only [World.size_alloc, Act.put, List.setIfInBounds_toArray, List.set_cons_succ, List.set_cons_zero]
    refine wpAnyH_take (i := 19) (oi := ⟨some 25, Op.fieldAddr 61 (Operand.tmp 24) 4, _, _, _, _⟩) (v := .pointer (some ⟨b, o + 63, none⟩)) rfl (by kernel_rfl) (by kernel_rfl) (by kernel_rfl) (fun _ _ _ h => by cases h.1) (Or.inl ⟨rfl, fun W hW => by go_simp <;> with_reducible rfl⟩) HB ?_
    simp only [World.size_alloc, Act.put, List.setIfInBounds_toArray, List.set_cons_succ, List.set_cons_zero]
    refine wpAnyH_take (i := 20) (oi := ⟨some 26, Op.load 51 (Operand.tmp 25), _, _, _, _⟩) (v := .agg [.slice ta0 nd.rl tc0].toArray) rfl (by kernel_rfl) (by kernel_rfl) (by kernel_rfl) (fun _ _ _ h => by cases h.1) (yieldsIf_load_mid rfl _ _ rfl b (o + 63) rfl [.slice ta0 nd.rl tc0] _ (fun W hW j u hu => by match j, hu with | 0, hu => (simp at hu; subst hu; exact rg_below RG hW 63 _ nL_tab)) im_tab rfl (im_tab1 _)) HB ?_
    simp only [World.size_alloc, Act.put, List.setIfInBounds_toArray, List.set_cons_succ, List.set_cons_zero]
    refine anyH_2 21 23 rfl rfl (by kernel_rfl) rfl rfl ?_ ?_
    ·
      go_wp2_with (fail)
      refine (itcopy ta0 nd.rl tc0 nd.rules d (TI.below HB) hrl).mono ?_
      rintro e e1 ⟨tv, rfl, ht, bF⟩
      have ht' := ht
      obtain ⟨ta, tc, rfl, _⟩ := ht'
      (try dsimp only)
      have HS1 := HB.trans (bF.mono HB.size)
      refine ⟨HS1, ?_⟩
      refine wpAnyH_take (i := 22) (oi := ⟨some 28, Op.build 61 #[(2, Operand.tmp 12), (3, Operand.tmp 19), (4, Operand.tmp 27)], _, _, _, _⟩) (v := .agg (nA 0 (.slice none 0 0) nd.sty nd.meas (.slice ta nd.rl tc))) rfl (by kernel_rfl) (by kernel_rfl) (by kernel_rfl) (fun _ _ _ h => by cases h.1) (yields_nd3 rfl _ _ _ rfl rfl rfl rfl) HS1 ?_
      simp only [World.size_alloc, Act.put, List.setIfInBounds_toArray, List.set_cons_succ, List.set_cons_zero]
      refine anyH_1 23 rfl (by kernel_rfl) rfl ?_
      refine wp_alloc_nd rfl ?_
      simp only [World.size_alloc, Act.put, List.setIfInBounds_toArray, List.set_cons_succ, List.set_cons_zero]
      have ba := bel_alloc e1 (.cells nZ 61)
      have hb := hp_new e1 (.cells nZ 61)
      obtain ⟨e2, ev⟩ : ∃ q, q = e1.alloc (.cells nZ 61) := ⟨_, rfl⟩
      rw [← ev] at ba hb ⊢
      have hne : ∀ q, blk (.slice ta nd.rl tc) nd.rl = some q → q ≠ e1.heap.size := fun q hq => by have := (ht.lt hq).2; omega
      have ht2 := (ht.kept (From.of_below ba)).lower (lo' := u0.heap.size) HB.size
      have hgl : u0.heap.size ≤ e1.heap.size := HS1.size
      obtain ⟨g, eg⟩ : ∃ q, q = e1.heap.size := ⟨_, rfl⟩
      rw [← eg] at hb hne hgl ⊢
      have HS2 := HS1.trans (ba.mono HS1.size)
      clear eg ev ba ht
      refine ⟨HS2, ?_⟩
      refine anyH_1 24 rfl (by kernel_rfl) rfl ?_
      refine wp_store_mid 61 _ _ rfl g 0 (nA 0 (.slice none 0 0) nd.sty nd.meas (.slice ta nd.rl tc)) rfl rfl (by rw [nA_size]; exact there_block hb 0 64 (by show 0 + 64 ≤ nZ.size; rw [nZ, nA_size]; decide)) (nd_sizeA ..) (nA_one rfl rfl) ?_
      simp only [World.size_alloc, Act.put, List.setIfInBounds_toArray, List.set_cons_succ, List.set_cons_zero]
      rw [nA_list]
      obtain ⟨e9, ew⟩ : ∃ q, q = e2.setCells g 0 (nL 0 (.slice none 0 0) nd.sty nd.meas (.slice ta nd.rl tc)) := ⟨_, rfl⟩
      rw [← ew]
      have GG := lcgot HS2 hgl hb ht2 hne ew
      refine ⟨GG.1, ?_⟩
      refine wpAnyH_done (by kernel_rfl) ?_ _
      first | exact ⟨rfl, g, ta, tc, GG, z0, rfl⟩ | exact ⟨rfl, g, ta, tc, GG, rfl⟩
    ·
      refine wp_alloc_nd rfl ?_
      simp only [World.size_alloc, Act.put, List.setIfInBounds_toArray, List.set_cons_succ, List.set_cons_zero]
      have ba := bel_alloc d (.cells nZ 61)
      have hb := hp_new d (.cells nZ 61)
      obtain ⟨e1, ev⟩ : ∃ q, q = d.alloc (.cells nZ 61) := ⟨_, rfl⟩
      rw [← ev] at ba hb ⊢
      have hgl : u0.heap.size ≤ d.heap.size := HB.size
      obtain ⟨g, eg⟩ : ∃ q, q = d.heap.size := ⟨_, rfl⟩
      rw [← eg] at hb hgl ⊢
      have hg1 : g < e1.heap.size := hp_lt hb
      have HS1 := HB.trans (ba.mono HB.size)
      clear eg ev ba
      refine ⟨HS1, ?_⟩
      refine anyH_1 21 rfl (by kernel_rfl) rfl ?_
      go_wp2_with (fail)
      refine (itcopy ta0 nd.rl tc0 nd.rules e1 (TI.below HS1) hrl).mono ?_
      rintro e e2 ⟨tv, rfl, ht, bF⟩
      have ht' := ht
      obtain ⟨ta, tc, rfl, _⟩ := ht'
      (try dsimp only)
      have HS2 := HS1.trans (bF.mono HS1.size)
      replace hb := hp_below hb bF
      refine ⟨HS2, ?_⟩
      refine wpAnyH_take (i := 22) (oi := ⟨some 28, Op.build 61 #[(2, Operand.tmp 12), (3, Operand.tmp 19), (4, Operand.tmp 27)], _, _, _, _⟩) (v := .agg (nA 0 (.slice none 0 0) nd.sty nd.meas (.slice ta nd.rl tc))) rfl (by kernel_rfl) (by kernel_rfl) (by kernel_rfl) (fun _ _ _ h => by cases h.1) (yields_nd3 rfl _ _ _ rfl rfl rfl rfl) HS2 ?_
      simp only [World.size_alloc, Act.put, List.setIfInBounds_toArray, List.set_cons_succ, List.set_cons_zero]
      have hne : ∀ q, blk (.slice ta nd.rl tc) nd.rl = some q → q ≠ g := fun q hq => by have := (ht.lt hq).1; omega
      have ht2 := ht.lower (lo' := u0.heap.size) HS1.size
      refine anyH_1 24 rfl (by kernel_rfl) rfl ?_
      refine wp_store_mid 61 _ _ rfl g 0 (nA 0 (.slice none 0 0) nd.sty nd.meas (.slice ta nd.rl tc)) rfl rfl (by rw [nA_size]; exact there_block hb 0 64 (by show 0 + 64 ≤ nZ.size; rw [nZ, nA_size]; decide)) (nd_sizeA ..) (nA_one rfl rfl) ?_
      simp only [World.size_alloc, Act.put, List.setIfInBounds_toArray, List.set_cons_succ, List.set_cons_zero]
      rw [nA_list]
      obtain ⟨e9, ew⟩ : ∃ q, q = e2.setCells g 0 (nL 0 (.slice none 0 0) nd.sty nd.meas (.slice ta nd.rl tc)) := ⟨_, rfl⟩
      rw [← ew]
      have GG := lcgot HS2 hgl hb ht2 hne ew
      refine ⟨GG.1, ?_⟩
      refine wpAnyH_done (by kernel_rfl) ?_ _
      first | exact ⟨rfl, g, ta, tc, GG, z0, rfl⟩ | exact ⟨rfl, g, ta, tc, GG, rfl⟩
  case sA =>
    intro g ta tc _ w1 hG
    obtain ⟨b1, hg, HB1, ht1, hne1⟩ := hG
    have B1 : Below w.heap.size w w1 := B0.trans (b1.mono B0.size)
    have R1 := hp_below H0 b1
    have hs1 := hp_below HH.out B1
    have hgw : w.heap.size < g := by have := S0.out; omega
    have hg1 := hp_lt HB1
    have HT1 := Lib.hid ht1
    have HTB := Lib.hid (fun q (hq : blk (.slice ta nd.rl tc) nd.rl = some q) => (⟨by have := (ht1.lt hq).1; have := S0.out; omega, (ht1.lt hq).2, hne1 q hq⟩ : w.heap.size + 1 ≤ q ∧ q < w1.heap.size ∧ q ≠ g))
    clear b1 hg ht1 hne1 H0 HS RG TI EU
    have c2 : w1.cell? ⟨s, 2, none⟩ = some upv := (Go.Joins.cell_of_block hs1 2).trans rfl
    have c3 : w1.cell? ⟨s, 3, none⟩ = some (.slice va zs.length vc) := (Go.Joins.cell_of_block hs1 3).trans rfl
    have g0 : w1.cell? ⟨g, 0, none⟩ = some (.int .i64 0) := (Go.Joins.cell_of_block HB1 0).trans rfl
    have gf := Go.Joins.unfrozen_of_block HB1 0
    have TQ := Lib.hid (HT1.out.lower (lo' := w.heap.size + 1) (by rw [S0.out]; exact Nat.le_refl _))
    have hu := HU.out
    unfold UpP at hu
    obtain ⟨wq, ewq⟩ : ∃ q, q = (if uz = 0 then w1 else w1.setCell ⟨g, 0, none⟩ (.int .i64 uz)) := ⟨_, rfl⟩
    have HQ : wq.heap[g]? = some (.cells (nA uz (.slice none 0 0) nd.sty nd.meas (.slice ta nd.rl tc)) 61) := by
      rw [ewq]
      split
      · rename_i e; rw [e]; exact HB1
      · rw [Go.Joins.block_setCell (i := 0) HB1 (.int .i64 uz), nA_put0]
    have RQ : wq.heap[w.heap.size]? = some (.cells nZ 61) := by
      rw [ewq]
      split
      · exact R1
      · exact hp_set R1 (by omega) 0 _
    have BQ : Below w.heap.size w wq := by
      rw [ewq]
      split
      · exact B1
      · exact bl_set B1 0 (by omega) _
    have hq1 : wq.heap.size = w1.heap.size := by
      rw [ewq]
      split
      · rfl
      · simp
    have gq : w1.grownBy wq (some g) := by
      rw [ewq]
      split
      · exact World.grownBy.refl w1 _
      · exact gr_set (World.grownBy.refl w1 _)
    have TQ2 := Lib.hid (TQ.out.off gq (fun q hq => (HTB.out q hq).2.2))
    have c3q : wq.cell? ⟨s, 3, none⟩ = some (.slice va zs.length vc) := (Go.Joins.cell_of_block (hp_below HH.out BQ) 3).trans rfl
    have EWQ := Lib.hid ewq
    have HQS := Lib.hid hq1
    have B1' := B1
    clear ewq gq TQ R1 B1 hs1 HB1
    by_cases e0 : uz = 0
    · rw [if_pos e0] at hu
      subst hu
      have ew := EWQ.out
      rw [if_pos e0] at ew
      have EW := Lib.hid ew
      clear ew g0 gf c3q EWQ hq1
      go_wp2_with (fail)
      rw [← EW.out]
      go_loopw [5, 47] (fun _ iv wr => LcqRel w w1 nd uz zs g ta tc iv wr) (fun _ iv _ => zs.length - (intOf iv).toNat)
      case atStart => exact ⟨0, none, 0, Nat.zero_le _, rfl, HQ, RQ, World.ownsRow_nil _ _ _ _, TQ2.out, BQ, by rw [HQS.out]; exact Nat.le_refl _⟩
      case round =>
        obtain ⟨j, ka, kc, hj, rfl, hb, hr, hrow, ht, hB, hsz⟩ := hrel
        by_cases hlt : j < zs.length
        · obtain ⟨gk, sk, rfl, ck0, hpt⟩ := HK.out j hlt
          have hz : zs[j]? = some (zs.getD j 0) := by rw [List.getD_eq_getElem?_getD, List.getElem?_eq_getElem hlt]; rfl
          have htake : zs.take (j + 1) = zs.take j ++ [zs.getD j 0] := by
            rw [List.take_succ_eq_append_getElem hlt]
            congr 2
            rw [List.getD_eq_getElem?_getD, List.getElem?_eq_getElem hlt]; rfl
          have hzin := hki _ (List.mem_of_getElem? hz)
          obtain ⟨z, ez⟩ : ∃ q, q = zs.getD j 0 := ⟨_, rfl⟩
          rw [← ez] at hpt htake hzin
          clear hz ez
          have h1 := nIn_iff.1 hzin
          obtain ⟨q, eq⟩ : ∃ q : Nat, z = (q : Int) + 1 := ⟨(z - 1).toNat, by omega⟩
          obtain rfl : sk = G + 1 + q := by
            obtain ⟨s', es, hs'⟩ := hpt
            simp at es
            subst es
            rcases hs' with ⟨_, h2⟩ | ⟨h2, _⟩
            · omega
            · rw [hzin] at h2; cases h2
          have hcq := HNUM.out q (by omega)
          rw [← eq] at hcq
          have hB2 : Below w.heap.size w wr.drew := hB.drew
          have cz2 : wr.drew.cell? ⟨G + 1 + q, 0, none⟩ = some (.int .i64 z) := (hB2.cell (p := ⟨G + 1 + q, 0, none⟩) (World.block_lt_of_cell? w _ hcq)).trans hcq
          have ck : wr.cell? ⟨gk, j, none⟩ = some (.pointer (some ⟨G + 1 + q, 0, none⟩)) := (hB.cell (p := ⟨gk, j, none⟩) (World.block_lt_of_cell? w _ ck0)).trans ck0
          have hb2 : wr.drew.heap[g]? = some (.cells (nA uz (.slice ka j kc) nd.sty nd.meas (.slice ta nd.rl tc)) 61) := hb
          have hr2 : wr.drew.heap[w.heap.size]? = some (.cells nZ 61) := hr
          have hrow2 : RowI w1.heap.size (.slice ka j kc) (zs.take j) wr.drew := hrow
          have ht2 : TRow (w.heap.size + 1) (.slice ta nd.rl tc) nd.rl nd.rules wr.drew := ht
          have hsz2 : w1.heap.size ≤ wr.drew.heap.size := hsz
          have hlo : (0 : Int) ≤ (j : Int) := Int.natCast_nonneg _
          have hhi : (j : Int) < (zs.length : Int) := by omega
          have hjl : (zs.take j).length = j := by rw [List.length_take]; omega
          have HTK := Lib.hid htake
          have HJL := Lib.hid hjl
          have HZL := Lib.hid hzl
          clear ck0 hpt htake hcq hb hr hrow ht hB hsz hjl eq h1 hzin
          go_wp2_with (fail)
          clear ck
          refine wp_region_any (by kernel_rfl) ?_
          change wpAny _ _ _ _ 10 (Array.replicate 10 false) _ wr.drew
          generalize wr.drew = w2 at *
          have c1 : w2.cell? ⟨g, 1, none⟩ = some (.slice ka j kc) := (Go.Joins.cell_of_block hb2 1).trans rfl
          refine wpAny_take (i := 0) (oi := ⟨some 51, Op.fieldAddr 61 (Operand.tmp 3) 1, _, _, _, _⟩) (v := .pointer (some ⟨g, 1, none⟩)) rfl (by kernel_rfl) (by kernel_rfl) (by kernel_rfl) (fun _ _ _ h => h) (Or.inl ⟨by rfl, fun W => by go_simp <;> with_reducible rfl⟩) ?_
          simp only [Act.put, List.setIfInBounds_toArray, List.set_cons_zero, List.set_cons_succ]
          refine wpAnyD_take (S := fun w' => w'.cell? ⟨g, 1, none⟩ = some (.slice ka j kc)) (i := 1) (oi := ⟨some 52, Op.load 59 (Operand.tmp 51), _, _, _, _⟩) (v := .slice ka j kc) rfl (by kernel_rfl) (by kernel_rfl) (by kernel_rfl) (by kernel_rfl) (fun _ _ _ h => h) (Or.inl ⟨by rfl, fun W hW => by go_simp <;> with_reducible rfl⟩) c1 ?_
          simp only [Act.put, List.setIfInBounds_toArray, List.set_cons_zero, List.set_cons_succ]
          refine anyD_one 2 rfl (by kernel_rfl) rfl ?_
          go_wp2_with (fail)
          refine anyD_one 3 rfl (by kernel_rfl) rfl ?_
          go_wp2_with (fail)
          refine anyD_one 4 rfl (by kernel_rfl) rfl ?_
          go_wp2_with (fail)
          refine anyD_one 5 rfl (by kernel_rfl) rfl ?_
          go_wp2_with (fail)
          clear cz2 c1
          refine anyD_one 6 rfl (by kernel_rfl) rfl ?_
          go_wp2_with (fail)
          have b4 := bel_alloc w2 (.cells #[.int .i64 z] 3)
          have hn4 := World.news_of_block (hp_new w2 (.cells #[.int .i64 z] 3))
          have hb4 := hp_below hb2 b4
          have hr4 := hp_below hr2 b4
          have hrow4 := ownsRow_from hrow2 (From.of_below b4)
          have ht4 := ht2.kept (From.of_below b4)
          have hB4 := hB2.trans (b4.mono hB2.size)
          have hsz4 := Nat.le_trans hsz2 b4.size
          clear b4 hb2 hr2 hrow2 ht2 hB2
          generalize w2.alloc (.cells #[.int .i64 z] 3) = w4 at *
          refine ⟨fun _ => (Go.Joins.cell_of_block hb4 1).trans rfl, ?_⟩
          refine anyD_one 7 rfl (by kernel_rfl) rfl ?_
          rw [HJL.out] at hrow4
          have hne : ∀ q, (Value.slice ka j kc).ownBlock = some q → w1.heap.size ≤ q := fun q hq => (World.ownsRow.lt hrow4 q hq).1
          refine wp_append_any _ _ 59 rfl w1.heap.size 3 j0 (.int .i64 0) 1 8 Try.underlying59 hj0 hjz0 hjz1 hjz2 rfl (by decide) (.slice ka j kc) j ((zs.take j).map (Value.int .i64)) rfl hrow4 (some ⟨w2.heap.size, 0, none⟩) 1 1 [.int .i64 z] rfl rfl (Or.inr ⟨_, rfl, hn4⟩) (by simp; rfl) (by have := HZL.out; unfold maxLen; omega) (by have := HZL.out; omega) hsz4 ?_
          intro v' w5 hown5 hgr5 _
          have hb5 := cp_grown hb4 hgr5 (fun e => by have := hne _ e.symm; omega)
          have hr5 := cp_grown hr4 hgr5 (fun e => by have := hne _ e.symm; omega)
          have ht5 := ht4.offr hgr5 (fun q hq e => by have := hne q e.symm; have := (HTB.out q hq).2.1; omega)
          have hB5 : Below w.heap.size w w5 := hB4.grown hgr5 hB4.size (fun q hq => by have := hne q hq; omega)
          have hsz5 := Nat.le_trans hsz4 hgr5.size
          obtain ⟨ka', kc', ev⟩ := own_form hown5
          subst ev
          clear hb4 hr4 hrow4 ht4 hB4 hgr5 hne hn4
          simp only [Act.put, List.setIfInBounds_toArray, List.set_cons_zero, List.set_cons_succ]
          refine ⟨cp_nodep (by kernel_rfl), ?_⟩
          refine anyD_one 8 rfl (by kernel_rfl) rfl ?_
          go_wp2_with (fail)
          refine ⟨cp_nodep (by kernel_rfl), ?_⟩
          refine anyD_one 9 rfl (by kernel_rfl) rfl ?_
          have c5 : w5.cell? ⟨g, 1, none⟩ = some (.slice ka j kc) := (Go.Joins.cell_of_block hb5 1).trans rfl
          have f5 := Go.Joins.unfrozen_of_block hb5 1
          have HB6 := Lib.hid ((Go.Joins.block_setCell (i := 1) hb5 (.slice ka' (j + 1) kc')).trans (by rw [nA_put1]))
          have HR6 := Lib.hid (hp_set (g' := g) hr5 (by omega) 1 (.slice ka' (j + 1) kc'))
          have HO6 := Lib.hid (ownsRow_from hown5 (from_set (g := g) (by omega) 1 (.slice ka' (j + 1) kc')))
          have HT6 := Lib.hid (ht5.off (gr_set (g := g) (j := 1) (u := .slice ka' (j + 1) kc') (World.grownBy.refl w5 _)) (fun q hq => (HTB.out q hq).2.2))
          have HBW6 := Lib.hid (bl_set hB5 (g := g) 1 (by omega) (.slice ka' (j + 1) kc'))
          have HSZ6 := Lib.hid (show w1.heap.size ≤ (w5.setCell ⟨g, 1, none⟩ (.slice ka' (j + 1) kc')).heap.size by simpa using hsz5)
          have HLK := Lib.hid (show (zs.take (j + 1)).length = j + 1 by rw [HTK.out, List.length_append, HJL.out]; rfl)
          clear hb5 hr5 hown5 ht5 hB5
          go_wp2_with (fail)
          refine ⟨by kernel_rfl, ?_⟩
          refine anyD_done (by kernel_rfl) ?_ _
          clear c5 f5
          go_wp2
          go_roundw
          case rel => exact ⟨j + 1, ka', kc', by omega, by go_num, HB6.out, HR6.out, (by unfold RowI; rw [HLK.out, HTK.out, List.map_append]; exact HO6.out), HT6.out, HBW6.out, HSZ6.out⟩
          case measure => simp [intOf]; omega
        · obtain rfl : j = zs.length := by omega
          rw [List.take_length] at hrow
          have hRG : wr.rangeAt g 0 (nL uz (.slice ka zs.length kc) nd.sty nd.meas (.slice ta nd.rl tc)) := range_block hb
          have RG := Lib.hid hRG
          have T1 := Lib.hid (there_block hr 0 64 (by show 0 + 64 ≤ nZ.size; rw [nZ, nA_size]; decide))
          obtain ⟨u8, eu8⟩ : ∃ q, q = wr.setCells w.heap.size 0 (nL uz (.slice ka zs.length kc) nd.sty nd.meas (.slice ta nd.rl tc)) := ⟨_, rfl⟩
          have H1 := hp_puts (nL uz (.slice ka zs.length kc) nd.sty nd.meas (.slice ta nd.rl tc)) 0 _ wr hr
          rw [putA_all _ _ (by rw [nL_len]; exact (nA_size ..).symm)] at H1
          have BB := below_cells (g := w.heap.size) (Nat.le_refl _) (nL uz (.slice ka zs.length kc) nd.sty nd.meas (.slice ta nd.rl tc)) 0 wr hB
          have F8 : From (w.heap.size + 1) wr u8 := by rw [eu8]; exact from_cells (by omega) _ _ _
          rw [← eu8] at H1 BB
          have H1 : u8.heap[w.heap.size]? = some (.cells (nA uz (.slice ka zs.length kc) nd.sty nd.meas (.slice ta nd.rl tc)) 61) := H1
          have hr8 : KRow w.heap.size (.slice ka zs.length kc) zs u8 := ⟨ka, kc, rfl, Or.inr (ownsRow_lower (ownsRow_from (ownsRow_lower hrow (lo' := w.heap.size + 1) (by omega)) F8) (by omega))⟩
          have ht8 := (ht.kept F8).lower (lo' := w.heap.size) (by omega)
          have hkb : ∀ q, (Value.slice ka zs.length kc).ownBlock = some q → w1.heap.size ≤ q := fun q hq => (World.ownsRow.lt hrow q hq).1
          have EU8 := Lib.hid eu8
          have G1 := Lib.hid H1
          have GB := Lib.hid BB
          have R8 := Lib.hid hr8
          have T8 := Lib.hid ht8
          have HKB := Lib.hid hkb
          have hk1 : (Value.slice ka zs.length kc).oneCell' = true := rfl
          have ht1' : (Value.slice ta nd.rl tc).oneCell' = true := rfl
          have HOK := Lib.hid hok
          have HZA := Lib.hid hza
          have HUZ := Lib.hid huz
          clear eu8 H1 BB F8 hr8 ht8 hkb hRG hb hr hrow ht hB hok hza huz
          go_wp2_with (first
            | ((with_reducible apply list_load_nd); exact rfl; exact rfl; exact rfl; (with_reducible exact RG.out); simp only [Act.put, List.setIfInBounds_toArray, List.set_cons_succ, List.set_cons_zero])
            | ((with_reducible apply list_store_nd); exact rfl; exact rfl; exact rfl; exact rfl; (with_reducible exact T1.out); (with_reducible exact hk1); (with_reducible exact ht1'); simp only [Act.put, List.setIfInBounds_toArray, List.set_cons_succ, List.set_cons_zero])
            | (rw [← EU8.out])
            | fail)
          refine bodyPost_ret (results_nd rfl rfl G1.out) rfl ⟨(⟨{ nd with up := uz, kids := zs }, .slice ka zs.length kc, .slice ta nd.rl tc⟩ : ND), rfl, rfl, ⟨⟨HUZ.out, HZA.out, HOK.out.2.2.1, HOK.out.2.2.2.1, HOK.out.2.2.2.2⟩, R8.out, T8.out⟩, fun q h1 h2 => ?_, GB.out⟩
          have h3 : w1.heap.size ≤ q := by
            unfold ND.comp blk at h1
            rw [if_pos rfl] at h1
            split at h1
            · cases h1
            · exact HKB.out q h1
          have h4 := (HTB.out q (by unfold ND.comp at h2; rw [if_neg (by decide)] at h2; exact h2)).2.1
          omega
    · rw [if_neg e0] at hu
      have ew := EWQ.out
      rw [if_neg e0] at ew
      have EW := Lib.hid ew
      obtain ⟨su, rfl, hsu⟩ := hu
      have hin := hui.resolve_left e0
      have h1 := nIn_iff.1 hin
      obtain ⟨k, ek⟩ : ∃ k : Nat, uz = (k : Int) + 1 := ⟨(uz - 1).toNat, by omega⟩
      obtain rfl : su = G + 1 + k := by
        rcases hsu with ⟨_, h2⟩ | ⟨h2, _⟩
        · omega
        · rw [hin] at h2; cases h2
      have cu : w1.cell? ⟨G + 1 + k, 0, none⟩ = some (.int .i64 uz) := by
        have hk0 := HNUM.out k (by omega)
        rw [ek]
        exact (B1'.cell (p := ⟨G + 1 + k, 0, none⟩) (World.block_lt_of_cell? w _ hk0)).trans hk0
      clear EWQ ew hq1 ek hsu h1 hin e0
      go_wp2_with (rw [← EW.out])
      go_loopw [5, 47] (fun _ iv wr => LcqRel w w1 nd uz zs g ta tc iv wr) (fun _ iv _ => zs.length - (intOf iv).toNat)
      case atStart => exact ⟨0, none, 0, Nat.zero_le _, rfl, HQ, RQ, World.ownsRow_nil _ _ _ _, TQ2.out, BQ, by rw [HQS.out]; exact Nat.le_refl _⟩
      case round =>
        obtain ⟨j, ka, kc, hj, rfl, hb, hr, hrow, ht, hB, hsz⟩ := hrel
        by_cases hlt : j < zs.length
        · obtain ⟨gk, sk, rfl, ck0, hpt⟩ := HK.out j hlt
          have hz : zs[j]? = some (zs.getD j 0) := by rw [List.getD_eq_getElem?_getD, List.getElem?_eq_getElem hlt]; rfl
          have htake : zs.take (j + 1) = zs.take j ++ [zs.getD j 0] := by
            rw [List.take_succ_eq_append_getElem hlt]
            congr 2
            rw [List.getD_eq_getElem?_getD, List.getElem?_eq_getElem hlt]; rfl
          have hzin := hki _ (List.mem_of_getElem? hz)
          obtain ⟨z, ez⟩ : ∃ q, q = zs.getD j 0 := ⟨_, rfl⟩
          rw [← ez] at hpt htake hzin
          clear hz ez
          have h1 := nIn_iff.1 hzin
          obtain ⟨q, eq⟩ : ∃ q : Nat, z = (q : Int) + 1 := ⟨(z - 1).toNat, by omega⟩
          obtain rfl : sk = G + 1 + q := by
            obtain ⟨s', es, hs'⟩ := hpt
            simp at es
            subst es
            rcases hs' with ⟨_, h2⟩ | ⟨h2, _⟩
            · omega
            · rw [hzin] at h2; cases h2
          have hcq := HNUM.out q (by omega)
          rw [← eq] at hcq
          have hB2 : Below w.heap.size w wr.drew := hB.drew
          have cz2 : wr.drew.cell? ⟨G + 1 + q, 0, none⟩ = some (.int .i64 z) := (hB2.cell (p := ⟨G + 1 + q, 0, none⟩) (World.block_lt_of_cell? w _ hcq)).trans hcq
          have ck : wr.cell? ⟨gk, j, none⟩ = some (.pointer (some ⟨G + 1 + q, 0, none⟩)) := (hB.cell (p := ⟨gk, j, none⟩) (World.block_lt_of_cell? w _ ck0)).trans ck0
          have hb2 : wr.drew.heap[g]? = some (.cells (nA uz (.slice ka j kc) nd.sty nd.meas (.slice ta nd.rl tc)) 61) := hb
          have hr2 : wr.drew.heap[w.heap.size]? = some (.cells nZ 61) := hr
          have hrow2 : RowI w1.heap.size (.slice ka j kc) (zs.take j) wr.drew := hrow
          have ht2 : TRow (w.heap.size + 1) (.slice ta nd.rl tc) nd.rl nd.rules wr.drew := ht
          have hsz2 : w1.heap.size ≤ wr.drew.heap.size := hsz
          have hlo : (0 : Int) ≤ (j : Int) := Int.natCast_nonneg _
          have hhi : (j : Int) < (zs.length : Int) := by omega
          have hjl : (zs.take j).length = j := by rw [List.length_take]; omega
          have HTK := Lib.hid htake
          have HJL := Lib.hid hjl
          have HZL := Lib.hid hzl
          clear ck0 hpt htake hcq hb hr hrow ht hB hsz hjl eq h1 hzin
          go_wp2_with (fail)
          clear ck
          refine wp_region_any (by kernel_rfl) ?_
          change wpAny _ _ _ _ 10 (Array.replicate 10 false) _ wr.drew
          generalize wr.drew = w2 at *
          have c1 : w2.cell? ⟨g, 1, none⟩ = some (.slice ka j kc) := (Go.Joins.cell_of_block hb2 1).trans rfl
          refine wpAny_take (i := 0) (oi := ⟨some 51, Op.fieldAddr 61 (Operand.tmp 3) 1, _, _, _, _⟩) (v := .pointer (some ⟨g, 1, none⟩)) rfl (by kernel_rfl) (by kernel_rfl) (by kernel_rfl) (fun _ _ _ h => h) (Or.inl ⟨by rfl, fun W => by go_simp <;> with_reducible rfl⟩) ?_
          simp only [Act.put, List.setIfInBounds_toArray, List.set_cons_zero, List.set_cons_succ]
          refine wpAnyD_take (S := fun w' => w'.cell? ⟨g, 1, none⟩ = some (.slice ka j kc)) (i := 1) (oi := ⟨some 52, Op.load 59 (Operand.tmp 51), _, _, _, _⟩) (v := .slice ka j kc) rfl (by kernel_rfl) (by kernel_rfl) (by kernel_rfl) (by kernel_rfl) (fun _ _ _ h => h) (Or.inl ⟨by rfl, fun W hW => by go_simp <;> with_reducible rfl⟩) c1 ?_
          simp only [Act.put, List.setIfInBounds_toArray, List.set_cons_zero, List.set_cons_succ]
          refine anyD_one 2 rfl (by kernel_rfl) rfl ?_
          go_wp2_with (fail)
          refine anyD_one 3 rfl (by kernel_rfl) rfl ?_
          go_wp2_with (fail)
          refine anyD_one 4 rfl (by kernel_rfl) rfl ?_
          go_wp2_with (fail)
          refine anyD_one 5 rfl (by kernel_rfl) rfl ?_
          go_wp2_with (fail)
          clear cz2 c1
          refine anyD_one 6 rfl (by kernel_rfl) rfl ?_
          go_wp2_with (fail)
          have b4 := bel_alloc w2 (.cells #[.int .i64 z] 3)
          have hn4 := World.news_of_block (hp_new w2 (.cells #[.int .i64 z] 3))
          have hb4 := hp_below hb2 b4
          have hr4 := hp_below hr2 b4
          have hrow4 := ownsRow_from hrow2 (From.of_below b4)
          have ht4 := ht2.kept (From.of_below b4)
          have hB4 := hB2.trans (b4.mono hB2.size)
          have hsz4 := Nat.le_trans hsz2 b4.size
          clear b4 hb2 hr2 hrow2 ht2 hB2
          generalize w2.alloc (.cells #[.int .i64 z] 3) = w4 at *
          refine ⟨fun _ => (Go.Joins.cell_of_block hb4 1).trans rfl, ?_⟩
          refine anyD_one 7 rfl (by kernel_rfl) rfl ?_
          rw [HJL.out] at hrow4
          have hne : ∀ q, (Value.slice ka j kc).ownBlock = some q → w1.heap.size ≤ q := fun q hq => (World.ownsRow.lt hrow4 q hq).1
          refine wp_append_any _ _ 59 rfl w1.heap.size 3 j0 (.int .i64 0) 1 8 Try.underlying59 hj0 hjz0 hjz1 hjz2 rfl (by decide) (.slice ka j kc) j ((zs.take j).map (Value.int .i64)) rfl hrow4 (some ⟨w2.heap.size, 0, none⟩) 1 1 [.int .i64 z] rfl rfl (Or.inr ⟨_, rfl, hn4⟩) (by simp; rfl) (by have := HZL.out; unfold maxLen; omega) (by have := HZL.out; omega) hsz4 ?_
          intro v' w5 hown5 hgr5 _
          have hb5 := cp_grown hb4 hgr5 (fun e => by have := hne _ e.symm; omega)
          have hr5 := cp_grown hr4 hgr5 (fun e => by have := hne _ e.symm; omega)
          have ht5 := ht4.offr hgr5 (fun q hq e => by have := hne q e.symm; have := (HTB.out q hq).2.1; omega)
          have hB5 : Below w.heap.size w w5 := hB4.grown hgr5 hB4.size (fun q hq => by have := hne q hq; omega)
          have hsz5 := Nat.le_trans hsz4 hgr5.size
          obtain ⟨ka', kc', ev⟩ := own_form hown5
          subst ev
          clear hb4 hr4 hrow4 ht4 hB4 hgr5 hne hn4
          simp only [Act.put, List.setIfInBounds_toArray, List.set_cons_zero, List.set_cons_succ]
          refine ⟨cp_nodep (by kernel_rfl), ?_⟩
          refine anyD_one 8 rfl (by kernel_rfl) rfl ?_
          go_wp2_with (fail)
          refine ⟨cp_nodep (by kernel_rfl), ?_⟩
          refine anyD_one 9 rfl (by kernel_rfl) rfl ?_
          have c5 : w5.cell? ⟨g, 1, none⟩ = some (.slice ka j kc) := (Go.Joins.cell_of_block hb5 1).trans rfl
          have f5 := Go.Joins.unfrozen_of_block hb5 1
          have HB6 := Lib.hid ((Go.Joins.block_setCell (i := 1) hb5 (.slice ka' (j + 1) kc')).trans (by rw [nA_put1]))
          have HR6 := Lib.hid (hp_set (g' := g) hr5 (by omega) 1 (.slice ka' (j + 1) kc'))
          have HO6 := Lib.hid (ownsRow_from hown5 (from_set (g := g) (by omega) 1 (.slice ka' (j + 1) kc')))
          have HT6 := Lib.hid (ht5.off (gr_set (g := g) (j := 1) (u := .slice ka' (j + 1) kc') (World.grownBy.refl w5 _)) (fun q hq => (HTB.out q hq).2.2))
          have HBW6 := Lib.hid (bl_set hB5 (g := g) 1 (by omega) (.slice ka' (j + 1) kc'))
          have HSZ6 := Lib.hid (show w1.heap.size ≤ (w5.setCell ⟨g, 1, none⟩ (.slice ka' (j + 1) kc')).heap.size by simpa using hsz5)
          have HLK := Lib.hid (show (zs.take (j + 1)).length = j + 1 by rw [HTK.out, List.length_append, HJL.out]; rfl)
          clear hb5 hr5 hown5 ht5 hB5
          go_wp2_with (fail)
          refine ⟨by kernel_rfl, ?_⟩
          refine anyD_done (by kernel_rfl) ?_ _
          clear c5 f5
          go_wp2
          go_roundw
          case rel => exact ⟨j + 1, ka', kc', by omega, by go_num, HB6.out, HR6.out, (by unfold RowI; rw [HLK.out, HTK.out, List.map_append]; exact HO6.out), HT6.out, HBW6.out, HSZ6.out⟩
          case measure => simp [intOf]; omega
        · obtain rfl : j = zs.length := by omega
          rw [List.take_length] at hrow
          have hRG : wr.rangeAt g 0 (nL uz (.slice ka zs.length kc) nd.sty nd.meas (.slice ta nd.rl tc)) := range_block hb
          have RG := Lib.hid hRG
          have T1 := Lib.hid (there_block hr 0 64 (by show 0 + 64 ≤ nZ.size; rw [nZ, nA_size]; decide))
          obtain ⟨u8, eu8⟩ : ∃ q, q = wr.setCells w.heap.size 0 (nL uz (.slice ka zs.length kc) nd.sty nd.meas (.slice ta nd.rl tc)) := ⟨_, rfl⟩
          have H1 := hp_puts (nL uz (.slice ka zs.length kc) nd.sty nd.meas (.slice ta nd.rl tc)) 0 _ wr hr
          rw [putA_all _ _ (by rw [nL_len]; exact (nA_size ..).symm)] at H1
          have BB := below_cells (g := w.heap.size) (Nat.le_refl _) (nL uz (.slice ka zs.length kc) nd.sty nd.meas (.slice ta nd.rl tc)) 0 wr hB
          have F8 : From (w.heap.size + 1) wr u8 := by rw [eu8]; exact from_cells (by omega) _ _ _
          rw [← eu8] at H1 BB
          have H1 : u8.heap[w.heap.size]? = some (.cells (nA uz (.slice ka zs.length kc) nd.sty nd.meas (.slice ta nd.rl tc)) 61) := H1
          have hr8 : KRow w.heap.size (.slice ka zs.length kc) zs u8 := ⟨ka, kc, rfl, Or.inr (ownsRow_lower (ownsRow_from (ownsRow_lower hrow (lo' := w.heap.size + 1) (by omega)) F8) (by omega))⟩
          have ht8 := (ht.kept F8).lower (lo' := w.heap.size) (by omega)
          have hkb : ∀ q, (Value.slice ka zs.length kc).ownBlock = some q → w1.heap.size ≤ q := fun q hq => (World.ownsRow.lt hrow q hq).1
          have EU8 := Lib.hid eu8
          have G1 := Lib.hid H1
          have GB := Lib.hid BB
          have R8 := Lib.hid hr8
          have T8 := Lib.hid ht8
          have HKB := Lib.hid hkb
          have hk1 : (Value.slice ka zs.length kc).oneCell' = true := rfl
          have ht1' : (Value.slice ta nd.rl tc).oneCell' = true := rfl
          have HOK := Lib.hid hok
          have HZA := Lib.hid hza
          have HUZ := Lib.hid huz
          clear eu8 H1 BB F8 hr8 ht8 hkb hRG hb hr hrow ht hB hok hza huz
          go_wp2_with (first
            | ((with_reducible apply list_load_nd); exact rfl; exact rfl; exact rfl; (with_reducible exact RG.out); simp only [Act.put, List.setIfInBounds_toArray, List.set_cons_succ, List.set_cons_zero])
            | ((with_reducible apply list_store_nd); exact rfl; exact rfl; exact rfl; exact rfl; (with_reducible exact T1.out); (with_reducible exact hk1); (with_reducible exact ht1'); simp only [Act.put, List.setIfInBounds_toArray, List.set_cons_succ, List.set_cons_zero])
            | (rw [← EU8.out])
            | fail)
          refine bodyPost_ret (results_nd rfl rfl G1.out) rfl ⟨(⟨{ nd with up := uz, kids := zs }, .slice ka zs.length kc, .slice ta nd.rl tc⟩ : ND), rfl, rfl, ⟨⟨HUZ.out, HZA.out, HOK.out.2.2.1, HOK.out.2.2.2.1, HOK.out.2.2.2.2⟩, R8.out, T8.out⟩, fun q h1 h2 => ?_, GB.out⟩
          have h3 : w1.heap.size ≤ q := by
            unfold ND.comp blk at h1
            rw [if_pos rfl] at h1
            split at h1
            · cases h1
            · exact HKB.out q h1
          have h4 := (HTB.out q (by unfold ND.comp at h2; rw [if_neg (by decide)] at h2; exact h2)).2.1
          omega
set_option linter.unusedVariables false
set_option linter.unusedSimpArgs false
set_option maxRecDepth 8000

/-- The nodes with other links. -/
def relink (ns : List PN) (ls : List (Int × List Int)) : List PN := List.zipWith (fun n l => { n with up := l.1, kids := l.2 }) ns ls
/-- The links lead to nodes. -/
def LinkIn (n : Nat) (ls : List (Int × List Int)) : Prop := ∀ l ∈ ls, (l.1 = 0 ∨ nIn n l.1 = true) ∧ (∀ z ∈ l.2, nIn n z = true) ∧ l.2.length ≤ 1048576
theorem relink_len {ns : List PN} {ls : List (Int × List Int)} (h : ls.length = ns.length) : (relink ns ls).length = ns.length := by simp [relink, h]
theorem relink_at {ns : List PN} {ls : List (Int × List Int)} {k : Nat} {n : PN} {l : Int × List Int} (h1 : ns[k]? = some n) (h2 : ls[k]? = some l) : (relink ns ls)[k]? = some { n with up := l.1, kids := l.2 } := by
  simp [relink, List.getElem?_zipWith, h1, h2]
theorem in_i64 {n : Nat} {z : Int} (h : nIn n z = true) (hn : n ≤ 1048576) : I64 z := by
  have := nIn_iff.1 h
  exact ⟨by omega, by omega⟩
def TrRel (ns : List PN) (w : World) (i : Value) (wr : World) : Prop :=
  ∃ (k : Nat) (v : Value) (ms : List ND), k ≤ ns.length ∧ i = .int .i64 k ∧ ms.map ND.n = ns.take k ∧ wr.heap[w.heap.size + 1]? = some (.cells #[v] 26) ∧ wr.heap[w.heap.size]? = some (.cells #[.slice none 0 0] 26) ∧
    OwnN (w.heap.size + 1 + 1) v ms wr ∧ Below w.heap.size w wr
set_option maxHeartbeats 4000000 in
theorem itree (G b off cap : Nat) (ls : List (Int × List Int)) (ns : List PN) (w : World) (hL : Linked w G b off ls) (hll : ls.length = ns.length) (hNd : ∀ (i : Nat) (n : PN), ns[i]? = some n → NodeAt w b (off + i * 64) n ∧ n.ok ∧ n.rl ≤ 1048576) (hLI : LinkIn ns.length ls) (hnl : ns.length ≤ 1048576) :
    Calls Try.prog 67 #[.slice (some ⟨G, 0, none⟩) ns.length cap] w (CpPost (relink ns ls) w) := by
  obtain ⟨i0, hi0, hz0, hz1, hz2⟩ := info_parts info_node
  have hrl := relink_len hll
  have bb := Go.Joins.below_alloc2 w (.cells #[.slice none 0 0] 26) (.cells #[.slice none 0 0] 26)
  have h1 := hp_on (hp_new w (.cells #[.slice none 0 0] 26)) (.cells #[.slice none 0 0] 26)
  have h2 := hp_new (w.alloc (.cells #[.slice none 0 0] 26)) (.cells #[.slice none 0 0] 26)
  simp only [World.size_alloc] at h2
  obtain ⟨u, eu⟩ : ∃ u, u = ((w.alloc (.cells #[.slice none 0 0] 26)).alloc (.cells #[.slice none 0 0] 26)) := ⟨_, rfl⟩
  rw [← eu] at bb h1 h2
  have EU := Lib.hid eu
  have HBB := Lib.hid bb
  have H1 := Lib.hid h1
  have H2 := Lib.hid h2
  have HL := Lib.hid hL
  have HND := Lib.hid hNd
  have HLI := Lib.hid hLI
  have HLL := Lib.hid hll
  have HNL := Lib.hid hnl
  obtain ⟨R, eR⟩ : ∃ R, R = relink ns ls := ⟨_, rfl⟩
  rw [← eR] at hrl ⊢
  have ER := Lib.hid eR
  clear eu bb h1 h2 hL hNd hLI hll eR
  rw [← hrl]
  have HRL := Lib.hid hrl
  clear hrl
  go_enter Try.func67, Try.ntmps67
  go_wp2_with (rw [← EU.out])
  go_loopw [5, 8] (fun _ iv wr => TrRel R w iv wr) (fun _ i _ => R.length - (intOf i).toNat)
  case atStart => exact ⟨0, .slice none 0 0, [], Nat.zero_le _, rfl, rfl, H2.out, H1.out, ownN_nil _ _, HBB.out⟩
  case round =>
    obtain ⟨k, v, ms, hk, rfl, hms, hb2, hb1, ho, hb⟩ := hrel
    clear H1 H2 HBB
    by_cases hlt : k < R.length
    · have hlo : (0 : Int) ≤ (k : Int) := Int.natCast_nonneg _
      have hhi : (k : Int) < (R.length : Int) := by omega
      have hkn : k < ns.length := by rw [← HRL.out]; exact hlt
      have hkl : k < ls.length := by rw [HLL.out]; exact hkn
      have hRl : R.length ≤ 1048576 := by rw [HRL.out]; exact HNL.out
      obtain ⟨n0, hn0⟩ : ∃ n0, ns[k]? = some n0 := ⟨_, List.getElem?_eq_getElem hkn⟩
      obtain ⟨l0, hl0⟩ : ∃ l0, ls[k]? = some l0 := ⟨_, List.getElem?_eq_getElem hkl⟩
      have hRk : R[k]? = some { n0 with up := l0.1, kids := l0.2 } := by rw [ER.out]; exact relink_at hn0 hl0
      have htake : R.take (k + 1) = R.take k ++ [{ n0 with up := l0.1, kids := l0.2 }] := by
        rw [List.take_succ_eq_append_getElem hlt]
        rw [List.getElem?_eq_getElem hlt] at hRk
        rw [Option.some.inj hRk]
      have HTK := Lib.hid htake
      have hml : ms.length = k := by rw [map_len hms, List.length_take]; omega
      have KEY : ∀ w2, Below w.heap.size w w2 → Calls Try.prog 110 #[.pointer (some ⟨G + 1 + k, 0, none⟩)] w2 (ToNPost { n0 with up := l0.1, kids := l0.2 } w2) := fun w2 hw2 => by
        obtain ⟨hA, hGs, ups, kvs, h3, h4⟩ := HL.out.below hw2
        obtain ⟨q1, q2, q3⟩ := h3 k l0 hl0
        obtain ⟨va, vc, ev, hka⟩ := q3.at
        rw [ev] at q1
        obtain ⟨p1, p2, p3⟩ := HND.out k n0 hn0
        obtain ⟨r1, r2, r3⟩ := HLI.out l0 (List.mem_of_getElem? hl0)
        rw [HLL.out] at q2 hka
        exact ilcopy (G + 1 + k) b (off + k * 64) G ns.length ((k : Int) + 1) l0.1 n0 l0.2 (ups k) va vc w2 q1 q2 r1 (by
            rcases r1 with e | e
            · rw [e]; exact ⟨by decide, by decide⟩
            · exact in_i64 e HNL.out) hka r2 (fun z hz => in_i64 (r2 z hz) HNL.out) (fun q hq => by
            obtain ⟨l, hl⟩ : ∃ l, ls[q]? = some l := ⟨_, List.getElem?_eq_getElem (by rw [HLL.out]; exact hq)⟩
            exact (Go.Joins.cell_of_block (h3 q l hl).1 0).trans rfl) (p1.below hw2) p2 r3 p3 HNL.out
      have cG0 : w.cell? ⟨G, k, none⟩ = some (.pointer (some ⟨G + 1 + k, 0, none⟩)) := HL.out.1 k hkl
      have cG : wr.cell? ⟨G, k, none⟩ = some (.pointer (some ⟨G + 1 + k, 0, none⟩)) := (hb.cell (p := ⟨G, k, none⟩) (World.block_lt_of_cell? w _ cG0)).trans cG0
      obtain ⟨n, en⟩ : ∃ n : PN, n = { n0 with up := l0.1, kids := l0.2 } := ⟨_, rfl⟩
      rw [← en] at HTK KEY
      have HKEY := Lib.hid KEY
      have HMS := Lib.hid hms
      clear en htake hRk hms KEY hkn hkl hn0 hl0 cG0
      go_wp2_with (fail)
      obtain ⟨va, vc, ev⟩ := own_form ho.1
      rw [hml] at ev
      subst ev
      have hbd : Below w.heap.size w wr.drew := hb.drew
      have hd2 : wr.drew.heap[w.heap.size + 1]? = _ := hb2
      have hd1 : wr.drew.heap[w.heap.size]? = _ := hb1
      have hod : OwnN (w.heap.size + 1 + 1) (.slice va k vc) ms wr.drew := ho
      have hsd : w.heap.size + 1 < wr.drew.heap.size := hp_lt hb2
      have cT : wr.drew.cell? ⟨w.heap.size + 1, 0, none⟩ = some (.slice va k vc) := (Go.Joins.cell_of_block hd2 0).trans rfl
      clear hb hb2 hb1 ho cG
      refine wp_region_any (by kernel_rfl) ?_
      change wpAny _ _ _ _ 8 (Array.replicate 8 false) _ wr.drew
      generalize wr.drew = w2 at *
      refine wpAny_take (i := 0) (oi := ⟨some 12, Op.fieldAddr 26 (Operand.tmp 3) 0, _, _, _, _⟩) (v := .pointer (some ⟨w.heap.size + 1, 0, none⟩)) rfl (by kernel_rfl) (by kernel_rfl) (by kernel_rfl) (fun _ _ _ h => h) (Or.inl ⟨by rfl, fun W => by go_simp <;> with_reducible rfl⟩) ?_
      simp only [Act.put, List.setIfInBounds_toArray, List.set_cons_zero, List.set_cons_succ]
      refine wpAnyD_take (S := fun w' => w'.cell? ⟨w.heap.size + 1, 0, none⟩ = some (.slice va k vc)) (i := 1) (oi := ⟨some 13, Op.load 24 (Operand.tmp 12), _, _, _, _⟩) (v := .slice va k vc) rfl (by kernel_rfl) (by kernel_rfl) (by kernel_rfl) (by kernel_rfl) (fun _ _ _ h => h) (Or.inl ⟨by rfl, fun W hW => by go_simp <;> with_reducible rfl⟩) cT ?_
      simp only [Act.put, List.setIfInBounds_toArray, List.set_cons_zero, List.set_cons_succ]
      refine anyD_one 2 rfl (by kernel_rfl) rfl ?_
      go_wp2_with (fail)
      clear cT
      refine anyD_one 3 rfl (by kernel_rfl) rfl ?_
      go_wp2_with (fail)
      refine (HKEY.out w2 hbd).mono ?_
      rintro e w3 ⟨m, hmn, rfl, hmo, hap, b3⟩
      have hd23 := hp_below hd2 b3
      have hd13 := hp_below hd1 b3
      have ho3 := hod.below b3
      have hb3 := hbd.trans (b3.mono hbd.size)
      have hmc : ∀ s b, m.comp s = some b → w2.heap.size ≤ b ∧ b < w3.heap.size := fun s b h => hmo.lt s b h
      have hold : ∀ mj ∈ ms, ∀ t b, mj.comp t = some b → b < w2.heap.size := fun mj hj t b hc => ((hod.2.1 mj hj).1.lt t b hc).2
      have hvold : ∀ b, (Value.slice va k vc).ownBlock = some b → b < w2.heap.size := fun b h => (World.ownsRow.lt hod.1 b h).2
      have hs3 : w2.heap.size ≤ w3.heap.size := b3.size
      clear hbd hd2 hd1 hod b3
      (try dsimp only)
      refine ⟨fun _ => (Go.Joins.cell_of_block hd23 0).trans rfl, ?_⟩
      refine anyD_one 4 rfl (by kernel_rfl) rfl ?_
      refine wp_bs_nd _ rfl rfl (nA_size ..) ?_
      simp only [Act.put, List.setIfInBounds_toArray, List.set_cons_zero, List.set_cons_succ]
      have hcell : (nA n.up m.kv n.sty n.meas m.tv).toList = m.cells := by rw [← hmn]; rfl
      have b4 := Go.Joins.below_alloc1 w3 (.cells (nA n.up m.kv n.sty n.meas m.tv) 61)
      have hn4 := World.news_of_block (hp_new w3 (.cells (nA n.up m.kv n.sty n.meas m.tv) 61))
      rw [hcell] at hn4
      have hd24 := hp_below hd23 b4
      have hd14 := hp_below hd13 b4
      have ho4 := ho3.below b4
      have hb4 := hb3.trans (b4.mono hb3.size)
      have hmo4 := (hmo.kept (From.of_below b4)).lower (lo' := w.heap.size + 1 + 1) (by omega)
      have hs4 : (w3.alloc (.cells (nA n.up m.kv n.sty n.meas m.tv) 61)).heap.size = w3.heap.size + 1 := by simp
      clear hd23 hd13 ho3 hb3 hmo b4
      generalize w3.alloc (.cells (nA n.up m.kv n.sty n.meas m.tv) 61) = w4 at *
      refine ⟨fun _ => (Go.Joins.cell_of_block hd24 0).trans rfl, ?_⟩
      refine anyD_one 5 rfl (by kernel_rfl) rfl ?_
      have hrow4 := ho4.1
      rw [hml] at hrow4
      obtain ⟨o1, o2⟩ := hmo4.one
      refine wp_append_any _ _ 24 rfl (w.heap.size + 1 + 1) 61 i0 (.agg nZ) 64 536 Try.underlying24 hi0 hz0 hz1 hz2 (nA_size ..) (by decide) (.slice va k vc) k (cellsN ms) rfl hrow4 (some ⟨w3.heap.size, 0, none⟩) 1 1 m.cells rfl (by rw [ND.cells_len]) (Or.inr ⟨_, rfl, hn4⟩) (nL_one o1 o2) (by unfold maxLen; omega) (by omega) (by omega) ?_
      intro v' w8 hown8 hgrow8 hat8
      have ho8 : OwnN (w.heap.size + 1 + 1) v' (ms ++ [m]) w8 := ho4.push hmo4 (fun s b h => ⟨fun e => by have := hvold b e; have := (hmc s b h).1; omega, by have := (hmc s b h).2; omega, fun mj hj t hc => by have := hold mj hj t b hc; have := (hmc s b h).1; omega⟩) hap (by rw [hml]; exact hown8) hgrow8 hat8
      have hne8 : ∀ b, (Value.slice va k vc).ownBlock = some b → w.heap.size + 1 + 1 ≤ b := fun b h => (World.ownsRow.lt hrow4 b h).1
      have hd28 := cp_grown hd24 hgrow8 (fun e => by have := hne8 _ e.symm; omega)
      have hd18 := cp_grown hd14 hgrow8 (fun e => by have := hne8 _ e.symm; omega)
      have hb8 : Below w.heap.size w w8 := hb4.grown hgrow8 hb4.size (fun b h => by have := hne8 b h; omega)
      have hml8 : (ms ++ [m]).length = k + 1 := by rw [List.length_append, hml]; rfl
      obtain ⟨va8, vc8, ev8⟩ := own_form ho8.1
      rw [hml8] at ev8
      subst ev8
      clear hd24 hd14 ho4 hb4 hmo4 hrow4 hown8 hgrow8 hat8 hne8 hn4 o1 o2
      (try dsimp only)
      refine ⟨cp_nodep (by kernel_rfl), ?_⟩
      refine anyD_one 6 rfl (by kernel_rfl) rfl ?_
      go_wp2_with (fail)
      refine ⟨cp_nodep (by kernel_rfl), ?_⟩
      refine anyD_one 7 rfl (by kernel_rfl) rfl ?_
      have cT8 : w8.cell? ⟨w.heap.size + 1, 0, none⟩ = some (.slice va k vc) := (Go.Joins.cell_of_block hd28 0).trans rfl
      have fT8 := Go.Joins.unfrozen_of_block hd28 0
      have hd29 := Go.Joins.block_setCell (i := 0) hd28 (.slice va8 (k + 1) vc8)
      have hd29' : (w8.setCell ⟨w.heap.size + 1, 0, none⟩ (.slice va8 (k + 1) vc8)).heap[w.heap.size + 1]? = some (.cells #[.slice va8 (k + 1) vc8] 26) := by simpa using hd29
      have HD29 := Lib.hid hd29'
      have HD19 := Lib.hid (hp_set hd18 (show w.heap.size ≠ w.heap.size + 1 by omega) 0 (.slice va8 (k + 1) vc8))
      have HO9 := Lib.hid (ho8.kept (from_set (g := w.heap.size + 1) (by omega) 0 (.slice va8 (k + 1) vc8)))
      have HB9 := Lib.hid (bl_set hb8 (g := w.heap.size + 1) 0 (by omega) (.slice va8 (k + 1) vc8))
      have HMM := Lib.hid (show (ms ++ [m]).map ND.n = R.take (k + 1) by rw [HTK.out, List.map_append, HMS.out, List.map_cons, List.map_nil, hmn])
      clear hd28 hd29 hd29' hd18 ho8 hb8
      go_wp2_with (fail)
      refine ⟨by kernel_rfl, ?_⟩
      refine anyD_done (by kernel_rfl) ?_ _
      clear cT8 fT8
      go_wp2
      go_roundw
      case rel => exact ⟨k + 1, _, ms ++ [m], by omega, by go_num, HMM.out, HD29.out, HD19.out, HO9.out, HB9.out⟩
      case measure => simp [intOf]; omega
    · obtain rfl : k = R.length := by omega
      rw [List.take_length] at hms
      have z1 : wr.cell? ⟨w.heap.size, 0, none⟩ = some (.slice none 0 0) := (Go.Joins.cell_of_block hb1 0).trans rfl
      have F1 := Go.Joins.unfrozen_of_block hb1 0
      obtain ⟨va, vc, rfl⟩ := own_form ho.1
      have z2 : wr.cell? ⟨w.heap.size + 1, 0, none⟩ = some (.slice va ms.length vc) := (Go.Joins.cell_of_block hb2 0).trans rfl
      have g3 := Go.Joins.block_setCell (i := 0) hb1 (.slice va ms.length vc)
      have z3 := Go.Joins.cell_of_block g3 0
      simp at z3
      have R2 := Lib.hid (ho.kept (from_set (g := w.heap.size) (by omega) 0 (.slice va ms.length vc)))
      have B2 := Lib.hid (bl_set hb (g := w.heap.size) 0 (by omega) (.slice va ms.length vc))
      have HMS := Lib.hid hms
      clear hb hb1 hb2 ho g3 hms
      go_wp2
      refine bodyPost_ret (v := .agg #[.slice va ms.length vc]) (by simp [results, Try.results67, go_sem, z3]) rfl ⟨_, ms, HMS.out, rfl, OwnN.lower R2.out (by omega), B2.out⟩
set_option linter.unusedVariables false
set_option linter.unusedSimpArgs false
set_option maxRecDepth 8000

def IxRel (zs : List Int) (x : Int) (w : World) (i : Value) (wr : World) : Prop :=
  ∃ k : Nat, k ≤ zs.length ∧ i = .int .i64 k ∧ (∀ j, j < k → zs.getD j 0 ≠ x) ∧ wr = w
set_option maxHeartbeats 2000000 in
/-- slices.Index at linked nodes: the first place. -/
theorem iindex (G b off c : Nat) (ls : List (Int × List Int)) (zs : List Int) (va : Option Addr) (vc : Nat) (w : World) (hL : Linked w G b off ls) (hk : KidsAt w G ls.length va zs) (hc : c < ls.length) (hm : ∃ j, j < zs.length ∧ zs.getD j 0 = (c : Int) + 1) (hzl : zs.length ≤ 1048576) :
    Calls Try.prog 121 #[.slice va zs.length vc, .pointer (some ⟨G + 1 + c, 0, none⟩)] w fun e w' => (∃ t : Nat, e = .returned (.int .i64 t) ∧ t < zs.length ∧ zs.getD t 0 = (c : Int) + 1 ∧ ∀ j, j < t → zs.getD j 0 ≠ (c : Int) + 1) ∧ w' = w := by
  obtain ⟨c4, ho4⟩ := PtrTo.obj (z := (c : Int) + 1) (s := G + 1 + c) hL ⟨_, rfl, Or.inl ⟨nIn_iff.2 (by omega), by omega⟩⟩
  have HKA := Lib.hid hk
  have HL := Lib.hid hL
  have HO4 := Lib.hid ho4
  have HM := Lib.hid hm
  clear hk ho4 hL hm
  go_enter Try.func121, Try.ntmps121
  go_wp2_with (fail)
  go_loopw [5, 8] (fun _ i wr => IxRel zs ((c : Int) + 1) w i wr) (fun _ i _ => zs.length - (intOf i).toNat)
  case atStart => exact ⟨0, Nat.zero_le _, rfl, fun j hj => absurd hj (Nat.not_lt_zero _), rfl⟩
  case round =>
    obtain ⟨k, hkz, rfl, hno, rfl⟩ := hrel
    have HNO := Lib.hid hno
    clear hno
    by_cases hlt : k < zs.length
    · obtain ⟨g, s', rfl, cp, hps⟩ := HKA.out k hlt
      obtain ⟨cs, ho⟩ := PtrTo.obj (z := zs.getD k 0) HL.out hps
      have heq := lk_eql (G + 1 + c) s' _ c4 cs HO4.out ho
      have hnode := hps.node hc
      have hlo : (0 : Int) ≤ (k : Int) := Int.natCast_nonneg _
      have hhi : (k : Int) < (zs.length : Int) := by omega
      clear ho hps
      by_cases he : G + 1 + c = s'
      · have hz := hnode.1 he.symm
        simp only [he, decide_true] at heq
        subst he
        have HN := Lib.hid hz
        clear hnode hz
        go_wp2
        go_ret
        exact ⟨⟨k, rfl, hlt, HN.out, HNO.out⟩, rfl⟩
      · have hz : ¬ zs.getD k 0 = (c : Int) + 1 := fun h => he (hnode.2 h).symm
        simp only [he, decide_false] at heq
        have HN := Lib.hid hz
        clear hnode hz
        go_wp2
        go_roundw
        case rel => exact ⟨k + 1, by omega, by go_num, fun j hj => by
          by_cases e : j = k
          · rw [e]; exact HN.out
          · exact HNO.out j (by omega), rfl⟩
        case measure => simp [intOf]; omega
    · obtain rfl : k = zs.length := by omega
      obtain ⟨j, hj, e⟩ := HM.out
      exact absurd e (HNO.out j hj)
theorem own_take {w : World} {lo size g cap n m : Nat} {e : TypeId} {xs : List Value} (h : w.ownsRow lo e size (.slice (some ⟨g, 0, none⟩) n cap) n xs) (hm : m ≤ n) : w.ownsRow lo e size (.slice (some ⟨g, 0, none⟩) m cap) m (xs.take (m * size)) := by
  have hs : m * size ≤ n * size := Nat.mul_le_mul_right _ hm
  refine ⟨by rw [List.length_take, h.1]; omega, Or.inr ?_⟩
  rcases h.2 with ⟨e1, _⟩ | ⟨g', cap', cur, e1, e2, e3, e4, e5, e6, e7⟩
  · cases e1
  · simp at e1
    obtain ⟨rfl, rfl⟩ := e1
    refine ⟨g, cap, cur, rfl, e2, e3, by omega, e5, e6, ?_⟩
    rw [← e7, List.take_take, Nat.min_eq_left hs]
theorem own_facts {w : World} {lo g cap n : Nat} {e : TypeId} {ps : List Value} (h : w.ownsRow lo e 1 (.slice (some ⟨g, 0, none⟩) n cap) n ps) : ps.length = n ∧ n ≤ cap ∧ cap ≤ maxLen := by
  refine ⟨by simpa using h.1, ?_⟩
  rcases h.2 with ⟨e1, _⟩ | ⟨g', cap', cur, e1, e2, e3, e4, e5, e6, e7⟩
  · cases e1
  · simp at e1
    obtain ⟨rfl, rfl⟩ := e1
    exact ⟨e4, e5⟩
theorem erase_cells {ps : List Value} {t : Nat} (ht : t < ps.length) (z : Value) : (setL (setL ps t (ps.drop (t + 1))) (ps.length - 1) [z]).take (ps.length - 1) = ps.eraseIdx t := by
  apply List.ext_getElem?
  intro i
  rw [List.getElem?_take]
  by_cases hi : i < ps.length - 1
  · rw [if_pos hi, setL_at _ _ _ _ (by rw [setL_len]; simp; omega), if_neg (by simp; omega), setL_at _ _ _ _ (by simp; omega), List.getElem?_eraseIdx]
    by_cases h : t ≤ i
    · rw [if_pos (by simp; omega), if_neg (by omega), List.getElem?_drop, show t + 1 + (i - t) = i + 1 by omega]
    · rw [if_neg (by omega), if_pos (by omega)]
  · rw [if_neg hi, List.getElem?_eq_none (by rw [List.length_eraseIdx, if_pos ht]; omega)]
set_option maxHeartbeats 4000000 in
/-- slices.Delete of one linked node. -/
theorem idelete (g cap n t j lo : Nat) (ps : List Value) (w : World) (ho : w.ownsRow lo 84 1 (.slice (some ⟨g, 0, none⟩) n cap) n ps) (hj : j = t + 1) (ht : t < n) (hn : n ≤ 1048576) (h1 : ∀ u ∈ ps, u.oneCell' = true) :
    Calls Try.prog 122 #[.slice (some ⟨g, 0, none⟩) n cap, .int .i64 t, .int .i64 j] w fun e w' => e = .returned (.slice (some ⟨g, 0, none⟩) (n - 1) cap) ∧ w'.ownsRow lo 84 1 (.slice (some ⟨g, 0, none⟩) (n - 1) cap) (n - 1) (ps.eraseIdx t) ∧ w.grownBy w' (some g) := by
  obtain ⟨i0, hi0, hz0, hz1, hz2⟩ := info_parts info_ptr
  obtain ⟨hpl, hnc, hcm⟩ := own_facts ho
  have hcm' : cap ≤ 9223372036854775807 := by unfold maxLen at hcm; omega
  obtain ⟨news, hnews⟩ : ∃ news, news = ps.drop j := ⟨_, rfl⟩
  have hlen : news.length = n - j := by rw [hnews]; simp [hpl]
  obtain ⟨A, hA, hsrc⟩ : ∃ A : Addr, (if cap = j then some (⟨g, 0, none⟩ : Addr) else some ⟨g, j, none⟩) = some A ∧ Hid (∀ q u, news[q]? = some u → w.drew.cell? (A.add q) = some u) := by
    by_cases h : cap = j
    · refine ⟨⟨g, 0, none⟩, by simp [h], Lib.hid fun q u hu => ?_⟩
      have h0 : news.length = 0 := by rw [hlen]; omega
      rw [List.length_eq_zero_iff.1 h0] at hu
      simp at hu
    · refine ⟨⟨g, j, none⟩, by simp [h], Lib.hid fun q u hu => ?_⟩
      have hq : q < n - j := by have := (List.getElem?_eq_some_iff.1 hu).1; omega
      rw [hnews, List.getElem?_drop] at hu
      rw [Addr.add_lit]
      exact (World.ownsRow.cellAt ho (j + q) (by omega)).trans hu
  have s1 := Lib.hid (show news.length = (n - j) * 1 by omega)
  have s2 := Lib.hid (show ∀ u ∈ news, u.oneCell' = true from fun u hu => h1 u (by rw [hnews] at hu; exact List.mem_of_mem_drop hu))
  have s3 := Lib.hid (show ∀ q, q < news.length → (w.drew.cell? ⟨g, 0 + t * 1 + q, none⟩).isSome = true ∧ w.drew.frozen? ⟨g, 0 + t * 1 + q, none⟩ = false from fun q hq => by
    rw [Nat.mul_one, Nat.zero_add]
    refine ⟨?_, World.ownsRow.frozenAt ho _⟩
    show (w.cell? _).isSome = true
    rw [World.ownsRow.cellAt ho (t + q) (by omega), List.getElem?_eq_getElem (by omega)]; rfl)
  obtain ⟨W1, hW1⟩ : ∃ W1, W1 = w.drew.setCells g (0 + t * 1) news := ⟨_, rfl⟩
  have ho1 : W1.ownsRow lo 84 1 (.slice (some ⟨g, 0, none⟩) n cap) n (setL ps t news) := by rw [hW1, Nat.mul_one, Nat.zero_add]; exact ownsRow_setCells news ps t w.drew (World.ownsRow.drew ho)
  have g1 : w.grownBy W1 (some g) := by rw [hW1]; exact gr_cells _ _ _ ⟨rfl, rfl, rfl, Nat.le_refl _, fun _ _ _ => rfl⟩
  have hcl : ∀ ty, (Builtin.clear_ #[81] ty #[.slice (some ⟨g, t + (n - j), none⟩) (n - (t + (n - j))) (cap - (t + (n - j)))]).run Try.prog W1 = .ok (.tuple #[]) (W1.setCells g (t + (n - j)) (List.replicate (n - (t + (n - j))) (.pointer none))) :=
    fun ty => Lib.run_clear_slice W1 _ _ ty _ Try.underlying81 (fun w => by kernel_rfl) rfl rfl g (t + (n - j)) _ _ (by omega) (fun q hq => by rw [World.ownsRow.cellAt ho1 _ (by omega), List.getElem?_eq_getElem (by rw [setL_len]; omega)]; rfl) (fun q hq => World.ownsRow.frozenAt ho1 _)
  have HO1 := Lib.hid ho1
  have G1 := Lib.hid g1
  have HW := Lib.hid hW1
  have HNW := Lib.hid hnews
  have HPL := Lib.hid hpl
  have hic : t ≤ cap := by omega
  have hjc : j ≤ cap := by omega
  have hjn : j ≤ n := by omega
  have hlt : t < j := by omega
  have HJ := Lib.hid hj
  clear hW1 ho1 g1 ho hnews hlen h1 hj
  go_enter Try.func122, Try.ntmps122
  go_wp2_with (fail)
  go_region_law (refine step_append_room rfl (.tmp 22) (.tmp 25) 81 rfl 84 i0 1 Try.underlying81 hi0 hz1 g 0 t cap (by simp [Act.eval, Act.put]) A (n - j) (cap - j) news (by simp [Act.eval, Act.put]) s1.out hsrc.out s2.out (by omega) s3.out ?_; rw [← HW.out])
  go_wp2
  go_ret
  have e1 : t + (n - j) = n - 1 := by have := HJ.out; omega
  have e2 : n - (n - 1) = 1 := by omega
  rw [e1, e2]
  refine ⟨rfl, ?_, gr_cells _ _ _ G1.out⟩
  have h := own_take (ownsRow_setCells (List.replicate 1 (.pointer none)) _ (n - 1) _ HO1.out) (show n - 1 ≤ n by omega)
  have h2 := erase_cells (ps := ps) (t := t) (by rw [HPL.out]; exact ht) (.pointer none)
  rw [HPL.out] at h2
  rw [Nat.mul_one, HNW.out, HJ.out] at h
  rw [show List.replicate 1 (Value.pointer none) = [.pointer none] from rfl] at h
  rw [h2] at h
  exact h
theorem KidsP.far {w w' : World} {G n lo lo' j : Nat} {v v' : Value} {zs : List Int} {ps : List Value} (h : KidsP w G n lo v zs) (hown : w.ownsRow lo' 84 1 v' j ps) (hg : w.grownBy w' v'.ownBlock) (hne : ∀ x, v.ownBlock = some x → v'.ownBlock ≠ some x) : KidsP w' G n lo v zs := by
  obtain ⟨qs, h1, h2⟩ := h
  refine ⟨qs, World.ownsRow.kept h1 hg ?_, fun j z hz => ?_⟩
  · cases hx : v.ownBlock with
    | none => exact Or.inl rfl
    | some x => exact Or.inr fun e => hne x hx e.symm
  · obtain ⟨p, h3, h4⟩ := h2 j z hz
    exact ⟨p, h3, h4.app hown hg⟩
/-- The links of the nodes once the child c has been taken from its parent p, where it stands at t. -/
def cutL (ls : List (Int × List Int)) (p c t : Nat) (lp lc : Int × List Int) : List (Int × List Int) := (ls.set p (lp.1, lp.2.eraseIdx t)).set c (0, lc.2)
theorem Linked.cut {w w1 w2 w3 : World} {G b off p c t gk cap : Nat} {ls : List (Int × List Int)} {lp lc : Int × List Int} {ps : List Value} {ups kvs : Nat → Value} (hAll : AllP w G ls.length) (hG : G + ls.length < w.heap.size)
    (h3 : ∀ (i : Nat) (l : Int × List Int), ls[i]? = some l → w.heap[G + 1 + i]? = some (.cells (lkA (i + 1) (.pointer (some ⟨b, off + i * 64, none⟩)) (ups i) (kvs i)) 95) ∧ UpP w G ls.length l.1 (ups i) ∧ KidsP w G ls.length (G + ls.length + 1) (kvs i) l.2)
    (h4 : ∀ (i j x : Nat), i < ls.length → j < ls.length → (kvs i).ownBlock = some x → (kvs j).ownBlock = some x → i = j)
    (hp : ls[p]? = some lp) (hc : ls[c]? = some lc) (hpc : p ≠ c) (ht : t < lp.2.length) (hkp : kvs p = .slice (some ⟨gk, 0, none⟩) lp.2.length cap)
    (hps : w.ownsRow (G + ls.length + 1) 84 1 (.slice (some ⟨gk, 0, none⟩) lp.2.length cap) lp.2.length ps) (hpt : ∀ (j : Nat) (z : Int), lp.2[j]? = some z → ∃ q, ps[j]? = some q ∧ PtrTo w G ls.length z q)
    (ho1 : w1.ownsRow (G + ls.length + 1) 84 1 (.slice (some ⟨gk, 0, none⟩) (lp.2.length - 1) cap) (lp.2.length - 1) (ps.eraseIdx t)) (hg1 : w.grownBy w1 (some gk))
    (e2 : w2 = w1.setCell ⟨G + 1 + p, 3, none⟩ (.slice (some ⟨gk, 0, none⟩) (lp.2.length - 1) cap)) (e3 : w3 = w2.setCell ⟨G + 1 + c, 2, none⟩ (.pointer none)) :
    Linked w3 G b off (cutL ls p c t lp lc) ∧ Below G w w3 := by
  have hpl := (List.getElem?_eq_some_iff.1 hp).1
  have hcl := (List.getElem?_eq_some_iff.1 hc).1
  have hgk : G + ls.length + 1 ≤ gk := (World.ownsRow.lt hps gk rfl).1
  have hlen : (cutL ls p c t lp lc).length = ls.length := by simp [cutL]
  have g2 : w1.grownBy w2 (some (G + 1 + p)) := by rw [e2]; exact gr_set (World.grownBy.refl w1 _)
  have g3 : w2.grownBy w3 (some (G + 1 + c)) := by rw [e3]; exact gr_set (World.grownBy.refl w2 _)
  have hsz : w.heap.size ≤ w3.heap.size := Nat.le_trans hg1.size (Nat.le_trans g2.size g3.size)
  have hB : Below G w w3 := by
    have b0 : Below G w w := Below.refl _ _
    have b1 : Below G w w1 := b0.grown hg1 (by omega) (fun q hq => by simp at hq; omega)
    have b2 : Below G w w2 := by rw [e2]; exact bl_set b1 3 (by omega) _
    rw [e3]; exact bl_set b2 2 (by omega) _
  have up3 : ∀ {z : Int} {v : Value}, UpP w G ls.length z v → UpP w3 G ls.length z v := fun h => ((h.app hps hg1).grown g2 (by omega)).grown g3 (by omega)
  have kid3 : ∀ {v : Value} {zs : List Int}, KidsP w1 G ls.length (G + ls.length + 1) v zs → KidsP w3 G ls.length (G + ls.length + 1) v zs := fun h => (h.grown g2 (by omega) (by omega)).grown g3 (by omega) (by omega)
  have far : ∀ i, i < ls.length → i ≠ p → ∀ {zs : List Int}, KidsP w G ls.length (G + ls.length + 1) (kvs i) zs → KidsP w3 G ls.length (G + ls.length + 1) (kvs i) zs := fun i hi hip {zs} h => kid3 (h.far hps hg1 (fun x hx e => by
    have : x = gk := by simpa [Value.ownBlock] using e.symm
    subst this
    exact hip (h4 i p x hi hpl hx (by rw [hkp]; rfl))))
  have blk1 : ∀ i l, ls[i]? = some l → w1.heap[G + 1 + i]? = some (.cells (lkA (i + 1) (.pointer (some ⟨b, off + i * 64, none⟩)) (ups i) (kvs i)) 95) := fun i l hl => by
    have hi := (List.getElem?_eq_some_iff.1 hl).1
    exact lk_grown (h3 i l hl).1 hg1 (fun e => by simp at e; omega)
  refine ⟨⟨?_, by rw [hlen]; omega, fun i => if i = c then .pointer none else ups i, fun i => if i = p then .slice (some ⟨gk, 0, none⟩) (lp.2.length - 1) cap else kvs i, fun i l hl => ?_, fun i j x hi hj h5 h6 => ?_⟩, hB⟩
  · rw [hlen]
    exact ((hAll.grown (by omega) hg1 (fun e => by simp at e; omega)).grown (by have := hg1.size; omega) g2 (fun e => by simp at e; omega)).grown (by have := hg1.size; have := g2.size; omega) g3 (fun e => by simp at e; omega)
  · rw [hlen]
    by_cases ic : i = c
    · subst ic
      have hl' : l = (0, lc.2) := by
        rw [cutL, List.getElem?_set_self (by simpa using hcl)] at hl
        exact (Option.some.inj hl).symm
      subst hl'
      simp only [↓reduceIte, if_neg (Ne.symm hpc)]
      refine ⟨?_, by unfold UpP; rw [if_pos rfl], far i hcl (Ne.symm hpc) (h3 i lc hc).2.2⟩
      have hb1 := hp_set (g' := G + 1 + p) (blk1 i lc hc) (by omega) 3 (.slice (some ⟨gk, 0, none⟩) (lp.2.length - 1) cap)
      rw [← e2] at hb1
      have hb2 := Go.Joins.block_setCell (i := 2) hb1 (.pointer none)
      rw [← e3] at hb2
      rw [hb2, lkA_put2]
    · by_cases ip : i = p
      · subst ip
        have hl' : l = (lp.1, lp.2.eraseIdx t) := by
          rw [cutL, List.getElem?_set_ne (Ne.symm ic), List.getElem?_set_self hpl] at hl
          exact (Option.some.inj hl).symm
        subst hl'
        simp only [↓reduceIte, if_neg ic]
        refine ⟨?_, up3 (h3 i lp hp).2.1, kid3 ⟨ps.eraseIdx t, by rw [List.length_eraseIdx, if_pos ht]; exact ho1, fun j z hz => ?_⟩⟩
        · have hb1 := Go.Joins.block_setCell (i := 3) (blk1 i lp hp) (.slice (some ⟨gk, 0, none⟩) (lp.2.length - 1) cap)
          rw [← e2] at hb1
          have hb2 := hp_set (g' := G + 1 + c) hb1 (by omega) 2 (.pointer none)
          rw [← e3] at hb2
          rw [hb2, lkA_put3]
        · rw [List.getElem?_eraseIdx] at hz ⊢
          split at hz
          · rename_i h; rw [if_pos h]; obtain ⟨q, q1, q2⟩ := hpt j z hz; exact ⟨q, q1, q2.app hps hg1⟩
          · rename_i h; rw [if_neg h]; obtain ⟨q, q1, q2⟩ := hpt (j + 1) z hz; exact ⟨q, q1, q2.app hps hg1⟩
      · have hl' : ls[i]? = some l := by rw [cutL, List.getElem?_set_ne (Ne.symm ic), List.getElem?_set_ne (Ne.symm ip)] at hl; exact hl
        have hi := (List.getElem?_eq_some_iff.1 hl').1
        simp only [if_neg ic, if_neg ip]
        refine ⟨?_, up3 (h3 i l hl').2.1, far i hi ip (h3 i l hl').2.2⟩
        have hb1 := hp_set (g' := G + 1 + p) (blk1 i l hl') (by omega) 3 (.slice (some ⟨gk, 0, none⟩) (lp.2.length - 1) cap)
        rw [← e2] at hb1
        have hb2 := hp_set (g' := G + 1 + c) hb1 (by omega) 2 (.pointer none)
        rw [← e3] at hb2
        exact hb2
  · rw [hlen] at hi hj
    have key : ∀ i, (if i = p then (Value.slice (some ⟨gk, 0, none⟩) (lp.2.length - 1) cap) else kvs i).ownBlock = (kvs i).ownBlock := fun i => by
      by_cases e : i = p
      · rw [if_pos e, e, hkp]; rfl
      · rw [if_neg e]
    simp only [key] at h5 h6
    exact h4 i j x hi hj h5 h6
set_option maxHeartbeats 4000000 in
/-- linkedNode.remove -/
theorem iremove (G b off p c : Nat) (ls : List (Int × List Int)) (lp lc : Int × List Int) (w : World) (hL : Linked w G b off ls) (hp : ls[p]? = some lp) (hc : ls[c]? = some lc) (hpc : p ≠ c) (hm : ∃ j, j < lp.2.length ∧ lp.2.getD j 0 = (c : Int) + 1) (hzl : lp.2.length ≤ 1048576) :
    Calls Try.prog 83 #[.pointer (some ⟨G + 1 + p, 0, none⟩), .pointer (some ⟨G + 1 + c, 0, none⟩)] w fun e w' => (∃ r, e = .returned r) ∧ ∃ t, t < lp.2.length ∧ lp.2.getD t 0 = (c : Int) + 1 ∧ Linked w' G b off (cutL ls p c t lp lc) ∧ Below G w w' := by
  have HL := Lib.hid hL
  obtain ⟨hAll, hG, ups, kvs, h3, h4⟩ := hL
  have hpl := (List.getElem?_eq_some_iff.1 hp).1
  have hcl := (List.getElem?_eq_some_iff.1 hc).1
  obtain ⟨q1, q2, q3⟩ := h3 p lp hp
  have hka := q3.at
  obtain ⟨ps, hps, hpt⟩ := q3
  have hlen0 : 0 < lp.2.length := by obtain ⟨j, hj, _⟩ := hm; omega
  obtain ⟨gk, cap, ekv⟩ : ∃ gk cap, kvs p = .slice (some ⟨gk, 0, none⟩) lp.2.length cap := by
    rcases hps.2 with ⟨_, e2⟩ | ⟨g, cap, cur, e1, _⟩
    · omega
    · exact ⟨g, cap, e1⟩
  obtain ⟨va, vc, eva, hka⟩ := hka
  rw [ekv] at eva hps q1
  cases eva
  have hone : ∀ u ∈ ps, u.oneCell' = true := fun u hu => by
    obtain ⟨j, hj⟩ := List.mem_iff_getElem?.1 hu
    have hjl := (List.getElem?_eq_some_iff.1 hj).1
    have hl1 : ps.length = lp.2.length := by simpa using hps.1
    rw [hl1] at hjl
    obtain ⟨q, e, s, rfl, _⟩ := hpt j _ (List.getElem?_eq_getElem hjl)
    rw [hj] at e
    cases e
    rfl
  have KD0 : ∀ t, t < lp.2.length → Calls Try.prog 122 #[.slice (some ⟨gk, 0, none⟩) lp.2.length cap, .int .i64 t, .int .i64 ((t : Int) + 1)] w fun e w' => e = .returned (.slice (some ⟨gk, 0, none⟩) (lp.2.length - 1) cap) ∧ w'.ownsRow (G + ls.length + 1) 84 1 (.slice (some ⟨gk, 0, none⟩) (lp.2.length - 1) cap) (lp.2.length - 1) (ps.eraseIdx t) ∧ w.grownBy w' (some gk) := fun t ht => idelete gk cap lp.2.length t (t + 1) (G + ls.length + 1) ps w hps rfl ht hzl hone
  have KD := Lib.hid KD0
  clear KD0
  have KC := Lib.hid (fun t w1 w2 w3 (ht : t < lp.2.length) h5 h6 h7 h8 => Linked.cut (w1 := w1) (w2 := w2) (w3 := w3) (t := t) hAll hG h3 h4 hp hc hpc ht ekv hps hpt h5 h6 h7 h8)
  have hgk := (World.ownsRow.lt hps gk rfl).1
  have Q2 := Lib.hid (h3 c lc hc).1
  have c3 : w.cell? ⟨G + 1 + p, 3, none⟩ = some (.slice (some ⟨gk, 0, none⟩) lp.2.length cap) := (Go.Joins.cell_of_block q1 3).trans rfl
  have Q1 := Lib.hid q1
  have HKA := Lib.hid hka
  have HM := Lib.hid hm
  clear q1 q2 hps hka hone hAll hG h3 h4 hpt hm
  go_enter Try.func83, Try.ntmps83
  go_wp2_with (fail)
  refine (iindex G b off c ls lp.2 (some ⟨gk, 0, none⟩) cap w HL.out HKA.out hcl HM.out hzl).mono ?_
  rintro e w0 ⟨⟨t, rfl, ht, hte, _⟩, rfl⟩
  have hw : IntKind.i64.wrap ((t : Int) + 1) = (t : Int) + 1 := IntWalk.i64_in _ (by omega)
  (try dsimp only)
  go_wp2_with (fail)
  refine (KD.out t ht).mono ?_
  rintro e w1 ⟨rfl, ho1, hg1⟩
  have b3 := lk_grown Q1.out hg1 (fun e => by simp at e; omega)
  have b4 := lk_grown Q2.out hg1 (fun e => by simp at e; omega)
  obtain ⟨w2, e2⟩ : ∃ q, q = w1.setCell ⟨G + 1 + p, 3, none⟩ (.slice (some ⟨gk, 0, none⟩) (lp.2.length - 1) cap) := ⟨_, rfl⟩
  have b5 := hp_set (g' := G + 1 + p) b4 (by omega) 3 (.slice (some ⟨gk, 0, none⟩) (lp.2.length - 1) cap)
  rw [← e2] at b5
  obtain ⟨w3, e3⟩ : ∃ q, q = w2.setCell ⟨G + 1 + c, 2, none⟩ (.pointer none) := ⟨_, rfl⟩
  have D := Lib.hid (KC.out t w1 w2 w3 ht ho1 hg1 e2 e3)
  have E2 := Lib.hid e2
  have E3 := Lib.hid e3
  have c5 : w1.cell? ⟨G + 1 + p, 3, none⟩ = some (.slice (some ⟨gk, 0, none⟩) lp.2.length cap) := (Go.Joins.cell_of_block b3 3).trans rfl
  have f5 := Go.Joins.unfrozen_of_block b3 3
  have c6 : w2.cell? ⟨G + 1 + c, 2, none⟩ = some (ups c) := (Go.Joins.cell_of_block b5 2).trans rfl
  have f6 := Go.Joins.unfrozen_of_block b5 2
  clear b3 b4 b5 e2 e3 ho1 hg1
  (try dsimp only)
  go_wp2_with (first
    | (rw [← E2.out])
    | (rw [← E3.out])
    | fail)
  exact bodyPost_end (v := .tuple #[]) (by simp [results, Try.results83, go_sem]) rfl ⟨⟨_, rfl⟩, t, ht, hte, D.out⟩
set_option linter.unusedVariables false
set_option linter.unusedSimpArgs false
set_option maxRecDepth 8000

def rmB (ns : List PN) (z y : Int) : Bool := treeB ns && nIn ns.length z && nIn ns.length y
def rmK (ns : List PN) (z y : Int) : List PN := ns.set (z - 1).toNat { ndAt ns z with kids := (ndAt ns z).kids.filter fun k => k != y }
def rmSet (ns : List PN) (z y : Int) : List PN := (rmK ns z y).set (y - 1).toNat { ndAt (rmK ns z y) y with up := 0 }
def rkC (ns : List PN) (z y : Int) : Int := if rmB ns z y = true then if upZ ns y = z then 0 else 3 else 1
def rkN (ns : List PN) (z y : Int) : List PN := if rmB ns z y = true then if upZ ns y = z then rmSet ns z y else ns else ns
theorem dpF_self {ns : List PN} {y : Int} (h0 : y ≠ 0) (h : upZ ns y = y) : ∀ f k, dpF ns f y k = 0
  | 0, k => by rw [dpF, if_neg h0]
  | f + 1, k => by
    rw [dpF, if_neg h0, h, dpF_self h0 h f]
    split <;> rfl
theorem self_up {ns : List PN} {c : Nat} (ht : treeB ns = true) (hc : c < ns.length) : upZ ns ((c : Int) + 1) ≠ (c : Int) + 1 := fun e => by
  have h := (nodeB_parts (treeB_node ht hc)).2.2.2.2
  unfold depOk at h
  have := of_decide_eq_true h
  rw [show dpV ns ((c : Int) + 1) = 0 from dpF_self (by omega) e _ _] at this
  omega
theorem erase_filter {y : Int} : ∀ {l : List Int} {t : Nat}, l.count y = 1 → t < l.length → l.getD t 0 = y → l.eraseIdx t = l.filter fun k => k != y
  | a :: xs, 0, hc, _, e => by
    have e : a = y := e
    subst e
    have h0 : xs.count a = 0 := by simpa using hc
    have hn : a ∉ xs := List.count_eq_zero.1 h0
    rw [List.eraseIdx_cons_zero, List.filter_cons_of_neg (by simp)]
    exact (List.filter_eq_self.2 fun x hx => by
      have : x ≠ a := fun (e : x = a) => hn (by rw [← e]; exact hx)
      simpa using this).symm
  | a :: xs, t + 1, hc, ht, e => by
    have ht' : t < xs.length := by simpa using ht
    have e' : xs.getD t 0 = y := by simpa using e
    have hm : y ∈ xs := by
      rw [← e', List.getD_eq_getElem?_getD, List.getElem?_eq_getElem ht']
      exact List.getElem_mem ht'
    have h1 : 1 ≤ xs.count y := List.one_le_count_iff.2 hm
    have ha : a ≠ y := fun h => by
      subst h
      rw [List.count_cons_self] at hc
      omega
    rw [List.count_cons_of_ne (by simpa using ha)] at hc
    rw [List.eraseIdx_cons_succ, erase_filter hc ht' e', List.filter_cons_of_pos (by simpa using ha)]
theorem links_at {ns : List PN} {k : Nat} (h : k < ns.length) : (linksOf ns)[k]? = some (ns[k].up, ns[k].kids) := by
  rw [linksOf, List.getElem?_map, List.getElem?_eq_getElem h]; rfl
theorem rm_relink {ns : List PN} {p c t : Nat} (hp : p < ns.length) (hc : c < ns.length) (hpc : p ≠ c) (hct : (ns[p].kids).count ((c : Int) + 1) = 1) (ht : t < ns[p].kids.length) (he : ns[p].kids.getD t 0 = (c : Int) + 1) :
    relink ns (cutL (linksOf ns) p c t (ns[p].up, ns[p].kids) (ns[c].up, ns[c].kids)) = rmSet ns ((p : Int) + 1) ((c : Int) + 1) := by
  have ef := erase_filter hct ht he
  have e1 : ((p : Int) + 1 - 1).toNat = p := by omega
  have e2 : ((c : Int) + 1 - 1).toNat = c := by omega
  have hk : rmK ns ((p : Int) + 1) ((c : Int) + 1) = ns.set p { ns[p] with kids := ns[p].kids.filter fun k => k != (c : Int) + 1 } := by unfold rmK; rw [e1, ndAt_nat hp]
  have hnc : ndAt (rmK ns ((p : Int) + 1) ((c : Int) + 1)) ((c : Int) + 1) = ns[c] := by
    rw [ndAt_nat (by rw [hk]; simpa using hc)]
    simp only [hk]
    rw [List.getElem_set_ne hpc]
  unfold rmSet
  rw [e2, hnc, hk]
  apply List.ext_getElem?
  intro i
  have hl : (linksOf ns).length = ns.length := linksOf_len ns
  unfold relink cutL
  rw [List.getElem?_zipWith, List.getElem?_set, List.getElem?_set, List.getElem?_set, List.getElem?_set]
  by_cases ic : c = i
  · subst ic
    rw [if_pos rfl, if_pos (by simp [hl]; exact hc), if_pos rfl, if_pos (by simpa using hc), List.getElem?_eq_getElem hc]
  · rw [if_neg ic, if_neg ic]
    by_cases ip : p = i
    · subst ip
      rw [if_pos rfl, if_pos (by rw [hl]; exact hp), if_pos rfl, if_pos hp, List.getElem?_eq_getElem hp]
      simp [ef]
    · rw [if_neg ip, if_neg ip]
      by_cases hi : i < ns.length
      · rw [links_at hi, List.getElem?_eq_getElem hi]
      · rw [List.getElem?_eq_none (show ns.length ≤ i by omega)]
theorem link_in {ns : List PN} (ht : treeB ns = true) (hk : ∀ n ∈ ns, n.kids.length ≤ 1048576) : LinkIn ns.length (linksOf ns) := fun l hl => by
  obtain ⟨n, hn, rfl⟩ := List.mem_map.1 hl
  obtain ⟨i, hi, e⟩ := List.getElem_of_mem hn
  have hp := nodeB_parts (treeB_node ht hi)
  rw [e] at hp
  refine ⟨?_, fun z hz => ?_, hk n hn⟩
  · have := hp.2.1
    unfold upOk at this
    simp only [Bool.or_eq_true, Bool.and_eq_true, beq_iff_eq] at this
    exact this.imp id And.left
  · have := hp.2.2.1
    unfold kidsOk at this
    have := List.all_eq_true.1 this z hz
    unfold kidOk at this
    simp only [Bool.and_eq_true] at this
    exact this.1
theorem cut_in {n p c t : Nat} {ls : List (Int × List Int)} {lp lc : Int × List Int} (h : LinkIn n ls) (hp : ls[p]? = some lp) (hc : ls[c]? = some lc) : LinkIn n (cutL ls p c t lp lc) := fun l hl => by
  have h1 := h lp (List.mem_of_getElem? hp)
  have h2 := h lc (List.mem_of_getElem? hc)
  unfold cutL at hl
  rcases List.mem_or_eq_of_mem_set hl with hl | rfl
  · rcases List.mem_or_eq_of_mem_set hl with hl | rfl
    · exact h l hl
    · exact ⟨h1.1, fun z hz => h1.2.1 z (List.mem_of_mem_eraseIdx hz), Nat.le_trans (List.length_eraseIdx_le ..) h1.2.2⟩
  · exact ⟨Or.inl rfl, h2.2⟩
theorem rk_done {w w1 : World} {lo : Nat} {x : Value} {ms : List ND} (h6 : w1.heap[w.heap.size + 1]? = some (.cells #[.slice none 0 0] 26)) (ho : OwnN lo x ms w1) (hlo : w.heap.size + 1 < lo) (hb : Below w.heap.size w w1) :
    (w1.setCell ⟨w.heap.size + 1, 0, none⟩ x).cell? ⟨w.heap.size + 1, 0, none⟩ = some x ∧ OwnN w.heap.size x ms (w1.setCell ⟨w.heap.size + 1, 0, none⟩ x) ∧ Below w.heap.size w (w1.setCell ⟨w.heap.size + 1, 0, none⟩ x) := by
  have g3 := Go.Joins.block_setCell (i := 0) h6 x
  exact ⟨(Go.Joins.cell_of_block g3 0).trans rfl, (ho.kept (from_set (g := w.heap.size + 1) hlo 0 x)).lower (by omega), bl_set hb (g := w.heap.size + 1) 0 (by omega) x⟩
/-- linkedTree.at of a node. -/
theorem iat_in (G n cap k : Nat) (w : World) (hk : k < n) (hall : AllP w G n) (hG : G + n < w.heap.size) (hn : n ≤ 1048576) :
    Calls Try.prog 64 #[.slice (some ⟨G, 0, none⟩) n cap, .int .i64 ((k : Int) + 1)] w fun e w' => e = .returned (.pointer (some ⟨G + 1 + k, 0, none⟩)) ∧ w' = w :=
  (iat_new G n cap ((k : Int) + 1) w ⟨by omega, by omega⟩ hall hG hn).mono fun e w' ⟨p, h1, ⟨s, h2, h3⟩, _, _, h4⟩ => by
    have hin : nIn n ((k : Int) + 1) = true := nIn_iff.2 (by omega)
    have : s = G + 1 + k := by
      rcases h3 with ⟨_, h⟩ | ⟨h, _⟩
      · omega
      · rw [hin] at h; cases h
    subst this
    exact ⟨by rw [h1, h2], h4 hin⟩
set_option maxHeartbeats 1000000 in
theorem iremovekid (a : Option Addr) (cap : Nat) (ns : List PN) (z y : Int) (w : World) (hz : Nds w a ns) (hl : szS ns ≤ 1048576) (hz0 : I64 z) (hy0 : I64 y) :
    Calls Try.prog 21 #[.agg #[.slice a ns.length cap], .int .i64 z, .int .i64 y] w (ChPost (rkN ns z y) (rkC ns z y) w) := by
  have bb := Go.Joins.below_alloc2 w (.cells #[.slice a ns.length cap] 26) (.cells #[.slice none 0 0] 26)
  have h0 := hp_on (hp_new w (.cells #[.slice a ns.length cap] 26)) (.cells #[.slice none 0 0] 26)
  have h6 := hp_new (w.alloc (.cells #[.slice a ns.length cap] 26)) (.cells #[.slice none 0 0] 26)
  simp only [World.size_alloc] at h6
  obtain ⟨u, eu⟩ : ∃ u, u = ((w.alloc (.cells #[.slice a ns.length cap] 26)).alloc (.cells #[.slice none 0 0] 26)) := ⟨_, rfl⟩
  rw [← eu] at bb h0 h6
  have EU := Lib.hid eu
  have HZ := Lib.hid hz
  have HK0 := Lib.hid (fun w' (h : Nds w' a ns) (x : Int) => ihasnode a cap ns x w' h hl)
  have hv : rkN ns z y = if (treeB ns && nIn ns.length z && nIn ns.length y) = true then if upZ ns y = z then rmSet ns z y else ns else ns := rfl
  have hc : rkC ns z y = if (treeB ns && nIn ns.length z && nIn ns.length y) = true then if upZ ns y = z then 0 else 3 else 1 := rfl
  have c0 : u.cell? ⟨w.heap.size, 0, none⟩ = some (.slice a ns.length cap) := (Go.Joins.cell_of_block h0 0).trans rfl
  clear hz eu
  by_cases hb1 : (nIn ns.length z && treeB ns) = true
  · obtain ⟨hN1, hT⟩ := Bool.and_eq_true_iff.1 hb1
    by_cases hN2 : nIn ns.length y = true
    · have hb2 : (nIn ns.length y && treeB ns) = true := by rw [hN2, hT]; rfl
      have hf : (treeB ns && nIn ns.length z && nIn ns.length y) = true := by rw [hN1, hN2, hT]; rfl
      rw [hv, hc, hf, if_pos rfl, if_pos rfl]
      have HB1 := Lib.hid hb1
      have HB2 := Lib.hid hb2
      clear hv hc hb1 hb2 hf
      obtain ⟨A, eA⟩ : ∃ A, A = (if upZ ns y = z then rmSet ns z y else ns) := ⟨_, rfl⟩
      obtain ⟨C, eC⟩ : ∃ C : Int, C = (if upZ ns y = z then 0 else 3) := ⟨_, rfl⟩
      rw [← eA, ← eC]
      have EA := Lib.hid eA
      have EC := Lib.hid eC
      clear eA eC
      have h1 := nIn_iff.1 hN1
      have h2 := nIn_iff.1 hN2
      obtain ⟨p, hzp, hp⟩ : ∃ p : Nat, z = (p : Int) + 1 ∧ p < ns.length := ⟨(z - 1).toNat, by omega, by omega⟩
      obtain ⟨c, hyc, hc⟩ : ∃ c : Nat, y = (c : Int) + 1 ∧ c < ns.length := ⟨(y - 1).toNat, by omega, by omega⟩
      have hnl : ns.length ≤ 1048576 := by unfold szS at hl; omega
      obtain ⟨b, off, ha⟩ := HZ.out.place
      have HA := Lib.hid ha
      subst hzp hyc
      have HT := Lib.hid hT
      have HN1 := Lib.hid hN1
      have HN2 := Lib.hid hN2
      clear hT hN1 hN2 h1 h2 ha
      go_enter Try.func21, Try.ntmps21
      go_wp2_with (rw [← EU.out])
      clear c0
      refine (HK0.out _ (HZ.out.below bb) _).mono ?_
      rintro e w1 ⟨rfl, b1⟩
      rw [HB1.out]
      replace h0 := hp_below h0 b1
      replace h6 := hp_below h6 b1
      replace bb := bb.trans (b1.mono bb.size)
      clear b1
      have c0 := c_of h0
      (try dsimp only)
      go_wp2_with (fail)
      clear c0
      refine (HK0.out _ (HZ.out.below bb) _).mono ?_
      rintro e w2 ⟨rfl, b2⟩
      rw [HB2.out]
      replace h0 := hp_below h0 b2
      replace h6 := hp_below h6 b2
      replace bb := bb.trans (b2.mono bb.size)
      clear b2
      have c0 := c_of h0
      (try dsimp only)
      go_wp2_with (fail)
      clear c0
      refine (ilinkedof a cap b off ns _ (HZ.out.below bb) hl HA.out).mono ?_
      rintro e w3 ⟨rfl, hL, b3⟩
      have hlt := hp_lt h6
      have hG : w.heap.size + 1 < w2.heap.size + 1 := by omega
      have hGw : w.heap.size ≤ w2.heap.size + 1 := by omega
      replace h0 := hp_below h0 b3
      replace h6 := hp_below h6 b3
      replace bb := bb.trans (b3.mono bb.size)
      generalize w2.heap.size + 1 = G at *
      have H1 := Lib.hid hL
      clear b3 hL hlt
      (try dsimp only)
      go_wp2_with (fail)
      have KAT := Lib.hid (fun k (hk : k < ns.length) => iat_in G ns.length ns.length k w3 hk (by have := H1.out.1; rwa [linksOf_len] at this) (by have := H1.out.2.1; rwa [linksOf_len] at this) hnl)
      refine (KAT.out p hp).mono ?_
      rintro e w4 ⟨rfl, rfl⟩
      (try dsimp only)
      go_wp2_with (fail)
      refine (KAT.out c hc).mono ?_
      rintro e w5 ⟨rfl, rfl⟩
      clear KAT
      obtain ⟨lc, c', upv, kv, ecc, _, hlc, hbc, hupc, _⟩ := H1.out.at (z := (c : Int) + 1) (by rw [linksOf_len]; exact HN2.out)
      obtain rfl : c' = c := by omega
      rw [links_at hc] at hlc
      cases hlc
      rw [linksOf_len] at hupc
      have hub := (nodeB_parts (treeB_node HT.out hc)).2.1
      have hsu := self_up HT.out hc
      have hupz : upZ ns ((c' : Int) + 1) = ns[c'].up := by unfold upZ; rw [ndAt_nat hc]
      rw [hupz] at EA EC hsu
      have HUB := Lib.hid hub
      have HSU := Lib.hid hsu
      clear hub hsu hupz ecc
      have c2 : w5.cell? ⟨G + 1 + c', 2, none⟩ = some upv := (Go.Joins.cell_of_block hbc 2).trans rfl
      by_cases e0 : ns[c'].up = 0
      · have ea := EA.out
        have ec := EC.out
        rw [if_neg (by rw [e0]; omega)] at ea ec
        replace ea := ea.symm
        subst ea ec
        unfold UpP at hupc
        rw [if_pos e0] at hupc
        subst hupc
        have heq := lk_neq_nil (G + 1 + p) w5
        have c0 := c_of h0
        clear hbc e0
        (try dsimp only)
        go_wp2_with (fail)
        clear c0 c2 heq
        refine (itrcopy a cap ns _ (HZ.out.below bb) hl).mono ?_
        rintro e w9 ⟨v, ms, hms, rfl, ho, b3⟩
        obtain ⟨av, cv, rfl⟩ := own_form ho.1
        have hlt := hp_lt h6
        have hS := bb.size
        replace h6 := hp_below h6 b3
        have D := Lib.hid (rk_done h6 ho hlt (bb.trans (b3.mono hS)))
        have c6 := c_of h6
        have f6 := Go.Joins.unfrozen_of_block h6 0
        clear ho b3 bb h0 hS h6
        (try dsimp only)
        go_wp2_with (fail)
        obtain ⟨zc, D1, D2⟩ := D.out
        obtain ⟨w10, ew10⟩ : ∃ q, q = w9.setCell ⟨w.heap.size + 1, 0, none⟩ (.slice av ms.length cv) := ⟨_, rfl⟩
        rw [← ew10] at zc D1 D2 ⊢
        exact bodyPost_ret (v := .tuple #[.agg #[.slice av ms.length cv], .int .i64 3]) (by simp [results, Try.results21, go_sem, zc]) rfl ⟨_, ms, hms, rfl, D1, D2⟩
      · unfold UpP at hupc
        rw [if_neg e0] at hupc
        have hin : nIn ns.length ns[c'].up = true ∧ cntZ (ndAt ns ns[c'].up).kids ((c' : Int) + 1) = 1 := by
          have := HUB.out
          unfold upOk at this
          simp only [Bool.or_eq_true, Bool.and_eq_true, beq_iff_eq] at this
          exact this.resolve_left e0
        obtain ⟨s, rfl, hs⟩ := hupc
        have h3 := nIn_iff.1 hin.1
        obtain ⟨k, hk⟩ : ∃ k : Nat, ns[c'].up = (k : Int) + 1 := ⟨(ns[c'].up - 1).toNat, by omega⟩
        have hkl : k < ns.length := by omega
        obtain rfl : s = G + 1 + k := by
          rcases hs with ⟨_, h2⟩ | ⟨h2, _⟩
          · omega
          · rw [hin.1] at h2; cases h2
        obtain ⟨lk, k', upk, kvk, ekk, _, hlk, hbk, _⟩ := H1.out.at (z := (k : Int) + 1) (by rw [linksOf_len]; rw [← hk]; exact hin.1)
        obtain rfl : k' = k := by omega
        obtain ⟨lp, p', upp, kvp, epp, _, hlp, hbp, _⟩ := H1.out.at (z := (p : Int) + 1) (by rw [linksOf_len]; exact HN1.out)
        obtain rfl : p' = p := by omega
        have heq := lk_neq (G + 1 + k') (G + 1 + p') w5 _ _ hbk hbp
        by_cases ekp : k' = p'
        · have hup : ns[c'].up = (p' : Int) + 1 := by rw [hk, ekp]
          have ea := EA.out
          have ec := EC.out
          rw [if_pos hup] at ea ec
          subst ea ec ekp
          simp only [decide_true, Bool.not_true] at heq
          have HIN := Lib.hid hin
          have HUP := Lib.hid hup
          clear hbc e0 hbk hbp hs h3 hin hk hup ekk epp
          (try dsimp only)
          go_wp2_with (fail)
          have hpc : k' ≠ c' := fun e => HSU.out (by rw [HUP.out, e])
          have hct : (ns[k'].kids).count ((c' : Int) + 1) = 1 := by
            have := HIN.out.2
            rw [HUP.out, ndAt_nat hp] at this
            exact this
          have hm : ∃ j, j < ns[k'].kids.length ∧ ns[k'].kids.getD j 0 = (c' : Int) + 1 := by
            have hmem : (c' : Int) + 1 ∈ ns[k'].kids := List.one_le_count_iff.1 (by omega)
            obtain ⟨j, hj, e⟩ := List.getElem_of_mem hmem
            exact ⟨j, hj, by rw [List.getD_eq_getElem?_getD, List.getElem?_eq_getElem hj, e]; rfl⟩
          have hszn : ∀ n ∈ ns, n.kids.length ≤ 1048576 ∧ n.rl ≤ 1048576 := fun n hn => by
            obtain ⟨i, hi, e⟩ := List.getElem_of_mem hn
            have h1 := szK_le hi
            rw [e] at h1
            unfold szK at h1
            unfold szS at hl
            omega
          refine (iremove G b off k' c' (linksOf ns) (ns[k'].up, ns[k'].kids) (ns[c'].up, ns[c'].kids) w5 H1.out (links_at hp) (links_at hc) hpc hm (hszn _ (List.getElem_mem hp)).1).mono ?_
          rintro e w6 ⟨⟨r, rfl⟩, t, ht, hte, hL6, b6⟩
          replace h6 := hp_bl h6 hG b6
          replace bb := bb.trans (b6.mono hGw)
          have hrel := rm_relink hp hc hpc hct ht hte
          have H6 := Lib.hid hL6
          clear b6 hL6 c2 heq h0 hct hm
          (try dsimp only)
          go_wp2_with (fail)
          have hNd : ∀ (i : Nat) (n : PN), ns[i]? = some n → NodeAt w6 b (off + i * 64) n ∧ n.ok ∧ n.rl ≤ 1048576 := fun i n hi => by
            have hz6 := HZ.out.below bb
            have hmn := List.mem_of_getElem? hi
            refine ⟨?_, hz6.1 n hmn, (hszn n hmn).2⟩
            rcases hz6.2 with e | ⟨b', off', e, _, hN⟩
            · rw [e] at hmn; cases hmn
            · rcases HA.out with e2 | e2
              · rw [e2] at hmn; cases hmn
              · rw [e] at e2
                simp only [Option.some.injEq, Addr.mk.injEq, and_true] at e2
                obtain ⟨rfl, rfl⟩ := e2
                exact hN i n hi
          refine (itree G b off ns.length _ ns w6 H6.out (by simp [cutL, linksOf_len]) hNd (cut_in (link_in HT.out (fun n hn => (hszn n hn).1)) (links_at hp) (links_at hc)) hnl).mono ?_
          rintro e w9 ⟨v, ms, hms, rfl, ho, b3⟩
          rw [hrel] at hms
          obtain ⟨av, cv, rfl⟩ := own_form ho.1
          have hlt := hp_lt h6
          have hS := bb.size
          replace h6 := hp_below h6 b3
          have D := Lib.hid (rk_done h6 ho hlt (bb.trans (b3.mono hS)))
          have c6 := c_of h6
          have f6 := Go.Joins.unfrozen_of_block h6 0
          clear ho b3 bb hS h6 hNd
          (try dsimp only)
          go_wp2_with (fail)
          obtain ⟨zc, D1, D2⟩ := D.out
          obtain ⟨w10, ew10⟩ : ∃ q, q = w9.setCell ⟨w.heap.size + 1, 0, none⟩ (.slice av ms.length cv) := ⟨_, rfl⟩
          rw [← ew10] at zc D1 D2 ⊢
          exact bodyPost_ret (v := .tuple #[.agg #[.slice av ms.length cv], .int .i64 0]) (by simp [results, Try.results21, go_sem, zc]) rfl ⟨_, ms, hms, rfl, D1, D2⟩
        · have hup : ns[c'].up ≠ (p' : Int) + 1 := by rw [hk]; omega
          have ea := EA.out
          have ec := EC.out
          rw [if_neg hup] at ea ec
          replace ea := ea.symm
          subst ea ec
          have hd : (!decide (G + 1 + k' = G + 1 + p')) = true := by simp; omega
          rw [hd] at heq
          have c0 := c_of h0
          clear hbc e0 hbk hbp hs h3 hin hk hup ekk epp hd
          (try dsimp only)
          go_wp2_with (fail)
          clear c0 c2 heq
          refine (itrcopy a cap ns _ (HZ.out.below bb) hl).mono ?_
          rintro e w9 ⟨v, ms, hms, rfl, ho, b3⟩
          obtain ⟨av, cv, rfl⟩ := own_form ho.1
          have hlt := hp_lt h6
          have hS := bb.size
          replace h6 := hp_below h6 b3
          have D := Lib.hid (rk_done h6 ho hlt (bb.trans (b3.mono hS)))
          have c6 := c_of h6
          have f6 := Go.Joins.unfrozen_of_block h6 0
          clear ho b3 bb h0 hS h6
          (try dsimp only)
          go_wp2_with (fail)
          obtain ⟨zc, D1, D2⟩ := D.out
          obtain ⟨w10, ew10⟩ : ∃ q, q = w9.setCell ⟨w.heap.size + 1, 0, none⟩ (.slice av ms.length cv) := ⟨_, rfl⟩
          rw [← ew10] at zc D1 D2 ⊢
          exact bodyPost_ret (v := .tuple #[.agg #[.slice av ms.length cv], .int .i64 3]) (by simp [results, Try.results21, go_sem, zc]) rfl ⟨_, ms, hms, rfl, D1, D2⟩
    · have hN2' : nIn ns.length y = false := by simpa using hN2
      have hf : (treeB ns && nIn ns.length z && nIn ns.length y) = false := by rw [hN2', Bool.and_false]
      have hb2' : (nIn ns.length y && treeB ns) = false := by rw [hN2', Bool.false_and]
      rw [hv, hc, hf, if_neg Bool.false_ne_true, if_neg Bool.false_ne_true]
      have HB1 := Lib.hid hb1
      have HB2 := Lib.hid hb2'
      clear hv hc hb1 hb2' hf hN2 hN2' hN1 hT
      go_enter Try.func21, Try.ntmps21
      go_wp2_with (rw [← EU.out])
      clear c0
      refine (HK0.out _ (HZ.out.below bb) _).mono ?_
      rintro e w1 ⟨rfl, b1⟩
      rw [HB1.out]
      replace h0 := hp_below h0 b1
      replace h6 := hp_below h6 b1
      replace bb := bb.trans (b1.mono bb.size)
      clear b1
      have c0 := c_of h0
      (try dsimp only)
      go_wp2_with (fail)
      clear c0
      refine (HK0.out _ (HZ.out.below bb) _).mono ?_
      rintro e w2 ⟨rfl, b2⟩
      rw [HB2.out]
      replace h0 := hp_below h0 b2
      replace h6 := hp_below h6 b2
      replace bb := bb.trans (b2.mono bb.size)
      clear b2
      have c0 := c_of h0
      (try dsimp only)
      go_wp2_with (fail)
      clear c0
      refine (itrcopy a cap ns _ (HZ.out.below bb) hl).mono ?_
      rintro e w3 ⟨v, ms, hms, rfl, ho, b3⟩
      obtain ⟨av, cv, rfl⟩ := own_form ho.1
      have hlt := hp_lt h6
      have hS := bb.size
      replace h6 := hp_below h6 b3
      have D := Lib.hid (rk_done h6 ho hlt (bb.trans (b3.mono hS)))
      have c6 := c_of h6
      have f6 := Go.Joins.unfrozen_of_block h6 0
      clear ho b3 bb h0 hS h6
      (try dsimp only)
      go_wp2_with (fail)
      obtain ⟨zc, D1, D2⟩ := D.out
      obtain ⟨w5, ew5⟩ : ∃ q, q = w3.setCell ⟨w.heap.size + 1, 0, none⟩ (.slice av ms.length cv) := ⟨_, rfl⟩
      rw [← ew5] at zc D1 D2 ⊢
      exact bodyPost_ret (v := .tuple #[.agg #[.slice av ms.length cv], .int .i64 1]) (by simp [results, Try.results21, go_sem, zc]) rfl ⟨_, ms, hms, rfl, D1, D2⟩
  · have hb1' : (nIn ns.length z && treeB ns) = false := by simpa using hb1
    have hf : (treeB ns && nIn ns.length z && nIn ns.length y) = false := by rw [Bool.and_comm (treeB ns), hb1', Bool.false_and]
    rw [hv, hc, hf, if_neg Bool.false_ne_true, if_neg Bool.false_ne_true]
    have HB1 := Lib.hid hb1'
    clear hv hc hb1 hb1' hf
    go_enter Try.func21, Try.ntmps21
    go_wp2_with (rw [← EU.out])
    clear c0
    refine (HK0.out _ (HZ.out.below bb) _).mono ?_
    rintro e w1 ⟨rfl, b1⟩
    rw [HB1.out]
    replace h0 := hp_below h0 b1
    replace h6 := hp_below h6 b1
    replace bb := bb.trans (b1.mono bb.size)
    clear b1
    have c0 := c_of h0
    (try dsimp only)
    go_wp2_with (fail)
    clear c0
    refine (itrcopy a cap ns _ (HZ.out.below bb) hl).mono ?_
    rintro e w3 ⟨v, ms, hms, rfl, ho, b3⟩
    obtain ⟨av, cv, rfl⟩ := own_form ho.1
    have hlt := hp_lt h6
    have hS := bb.size
    replace h6 := hp_below h6 b3
    have D := Lib.hid (rk_done h6 ho hlt (bb.trans (b3.mono hS)))
    have c6 := c_of h6
    have f6 := Go.Joins.unfrozen_of_block h6 0
    clear ho b3 bb h0 hS h6
    (try dsimp only)
    go_wp2_with (fail)
    obtain ⟨zc, D1, D2⟩ := D.out
    obtain ⟨w5, ew5⟩ : ∃ q, q = w3.setCell ⟨w.heap.size + 1, 0, none⟩ (.slice av ms.length cv) := ⟨_, rfl⟩
    rw [← ew5] at zc D1 D2 ⊢
    exact bodyPost_ret (v := .tuple #[.agg #[.slice av ms.length cv], .int .i64 1]) (by simp [results, Try.results21, go_sem, zc]) rfl ⟨_, ms, hms, rfl, D1, D2⟩
set_option linter.unusedVariables false
set_option linter.unusedSimpArgs false
set_option maxRecDepth 8000

def ND.kidd (m : ND) (zs : List Int) (kv : Value) : ND := ⟨{ m.n with kids := zs }, kv, m.tv⟩
def ND.upd (m : ND) (z : Int) : ND := ⟨{ m.n with up := z }, m.kv, m.tv⟩
theorem cellsN_kidd (ms : List ND) {i : Nat} {m : ND} (hi : ms[i]? = some m) (zs : List Int) (kv : Value) : (cellsN ms).set (i * 64 + 1) kv = cellsN (ms.set i (m.kidd zs kv)) :=
  cellsN_one ms hi (by decide) (cells_cases rfl (by rw [if_pos rfl]; exact nL_kids) (fun j hj => by
    have h1 : m.cells[2 + j]? = _ := nL_sty j hj
    have h2 : (m.kidd zs kv).cells[2 + j]? = _ := nL_sty j hj
    rw [h1, h2, if_neg (by omega)]; rfl) (by
    have h1 : m.cells[62]? = _ := nL_meas
    have h2 : (m.kidd zs kv).cells[62]? = _ := nL_meas
    rw [h1, h2, if_neg (by decide)]; rfl) (by
    have h1 : m.cells[63]? = _ := nL_tab
    have h2 : (m.kidd zs kv).cells[63]? = _ := nL_tab
    rw [h1, h2, if_neg (by decide)]; rfl))
theorem cellsN_upd (ms : List ND) {i : Nat} {m : ND} (hi : ms[i]? = some m) (z : Int) : (cellsN ms).set (i * 64 + 0) (.int .i64 z) = cellsN (ms.set i (m.upd z)) :=
  cellsN_one ms hi (by decide) (cells_cases (by rw [if_pos rfl]; exact nL_up) rfl (fun j hj => by
    have h1 : m.cells[2 + j]? = _ := nL_sty j hj
    have h2 : (m.upd z).cells[2 + j]? = _ := nL_sty j hj
    rw [h1, h2, if_neg (by omega)]; rfl) (by
    have h1 : m.cells[62]? = _ := nL_meas
    have h2 : (m.upd z).cells[62]? = _ := nL_meas
    rw [h1, h2, if_neg (by decide)]; rfl) (by
    have h1 : m.cells[63]? = _ := nL_tab
    have h2 : (m.upd z).cells[63]? = _ := nL_tab
    rw [h1, h2, if_neg (by decide)]; rfl))
/-- One node of the row becomes another one, whose row at the side s is new; nothing but the row's block has turned. -/
theorem OwnN.swapS {lo g cap i : Nat} {ms : List ND} {m m' : ND} {w w' : World} (s : Bool) (h : OwnN lo (.slice (some ⟨g, 0, none⟩) ms.length cap) ms w) (hi : ms[i]? = some m)
    (hoth : m'.comp (!s) = m.comp (!s)) (hok : m'.n.ok) (hK : KRow lo m'.kv m'.n.kids w) (hT : TRow lo m'.tv m'.n.rl m'.n.rules w)
    (hrow : w'.ownsRow lo 61 64 (.slice (some ⟨g, 0, none⟩) ms.length cap) ms.length (cellsN (ms.set i m'))) (hg : w.grownBy w' (some g))
    (hfresh : ∀ b, m'.comp s = some b → b ≠ g ∧ ∀ mj ∈ ms, ∀ t, mj.comp t ≠ some b) :
    OwnN lo (.slice (some ⟨g, 0, none⟩) ms.length cap) (ms.set i m') w' := by
  have hil := (List.getElem?_eq_some_iff.1 hi).1
  have hmi := List.mem_of_getElem? hi
  have rowK : ∀ {e : TypeId} {size n : Nat} {x : Value} {xs : List Value}, w.ownsRow lo e size x n xs → (∀ b, x.ownBlock = some b → b ≠ g) → w'.ownsRow lo e size x n xs := by
    intro e size n x xs hr hne
    refine World.ownsRow.kept hr hg ?_
    cases hx : x.ownBlock with
    | none => exact Or.inl rfl
    | some b => exact Or.inr fun e => hne b hx (by simpa using e)
  have ownK : ∀ q : ND, q.n.ok → KRow lo q.kv q.n.kids w → TRow lo q.tv q.n.rl q.n.rules w → (∀ t b, q.comp t = some b → b ≠ g) → q.own lo w' := by
    intro q h0 ⟨a, c, e, hk⟩ ⟨a', c', e', ht⟩ hne
    refine ⟨h0, ⟨a, c, e, ?_⟩, ⟨a', c', e', ?_⟩⟩
    · by_cases h0 : q.n.kids = []
      · exact Or.inl h0
      · exact Or.inr (rowK (hk.resolve_left h0) fun b hb => hne true b (by unfold ND.comp blk; rw [if_pos rfl, if_neg (by simpa using h0)]; exact hb))
    · by_cases h0 : q.n.rl = 0
      · exact Or.inl h0
      · exact Or.inr (rowK (ht.resolve_left h0) fun b hb => hne false b (by unfold ND.comp blk; rw [if_neg (by decide), if_neg h0]; exact hb))
  have hgn : ∀ q ∈ ms, ∀ t b, q.comp t = some b → b ≠ g := fun q hq t b hb e => (h.2.1 q hq).2 t b hb (by rw [e]; rfl)
  have side : ∀ t b, m'.comp t = some b → (t = s ∧ b ≠ g ∧ ∀ mj ∈ ms, ∀ t, mj.comp t ≠ some b) ∨ (t = !s ∧ m.comp t = some b) := fun t b hb => by
    by_cases e : t = s
    · subst e; exact Or.inl ⟨rfl, hfresh b hb⟩
    · have e' : t = !s := by cases t <;> cases s <;> simp_all
      subst e'
      exact Or.inr ⟨rfl, by rw [← hoth]; exact hb⟩
  have hgm : ∀ t b, m'.comp t = some b → b ≠ g := fun t b hb => by
    rcases side t b hb with ⟨_, h1, _⟩ | ⟨_, h1⟩
    · exact h1
    · exact hgn m hmi t b h1
  refine ⟨by rw [List.length_set]; exact hrow, fun q hq => ?_, fun a b ma mb t t' x ha hb hs ht' => ?_⟩
  · obtain ⟨j, hj⟩ := List.mem_iff_getElem?.1 hq
    by_cases e : j = i
    · subst e
      rw [List.getElem?_set_self hil] at hj
      cases hj
      exact ⟨ownK _ hok hK hT hgm, fun t b hb e => hgm t b hb (by simpa [Value.ownBlock] using e.symm)⟩
    · rw [List.getElem?_set_ne (fun h => e h.symm)] at hj
      have hm := List.mem_of_getElem? hj
      have hq' := h.2.1 q hm
      exact ⟨ownK q hq'.1.1 hq'.1.2.1 hq'.1.2.2 (hgn q hm), hq'.2⟩
  · by_cases ea : a = i
    · subst ea
      rw [List.getElem?_set_self hil] at ha
      cases ha
      by_cases eb : b = a
      · subst eb
        rw [List.getElem?_set_self hil] at hb
        cases hb
        refine ⟨rfl, ?_⟩
        rcases side t x hs with ⟨e1, _, h1⟩ | ⟨e1, h1⟩
        · rcases side t' x ht' with ⟨e2, _, h2⟩ | ⟨e2, h2⟩
          · rw [e1, e2]
          · exact absurd h2 (h1 m hmi t')
        · rcases side t' x ht' with ⟨e2, _, h2⟩ | ⟨e2, h2⟩
          · exact absurd h1 (h2 m hmi t)
          · rw [e1, e2]
      · rw [List.getElem?_set_ne (fun h => eb h.symm)] at hb
        rcases side t x hs with ⟨_, _, h1⟩ | ⟨_, h1⟩
        · exact absurd ht' (h1 mb (List.mem_of_getElem? hb) t')
        · exact absurd (h.2.2 a b m mb t t' x hi hb h1 ht').1.symm eb
    · rw [List.getElem?_set_ne (fun h => ea h.symm)] at ha
      by_cases eb : b = i
      · subst eb
        rw [List.getElem?_set_self hil] at hb
        cases hb
        rcases side t' x ht' with ⟨_, _, h1⟩ | ⟨_, h1⟩
        · exact absurd hs (h1 ma (List.mem_of_getElem? ha) t)
        · exact absurd (h.2.2 a b ma m t t' x ha hi hs h1).1 ea
      · rw [List.getElem?_set_ne (fun h => eb h.symm)] at hb
        exact h.2.2 a b ma mb t t' x ha hb hs ht'
/-- New children. -/
theorem OwnN.rekid {lo g cap k n1 : Nat} {ms : List ND} {m : ND} {kv : Value} {zs : List Int} {w : World} (h : OwnN lo (.slice (some ⟨g, 0, none⟩) ms.length cap) ms w) (hi : ms[k]? = some m)
    (hk : RowI n1 kv zs w) (hz : AllI zs) (hlo : lo ≤ n1) (hg : g < n1) (hc : ∀ mj ∈ ms, ∀ t b, mj.comp t = some b → b < n1) :
    OwnN lo (.slice (some ⟨g, 0, none⟩) ms.length cap) (ms.set k (m.kidd zs kv)) (w.setCell ⟨g, k * 64 + 1, none⟩ kv) := by
  have hrow := (World.ownsRow.stored h.1 (k * 64 + 1) kv).1
  rw [cellsN_kidd ms hi zs kv] at hrow
  have hown := (h.2.1 m (List.mem_of_getElem? hi)).1
  obtain ⟨a, c, e⟩ := own_form hk
  refine h.swapS true hi rfl ⟨hown.1.1, hz, hown.1.2.2.1, hown.1.2.2.2.1, hown.1.2.2.2.2⟩ ⟨a, c, e, Or.inr (ownsRow_lower hk hlo)⟩ hown.2.2 hrow (gr_set (World.grownBy.refl w _)) (fun b hb => ?_)
  have hb' : n1 ≤ b := by
    unfold ND.comp blk at hb
    rw [if_pos rfl] at hb
    split at hb
    · cases hb
    · exact (World.ownsRow.lt hk b hb).1
  exact ⟨by omega, fun mj hj t e => by have := hc mj hj t b e; omega⟩
/-- Another parent. -/
theorem OwnN.reup {lo g cap k : Nat} {ms : List ND} {m : ND} {w : World} (z : Int) (hz : I64 z) (h : OwnN lo (.slice (some ⟨g, 0, none⟩) ms.length cap) ms w) (hi : ms[k]? = some m) :
    OwnN lo (.slice (some ⟨g, 0, none⟩) ms.length cap) (ms.set k (m.upd z)) (w.setCell ⟨g, k * 64 + 0, none⟩ (.int .i64 z)) := by
  have g1 : w.grownBy (w.setCell ⟨g, k * 64 + 0, none⟩ (.int .i64 z)) (some g) := gr_set (World.grownBy.refl w _)
  have hown := (h.2.1 m (List.mem_of_getElem? hi)).1
  have hgne := (h.2.1 m (List.mem_of_getElem? hi)).2
  have hrow := (World.ownsRow.stored h.1 (k * 64 + 0) (.int .i64 z)).1
  rw [cellsN_upd ms hi z] at hrow
  generalize w.setCell ⟨g, k * 64 + 0, none⟩ (.int .i64 z) = w1 at *
  have rowK : ∀ {e : TypeId} {size n : Nat} {x : Value} {xs : List Value}, w.ownsRow lo e size x n xs → (∀ b, x.ownBlock = some b → b ≠ g) → w1.ownsRow lo e size x n xs := fun hr hne => World.ownsRow.kept hr g1 (by
    rename_i x xs
    cases hx : x.ownBlock with
    | none => exact Or.inl rfl
    | some b => exact Or.inr fun e => hne b hx (by simpa using e))
  have hkr : KRow lo m.kv m.n.kids w1 := by
    obtain ⟨a, c, e, hr⟩ := hown.2.1
    by_cases h0 : m.n.kids = []
    · exact ⟨a, c, e, Or.inl h0⟩
    · exact ⟨a, c, e, Or.inr (rowK (hr.resolve_left h0) fun b hb e => hgne true b (by unfold ND.comp blk; rw [if_pos rfl, if_neg (by simpa using h0)]; exact hb) (by rw [e]; rfl))⟩
  have htr : TRow lo m.tv m.n.rl m.n.rules w1 := by
    obtain ⟨a, c, e, hr⟩ := hown.2.2
    by_cases h0 : m.n.rl = 0
    · exact ⟨a, c, e, Or.inl h0⟩
    · exact ⟨a, c, e, Or.inr (rowK (hr.resolve_left h0) fun b hb e => hgne false b (by unfold ND.comp blk; rw [if_neg (by decide), if_neg h0]; exact hb) (by rw [e]; rfl))⟩
  exact h.remark hi rfl rfl rfl rfl hrow ⟨⟨hz, hown.1.2.1, hown.1.2.2.1, hown.1.2.2.2.1, hown.1.2.2.2.2⟩, hkr, htr⟩ (fun q hq h1 _ _ => g1.block q hq (fun e => h1 (by simpa using e))) g1.size
/-- What stands in memory while the model's RemoveKid works: its boxes, the copy's variable, the copy. -/
structure SK (w u : World) (s3 : Value) (X : Nat) (x : Value) (ms : List ND) (w' : World) : Prop where
  bu : Below u.heap.size u w'
  bw : Below w.heap.size w w'
  hu : u.heap.size = w.heap.size + 2
  hX : u.heap.size ≤ X
  hg : ∀ b, x.ownBlock = some b → b < X
  h3 : w'.heap[w.heap.size]? = some (.cells #[s3] 26)
  h6 : w'.heap[w.heap.size + 1]? = some (.cells #[.slice none 0 0] 26)
  h8 : w'.heap[X]? = some (.cells #[x] 26)
  ho : OwnN u.heap.size x ms w'
section
variable {w u w' w'' : World} {s3 x : Value} {X : Nat} {ms : List ND}
theorem SK.c3 (h : SK w u s3 X x ms w') : w'.cell? ⟨w.heap.size, 0, none⟩ = some s3 := c_of h.h3
theorem SK.c8 (h : SK w u s3 X x ms w') : w'.cell? ⟨X, 0, none⟩ = some x := c_of h.h8
theorem SK.c6 (h : SK w u s3 X x ms w') : w'.cell? ⟨w.heap.size + 1, 0, none⟩ = some (.slice none 0 0) := c_of h.h6
theorem SK.kept (h : SK w u s3 X x ms w') (b : Below w'.heap.size w' w'') : SK w u s3 X x ms w'' :=
  ⟨h.bu.trans (b.mono h.bu.size), h.bw.trans (b.mono h.bw.size), h.hu, h.hX, h.hg, hp_below h.h3 b, hp_below h.h6 b, hp_below h.h8 b, h.ho.below b⟩
theorem SK.ptr {av : Option Addr} {cv : Nat} (h : SK w u s3 X (.slice av ms.length cv) ms w') (hm : 0 < ms.length) : ∃ g, av = some ⟨g, 0, none⟩ := by
  rcases h.ho.1.2 with ⟨h1, h2⟩ | ⟨g, cap, cur, h1, _⟩
  · omega
  · simp at h1; exact ⟨g, h1.1⟩
theorem SK.done (h : SK w u s3 X x ms w') :
    (w'.setCell ⟨w.heap.size + 1, 0, none⟩ x).cell? ⟨w.heap.size + 1, 0, none⟩ = some x ∧ OwnN w.heap.size x ms (w'.setCell ⟨w.heap.size + 1, 0, none⟩ x) ∧ Below w.heap.size w (w'.setCell ⟨w.heap.size + 1, 0, none⟩ x) :=
  rk_done h.h6 h.ho (by rw [h.hu]; omega) h.bw
theorem SK.set1 {ms' : List ND} {w4 : World} {g cv j : Nat} {v : Value} (h : SK w u s3 X (.slice (some ⟨g, 0, none⟩) ms.length cv) ms w') (hm : 0 < ms.length) (e : w4 = w'.setCell ⟨g, j, none⟩ v)
    (ho : OwnN u.heap.size (.slice (some ⟨g, 0, none⟩) ms.length cv) ms' w4) : SK w u s3 X (.slice (some ⟨g, 0, none⟩) ms.length cv) ms' w4 := by
  have hg : u.heap.size ≤ g := by
    rcases h.ho.1.2 with ⟨h1, h2⟩ | ⟨g', cap, cur, h1, hg, _⟩
    · omega
    · simp at h1; omega
  have hu := h.hu
  have hX : g ≠ X := fun e => by have := h.hg g rfl; omega
  exact ⟨by rw [e]; exact bl_set h.bu j hg v, by rw [e]; exact bl_set h.bw j (by omega) v, hu, h.hX, h.hg, by rw [e]; exact hp_set h.h3 (by omega) j v, by rw [e]; exact hp_set h.h6 (by omega) j v, by rw [e]; exact hp_set h.h8 hX.symm j v, ho⟩
theorem SK.thereAt {g cv k : Nat} (h : SK w u s3 X (.slice (some ⟨g, 0, none⟩) ms.length cv) ms w') (hm : k < ms.length) (j : Nat) (hj : j < 64) :
    (∃ v, w'.cell? ⟨g, k * 64 + j, none⟩ = some v) ∧ w'.frozen? ⟨g, k * 64 + j, none⟩ = false := by
  have := h.ho.there hm j hj
  exact ⟨Option.isSome_iff_exists.1 this.1, this.2⟩
/-- The children stored. -/
theorem SK.kid {wB w4 w5 : World} {g cv k : Nat} {zs : List Int} {kv : Value} (h : SK w u s3 X (.slice (some ⟨g, 0, none⟩) ms.length cv) ms wB) (hm : k < ms.length) (b4 : Below wB.heap.size wB w4)
    (hk : RowI wB.heap.size kv zs w4) (hz : AllI zs) (e5 : w5 = w4.setCell ⟨g, k * 64 + 1, none⟩ kv) :
    SK w u s3 X (.slice (some ⟨g, 0, none⟩) (ms.set k (ms[k].kidd zs kv)).length cv) (ms.set k (ms[k].kidd zs kv)) w5 := by
  have h4 := h.kept b4
  have hi : ms[k]? = some ms[k] := List.getElem?_eq_getElem hm
  have ho := h4.ho.rekid hi hk hz h.bu.size (h.ho.1.lt g rfl).2 (fun mj hj t b e => ((h.ho.2.1 mj hj).1.lt t b e).2)
  rw [← e5] at ho
  rw [List.length_set]
  exact h4.set1 (by omega) e5 ho
/-- The parent stored. -/
theorem SK.up {w5 w6 : World} {g cv k : Nat} (z : Int) (hz : I64 z) (h : SK w u s3 X (.slice (some ⟨g, 0, none⟩) ms.length cv) ms w5) (hm : k < ms.length) (e6 : w6 = w5.setCell ⟨g, k * 64 + 0, none⟩ (.int .i64 z)) :
    SK w u s3 X (.slice (some ⟨g, 0, none⟩) (ms.set k (ms[k].upd z)).length cv) (ms.set k (ms[k].upd z)) w6 := by
  have hi : ms[k]? = some ms[k] := List.getElem?_eq_getElem hm
  have ho := h.ho.reup z hz hi
  rw [← e6] at ho
  rw [List.length_set]
  exact h.set1 (by omega) e6 ho
end
end Go.Proofs.Ytckpjldenkjddaa
end

/-
  A walk over a frame that is known at a few slots alone: for functions of hundreds of slots. Conditions: those of each theorem.
-/
import Derived.Test.YtbfhipfflomokaaMrk
import Derived.IntWalk
namespace Go.Proofs.Ytbfhipfflomokaa
open Go.ChangeShapes Go.WideShapes Go.ChangeAt Go.RowKit
set_option linter.unusedVariables false
set_option linter.unusedSimpArgs false
set_option maxRecDepth 8000

/-- What is known of the frame. -/
structure Fr (n : Nat) (t0 t1 t5 : Value) (a : Act) : Prop where
  size : a.tmps.size = n
  e0 : a.eval (.tmp 0) = t0
  e1 : a.eval (.tmp 1) = t1
  e5 : a.eval (.tmp 5) = t5
  defers : a.defers = []
theorem evp (a : Act) (d t : Nat) (v : Value) : (a.put (some d) v).eval (.tmp t) = if d = t ∧ d < a.tmps.size then v else a.eval (.tmp t) := by
  unfold Act.put Act.eval
  simp only [Array.getD_eq_getD_getElem?, Array.getElem?_setIfInBounds]
  by_cases h : d = t
  · subst h
    by_cases h2 : d < a.tmps.size
    · simp [h2]
    · simp [h2]
  · simp [h]
theorem szp (a : Act) (d : Nat) (v : Value) : (a.put (some d) v).tmps.size = a.tmps.size := by simp [Act.put]
theorem dfp (a : Act) (d : Nat) (v : Value) : (a.put (some d) v).defers = a.defers := rfl
section
variable {ops : Array Oper} {rest : List Oper} {op : Oper} {a : Act} {w : World} {Q : Exit → Act → World → Prop}
theorem list_val {v : Value} {w' : World} (hgd : op.guard = none) (hr : (execOp a.eval op).run Try.prog w = .ok (.value v) w') (h : wpList Try.prog ops Q rest (a.put op.dst v) w') : wpList Try.prog ops Q (op :: rest) a w := by
  refine wpList_plain hgd fun K hK => ?_
  unfold Oper.wp
  rw [hr, Oper.upon_value]
  exact hK _ _ h
theorem s_move {D : Nat} {TT : TypeId} {pp : String} {ff} {x : Operand} {v : Value} (hx : a.eval x = v) (h : wpList Try.prog ops Q rest (a.put (some D) v) w) : wpList Try.prog ops Q (⟨some D, .move x, TT, pp, ff, none⟩ :: rest) a w :=
  list_val rfl (by subst hx; rfl) h
theorem s_index {D : Nat} {TT : TypeId} {pp : String} {ff} {x y : Operand} {g n c k : Nat} (hx : a.eval x = .slice (some ⟨g, 0, none⟩) n c) (hy : a.eval y = .int .i64 k) (hk : k < n) (hn : n ≤ 2097152)
    (h : wpList Try.prog ops Q rest (a.put (some D) (.pointer (some ⟨g, k * 64, none⟩))) w) : wpList Try.prog ops Q (⟨some D, .indexAddr 24 x y, TT, pp, ff, none⟩ :: rest) a w :=
  list_val rfl (by
    have hlo : (0 : Int) ≤ (k : Int) := Int.natCast_nonneg _
    have hhi : (k : Int) < (n : Int) := by omega
    unfold execOp
    simp only [hx, hy]
    go_simp) h
theorem s_field {D : Nat} {TT : TypeId} {pp : String} {ff} {x : Operand} {ty : TypeId} {f g o d : Nat} {fs : Array Field} (hx : a.eval x = .pointer (some ⟨g, o, none⟩)) (hu : Try.prog.underlying ty = some (.struct fs)) (k : Nat) (hf : (fs[f]?).map (fun fl => (fl.offset, (Try.prog.info? fl.type).map (·.size))) = some (d, some (k + 1)))
    (h : wpList Try.prog ops Q rest (a.put (some D) (.pointer (some ⟨g, o + d, none⟩))) w) : wpList Try.prog ops Q (⟨some D, .fieldAddr ty x f, TT, pp, ff, none⟩ :: rest) a w :=
  list_val rfl (by
    obtain ⟨fl, h1, h2⟩ := Option.map_eq_some_iff.1 hf
    simp only [Prod.mk.injEq] at h2
    obtain ⟨h2, h3⟩ := h2
    obtain ⟨i0, h4, h5⟩ := Option.map_eq_some_iff.1 h3
    unfold execOp
    simp only [hx]
    go_simp
    simp [run_underlying hu, h1, h2, h4, h5, sizeOf, typeInfo, Addr.add_mid, Sem.run_bind, Sem.run_pure, Result.andThen]) h
theorem s_add1 {D : Nat} {TT : TypeId} {pp : String} {ff} {x : Operand} {z : Int} (hx : a.eval x = .int .i64 z) (h0 : 0 ≤ z) (h1 : z ≤ 4611686018427387904)
    (h : wpList Try.prog ops Q rest (a.put (some D) (.int .i64 (z + 1))) w) : wpList Try.prog ops Q (⟨some D, .binOp .add 3 x (.const (.int .i64 1)) 3, TT, pp, ff, none⟩ :: rest) a w :=
  list_val rfl (by
    have hw : IntKind.i64.wrap (z + 1) = z + 1 := IntWalk.i64_in _ (by omega)
    have hc : a.eval (.const (.int .i64 1)) = .int .i64 1 := rfl
    unfold execOp
    simp only [hx, hc]
    go_simp) h
theorem s_assign {D : Nat} {TT : TypeId} {pp : String} {ff} {x : Operand} {v : Value} (hx : a.eval x = v) (h : wpList Try.prog ops Q rest (a.put (some D) v) w) : wpList Try.prog ops Q (⟨some D, .assign x, TT, pp, ff, none⟩ :: rest) a w :=
  list_val rfl (by subst hx; rfl) h
theorem s_rem3 {D : Nat} {TT : TypeId} {pp : String} {ff} {x : Operand} {z : Int} (hx : a.eval x = .int .i64 z) (h0 : 0 ≤ z) (h1 : z ≤ 4611686018427387904)
    (h : wpList Try.prog ops Q rest (a.put (some D) (.int .i64 (Int.tmod z 3))) w) : wpList Try.prog ops Q (⟨some D, .binOp .rem 3 x (.const (.int .i64 3)) 3, TT, pp, ff, none⟩ :: rest) a w :=
  list_val rfl (by
    have h2 : (0 : Int) ≤ Int.tmod z 3 := Int.tmod_nonneg _ h0
    have h3 : Int.tmod z 3 < 3 := Int.tmod_lt_of_pos _ (by decide)
    have hc : a.eval (.const (.int .i64 3)) = .int .i64 3 := rfl
    unfold execOp
    simp only [hx, hc]
    go_simp) h
theorem s_eq0 {D : Nat} {TT : TypeId} {pp : String} {ff} {x : Operand} {z : Int} (hx : a.eval x = .int .i64 z)
    (h : wpList Try.prog ops Q rest (a.put (some D) (.bool (z == 0))) w) : wpList Try.prog ops Q (⟨some D, .binOp .eql 3 x (.const (.int .i64 0)) 3, TT, pp, ff, none⟩ :: rest) a w :=
  list_val rfl (by
    have hc : a.eval (.const (.int .i64 0)) = .int .i64 0 := rfl
    unfold execOp
    simp only [hx, hc]
    go_simp) h
theorem s_call {D : Nat} {TT : TypeId} {pp : String} {ff} {A : Array TypeId} {F : FuncId} {x y : Operand} {v1 v2 : Value} {R : Value → World → Prop} (hF : ∀ (vs : Array Value) (w : World), (callFunc F vs).run Try.prog w = .ok (.enter F vs) w) (hx : a.eval x = v1) (hy : a.eval y = v2) (hc : Calls Try.prog F #[v1, v2] w fun e w' => ∃ r, e = .returned r ∧ R r w')
    (h : ∀ r w', R r w' → wpList Try.prog ops Q rest (a.put (some D) r) w') : wpList Try.prog ops Q (⟨some D, .call { callee := .value (.func F), args := #[x, y], argTypes := A }, TT, pp, ff, none⟩ :: rest) a w := by
  refine wpList_plain rfl fun K hK => ?_
  unfold Oper.wp
  have e : (execOp a.eval ⟨some D, .call { callee := .value (.func F), args := #[x, y], argTypes := A }, TT, pp, ff, none⟩).run Try.prog w = .ok (.enter F #[v1, v2]) w := by
    have hf : a.eval (.func F) = .func (.func F) #[] #[] := rfl
    unfold execOp
    simp only [resolve, hf, List.map_toArray, List.map_cons, List.map_nil, hx, hy, Sem.run_bind, Sem.run_pure, Result.andThen_ok]
    go_simp
  rw [e, Oper.upon_enter]
  refine hc.mono ?_
  rintro e w' ⟨r, rfl, hR⟩
  exact hK _ _ (h r w' hR)
theorem s_loadI {D : Nat} {TT : TypeId} {pp : String} {ff} {x : Operand} {p : Addr} {v : Value} (hx : a.eval x = .pointer (some p)) (hc : w.cell? p = some v)
    (h : wpList Try.prog ops Q rest (a.put (some D) v) w) : wpList Try.prog ops Q (⟨some D, .load 59 x, TT, pp, ff, none⟩ :: rest) a w :=
  list_val rfl (by
    unfold execOp
    simp only [hx]
    go_simp) h
theorem s_loadR {D : Nat} {TT : TypeId} {pp : String} {ff} {x : Operand} {p : Addr} {v : Value} (hx : a.eval x = .pointer (some p)) (hc : w.cell? p = some v)
    (h : wpList Try.prog ops Q rest (a.put (some D) v) w) : wpList Try.prog ops Q (⟨some D, .load 49 x, TT, pp, ff, none⟩ :: rest) a w :=
  list_val rfl (by
    unfold execOp
    simp only [hx]
    go_simp) h
theorem s_len {D : Nat} {TT : TypeId} {pp : String} {ff} {x : Operand} {ao : Option Addr} {n c : Nat} (hx : a.eval x = .slice ao n c)
    (h : wpList Try.prog ops Q rest (a.put (some D) (.int .i64 n)) w) : wpList Try.prog ops Q (⟨some D, .call { callee := .builtin .len, args := #[x], argTypes := #[24] }, TT, pp, ff, none⟩ :: rest) a w :=
  list_val rfl (by
    unfold execOp
    simp only [resolve, invoke, builtin, List.map_toArray, List.map_cons, List.map_nil, hx, Sem.run_bind, Sem.run_pure, Result.andThen_ok]
    go_simp) h
theorem s_lss {D : Nat} {TT : TypeId} {pp : String} {ff} {x y : Operand} {z1 z2 : Int} (hx : a.eval x = .int .i64 z1) (hy : a.eval y = .int .i64 z2)
    (h : wpList Try.prog ops Q rest (a.put (some D) (.bool (decide (z1 < z2)))) w) : wpList Try.prog ops Q (⟨some D, .binOp .lss 3 x y 3, TT, pp, ff, none⟩ :: rest) a w :=
  list_val rfl (by
    unfold execOp
    simp only [hx, hy]
    go_simp) h
theorem s_store1 {T0 TT : TypeId} {pp : String} {ff} {x y : Operand} {g o : Nat} {v : Value} (hx : a.eval x = .pointer (some ⟨g, o, none⟩)) (hy : a.eval y = v) (hv : v.cells = #[v]) (h1 : v.oneCell' = true) (ht : w.there g o 1) (hi : (Try.prog.info? T0).map (·.size) = some 1)
    (h : wpList Try.prog ops Q rest a (w.setCell ⟨g, o, none⟩ v)) : wpList Try.prog ops Q (⟨none, .store T0 x y, TT, pp, ff, none⟩ :: rest) a w := by
  refine wpList_plain rfl fun K hK => ?_
  unfold Oper.wp execOp
  simp only [hx, hy, Sem.run_bind, run_store1 w g o T0 v hv ht hi h1, Result.andThen_ok, Sem.run_pure]
  exact hK _ _ h
end
/-! The region that stores a mark, one lemma a shape (the path's length), and the count's step. -/
section
variable {Q : Exit → Act → World → Prop} {a : Act} {u : World} {lo g cap n N o B j k s id : Nat} {xs : List Value} {w0 : World} {z : Int}
/-- 'k++' -/
theorem rg_inc {T1 T2 T3 : TypeId} {p1 p2 p3 : String} {f1 f2 f3} (F : Fr N (.slice (some ⟨g, 0, none⟩) n cap) (.int .i64 z) (.int .i64 k) a) (h0 : 0 ≤ z) (h1 : z ≤ 4611686018427387904) (hs : s + 2 ≤ N) (hs0 : 6 ≤ s)
    (h : ∀ a', Fr N (.slice (some ⟨g, 0, none⟩) n cap) (.int .i64 (z + 1)) (.int .i64 k) a' → Q .normal a' u) :
    (Code.region id #[⟨some s, .move (.tmp 1), T1, p1, f1, none⟩, ⟨some (s + 1), .binOp .add 3 (.tmp s) (.const (.int .i64 1)) 3, T2, p2, f2, none⟩, ⟨some 1, .assign (.tmp (s + 1)), T3, p3, f3, none⟩] false).wp Try.prog Q a u := by
  refine wp_region_list ?_
  have hN := F.size
  refine s_move F.e1 ?_
  refine s_add1 (z := z) (by rw [evp, if_pos ⟨rfl, by omega⟩]) h0 h1 ?_
  refine s_assign (v := .int .i64 (z + 1)) (by rw [evp, if_pos ⟨rfl, by rw [szp]; omega⟩]) ?_
  refine wpList_nil (h _ ⟨by rw [szp, szp, szp]; exact hN, ?_, ?_, ?_, F.defers⟩)
  · rw [evp, if_neg (by omega), evp, if_neg (by omega), evp, if_neg (by omega)]; exact F.e0
  · rw [evp, if_pos ⟨rfl, by rw [szp, szp]; omega⟩]
  · rw [evp, if_neg (by omega), evp, if_neg (by omega), evp, if_neg (by omega)]; exact F.e5
theorem evs (a : Act) (d : Nat) (v : Value) (h : d < a.tmps.size) : (a.put (some d) v).eval (.tmp d) = v := by rw [evp, if_pos ⟨rfl, h⟩]
theorem evn (a : Act) (d t : Nat) (v : Value) (h : d ≠ t) : (a.put (some d) v).eval (.tmp t) = a.eval (.tmp t) := by rw [evp, if_neg (fun e => h e.1)]
/-- The parent's number is marked. -/
theorem rg_up {T0 T1 T2 T3 T4 T5 : TypeId} {p0 p1 p2 p3 p4 p5 : String} {f0 f1 f2 f3 f4 f5} {fs0 : Array Field} (hu0 : Try.prog.underlying 61 = some (.struct fs0)) (m0 : Nat) (hf0 : (fs0[0]?).map (fun fl => (fl.offset, (Try.prog.info? fl.type).map (·.size))) = some (0, some (m0 + 1)))
    (F : Fr N (.slice (some ⟨g, 0, none⟩) n cap) (.int .i64 z) (.int .i64 k) a) (hs : s + 5 ≤ N) (hs0 : 6 ≤ s) (hk : k < n) (hn : n ≤ 2097152) (ht : u.there g (k * 64) 1)
    (h : ∀ a', Fr N (.slice (some ⟨g, 0, none⟩) n cap) (.int .i64 z) (.int .i64 k) a' → Q .normal a' (u.setCell ⟨g, k * 64, none⟩ (.int .i64 z))) :
    (Code.region id #[⟨some s, .move (.tmp 0), T0, p0, f0, none⟩, ⟨some (s + 1), .move (.tmp 5), T1, p1, f1, none⟩, ⟨some (s + 2), .move (.tmp 1), T2, p2, f2, none⟩, ⟨some (s + 3), .indexAddr 24 (.tmp s) (.tmp (s + 1)), T3, p3, f3, none⟩, ⟨some (s + 4), .fieldAddr 61 (.tmp (s + 3)) 0, T4, p4, f4, none⟩, ⟨none, .store 3 (.tmp (s + 4)) (.tmp (s + 2)), T5, p5, f5, none⟩] false).wp Try.prog Q a u := by
  refine wp_region_list ?_
  have hN := F.size
  refine s_move (v := .slice (some ⟨g, 0, none⟩) n cap) F.e0 ?_
  refine s_move (v := .int .i64 k) (by rw [evn _ _ _ _ (by omega)]; exact F.e5) ?_
  refine s_move (v := .int .i64 z) (by rw [evn _ _ _ _ (by omega), evn _ _ _ _ (by omega)]; exact F.e1) ?_
  refine s_index (g := g) (n := n) (c := cap) (k := k) (by rw [evn _ _ _ _ (by omega), evn _ _ _ _ (by omega), evs _ _ _ (by omega)]) (by rw [evn _ _ _ _ (by omega), evs _ _ _ (by rw [szp]; omega)]) hk hn ?_
  refine s_field (g := g) (o := k * 64) (d := 0) (by rw [evs _ _ _ (by simp only [szp]; omega)]) hu0 m0 hf0 ?_
  refine s_store1 (g := g) (o := k * 64) (v := .int .i64 z) (by rw [evs _ _ _ (by simp only [szp]; omega)]; rfl) (by rw [evn _ _ _ _ (by omega), evn _ _ _ _ (by omega), evs _ _ _ (by simp only [szp]; omega)]) rfl rfl ht info_i1 ?_
  refine wpList_nil ?_
  refine h _ ?_
  refine ⟨?_, ?_, ?_, ?_, ?_⟩
  · simp only [szp]; exact hN
  · rw [evn _ _ _ _ (by omega), evn _ _ _ _ (by omega), evn _ _ _ _ (by omega), evn _ _ _ _ (by omega), evn _ _ _ _ (by omega)]; exact F.e0
  · rw [evn _ _ _ _ (by omega), evn _ _ _ _ (by omega), evn _ _ _ _ (by omega), evn _ _ _ _ (by omega), evn _ _ _ _ (by omega)]; exact F.e1
  · rw [evn _ _ _ _ (by omega), evn _ _ _ _ (by omega), evn _ _ _ _ (by omega), evn _ _ _ _ (by omega), evn _ _ _ _ (by omega)]; exact F.e5
  · simp only [dfp]; exact F.defers
/-- The children are marked by a call. -/
theorem rg_kids {T0 T1 T2 T3 T4 T5 T6 T7 : TypeId} {p0 p1 p2 p3 p4 p5 p6 p7 : String} {f0 f1 f2 f3 f4 f5 f6 f7} {C : FuncId} {A : Array TypeId} {v : Value} {R : Value → World → Prop} {fs0 : Array Field} (hF : ∀ (vs : Array Value) (w : World), (callFunc C vs).run Try.prog w = .ok (.enter C vs) w) (hu0 : Try.prog.underlying 61 = some (.struct fs0)) (m0 : Nat) (hf0 : (fs0[1]?).map (fun fl => (fl.offset, (Try.prog.info? fl.type).map (·.size))) = some (1, some (m0 + 1)))
    (F : Fr N (.slice (some ⟨g, 0, none⟩) n cap) (.int .i64 z) (.int .i64 k) a) (hs : s + 7 ≤ N) (hs0 : 6 ≤ s) (hk : k < n) (hn : n ≤ 2097152) (hc : u.cell? ⟨g, k * 64 + 1, none⟩ = some v) (hcall : Calls Try.prog C #[v, .int .i64 z] u fun e w' => ∃ r, e = .returned r ∧ R r w')
    (h : ∀ a' r u', R r u' → Fr N (.slice (some ⟨g, 0, none⟩) n cap) r (.int .i64 k) a' → Q .normal a' u') :
    (Code.region id #[⟨some s, .move (.tmp 0), T0, p0, f0, none⟩, ⟨some (s + 1), .move (.tmp 5), T1, p1, f1, none⟩, ⟨some (s + 2), .indexAddr 24 (.tmp s) (.tmp (s + 1)), T2, p2, f2, none⟩, ⟨some (s + 3), .fieldAddr 61 (.tmp (s + 2)) 1, T3, p3, f3, none⟩, ⟨some (s + 4), .load 59 (.tmp (s + 3)), T4, p4, f4, none⟩, ⟨some (s + 5), .move (.tmp 1), T5, p5, f5, none⟩, ⟨some (s + 6), .call { callee := .value (.func C), args := #[.tmp (s + 4), .tmp (s + 5)], argTypes := A }, T6, p6, f6, none⟩, ⟨some 1, .assign (.tmp (s + 6)), T7, p7, f7, none⟩] false).wp Try.prog Q a u := by
  refine wp_region_list ?_
  have hN := F.size
  refine s_move (v := .slice (some ⟨g, 0, none⟩) n cap) F.e0 ?_
  refine s_move (v := .int .i64 k) (by rw [evn _ _ _ _ (by omega)]; exact F.e5) ?_
  refine s_index (g := g) (n := n) (c := cap) (k := k) (by rw [evn _ _ _ _ (by omega), evs _ _ _ (by omega)]) (by rw [evs _ _ _ (by rw [szp]; omega)]) hk hn ?_
  refine s_field (g := g) (o := k * 64) (d := 1) (by rw [evs _ _ _ (by simp only [szp]; omega)]) hu0 m0 hf0 ?_
  refine s_loadI (p := ⟨g, k * 64 + 1, none⟩) (v := v) (by rw [evs _ _ _ (by simp only [szp]; omega)]) hc ?_
  refine s_move (v := .int .i64 z) (by rw [evn _ _ _ _ (by omega), evn _ _ _ _ (by omega), evn _ _ _ _ (by omega), evn _ _ _ _ (by omega), evn _ _ _ _ (by omega)]; exact F.e1) ?_
  refine s_call (R := R) hF (v1 := v) (v2 := .int .i64 z) (by rw [evn _ _ _ _ (by omega), evs _ _ _ (by simp only [szp]; omega)]) (by rw [evs _ _ _ (by simp only [szp]; omega)]) hcall ?_
  intro r u' hR
  refine s_assign (v := r) (by rw [evs _ _ _ (by simp only [szp]; omega)]) ?_
  refine wpList_nil ?_
  refine h _ r u' hR ?_
  refine ⟨?_, ?_, ?_, ?_, ?_⟩
  · simp only [szp]; exact hN
  · rw [evn _ _ _ _ (by omega), evn _ _ _ _ (by omega), evn _ _ _ _ (by omega), evn _ _ _ _ (by omega), evn _ _ _ _ (by omega), evn _ _ _ _ (by omega), evn _ _ _ _ (by omega), evn _ _ _ _ (by omega)]; exact F.e0
  · rw [evs _ _ _ (by simp only [szp]; omega)]
  · rw [evn _ _ _ _ (by omega), evn _ _ _ _ (by omega), evn _ _ _ _ (by omega), evn _ _ _ _ (by omega), evn _ _ _ _ (by omega), evn _ _ _ _ (by omega), evn _ _ _ _ (by omega), evn _ _ _ _ (by omega)]; exact F.e5
  · simp only [dfp]; exact F.defers
/-- The rules are marked by a call. -/
theorem rg_rules {T0 T1 T2 T3 T4 T5 T6 T7 T8 : TypeId} {p0 p1 p2 p3 p4 p5 p6 p7 p8 : String} {f0 f1 f2 f3 f4 f5 f6 f7 f8} {C : FuncId} {A : Array TypeId} {v : Value} {R : Value → World → Prop} {fs0 fs1 : Array Field} (hF : ∀ (vs : Array Value) (w : World), (callFunc C vs).run Try.prog w = .ok (.enter C vs) w) (hu0 : Try.prog.underlying 61 = some (.struct fs0)) (m0 : Nat) (hf0 : (fs0[4]?).map (fun fl => (fl.offset, (Try.prog.info? fl.type).map (·.size))) = some (63, some (m0 + 1))) (hu1 : Try.prog.underlying 51 = some (.struct fs1)) (m1 : Nat) (hf1 : (fs1[0]?).map (fun fl => (fl.offset, (Try.prog.info? fl.type).map (·.size))) = some (0, some (m1 + 1)))
    (F : Fr N (.slice (some ⟨g, 0, none⟩) n cap) (.int .i64 z) (.int .i64 k) a) (hs : s + 8 ≤ N) (hs0 : 6 ≤ s) (hk : k < n) (hn : n ≤ 2097152) (hc : u.cell? ⟨g, k * 64 + 63, none⟩ = some v) (hcall : Calls Try.prog C #[v, .int .i64 z] u fun e w' => ∃ r, e = .returned r ∧ R r w')
    (h : ∀ a' r u', R r u' → Fr N (.slice (some ⟨g, 0, none⟩) n cap) r (.int .i64 k) a' → Q .normal a' u') :
    (Code.region id #[⟨some s, .move (.tmp 0), T0, p0, f0, none⟩, ⟨some (s + 1), .move (.tmp 5), T1, p1, f1, none⟩, ⟨some (s + 2), .indexAddr 24 (.tmp s) (.tmp (s + 1)), T2, p2, f2, none⟩, ⟨some (s + 3), .fieldAddr 61 (.tmp (s + 2)) 4, T3, p3, f3, none⟩, ⟨some (s + 4), .fieldAddr 51 (.tmp (s + 3)) 0, T8, p8, f8, none⟩, ⟨some (s + 5), .load 49 (.tmp (s + 4)), T4, p4, f4, none⟩, ⟨some (s + 6), .move (.tmp 1), T5, p5, f5, none⟩, ⟨some (s + 7), .call { callee := .value (.func C), args := #[.tmp (s + 5), .tmp (s + 6)], argTypes := A }, T6, p6, f6, none⟩, ⟨some 1, .assign (.tmp (s + 7)), T7, p7, f7, none⟩] false).wp Try.prog Q a u := by
  refine wp_region_list ?_
  have hN := F.size
  refine s_move (v := .slice (some ⟨g, 0, none⟩) n cap) F.e0 ?_
  refine s_move (v := .int .i64 k) (by rw [evn _ _ _ _ (by omega)]; exact F.e5) ?_
  refine s_index (g := g) (n := n) (c := cap) (k := k) (by rw [evn _ _ _ _ (by omega), evs _ _ _ (by omega)]) (by rw [evs _ _ _ (by rw [szp]; omega)]) hk hn ?_
  refine s_field (g := g) (o := k * 64) (d := 63) (by rw [evs _ _ _ (by simp only [szp]; omega)]) hu0 m0 hf0 ?_
  refine s_field (g := g) (o := k * 64 + 63) (d := 0) (by rw [evs _ _ _ (by simp only [szp]; omega)]) hu1 m1 hf1 ?_
  refine s_loadR (p := ⟨g, k * 64 + 63, none⟩) (v := v) (by rw [evs _ _ _ (by simp only [szp]; omega)]) hc ?_
  refine s_move (v := .int .i64 z) (by rw [evn _ _ _ _ (by omega), evn _ _ _ _ (by omega), evn _ _ _ _ (by omega), evn _ _ _ _ (by omega), evn _ _ _ _ (by omega), evn _ _ _ _ (by omega)]; exact F.e1) ?_
  refine s_call (R := R) hF (v1 := v) (v2 := .int .i64 z) (by rw [evn _ _ _ _ (by omega), evs _ _ _ (by simp only [szp]; omega)]) (by rw [evs _ _ _ (by simp only [szp]; omega)]) hcall ?_
  intro r u' hR
  refine s_assign (v := r) (by rw [evs _ _ _ (by simp only [szp]; omega)]) ?_
  refine wpList_nil ?_
  refine h _ r u' hR ?_
  refine ⟨?_, ?_, ?_, ?_, ?_⟩
  · simp only [szp]; exact hN
  · rw [evn _ _ _ _ (by omega), evn _ _ _ _ (by omega), evn _ _ _ _ (by omega), evn _ _ _ _ (by omega), evn _ _ _ _ (by omega), evn _ _ _ _ (by omega), evn _ _ _ _ (by omega), evn _ _ _ _ (by omega), evn _ _ _ _ (by omega)]; exact F.e0
  · rw [evs _ _ _ (by simp only [szp]; omega)]
  · rw [evn _ _ _ _ (by omega), evn _ _ _ _ (by omega), evn _ _ _ _ (by omega), evn _ _ _ _ (by omega), evn _ _ _ _ (by omega), evn _ _ _ _ (by omega), evn _ _ _ _ (by omega), evn _ _ _ _ (by omega), evn _ _ _ _ (by omega)]; exact F.e5
  · simp only [dfp]; exact F.defers
-- generated by gen/gensym.py

set_option maxHeartbeats 2000000 in
theorem rg_i2 {T0 T1 T2 T3 T4 T5 T6 : TypeId} {p0 p1 p2 p3 p4 p5 p6 : String} {f0 f1 f2 f3 f4 f5 f6} {y0 : TypeId} {x0 d0 : Nat} {fs0 : Array Field} (hu0 : Try.prog.underlying y0 = some (.struct fs0)) (m0 : Nat) (hf0 : (fs0[x0]?).map (fun fl => (fl.offset, (Try.prog.info? fl.type).map (·.size))) = some (d0, some (m0 + 1))) {y1 : TypeId} {x1 d1 : Nat} {fs1 : Array Field} (hu1 : Try.prog.underlying y1 = some (.struct fs1)) (m1 : Nat) (hf1 : (fs1[x1]?).map (fun fl => (fl.offset, (Try.prog.info? fl.type).map (·.size))) = some (d1, some (m1 + 1))) (F : Fr N (.slice (some ⟨g, 0, none⟩) n cap) (.int .i64 z) (.int .i64 k) a) (hs : s + 6 ≤ N) (hs0 : 6 ≤ s) (hk : k < n) (hn : n ≤ 2097152) (hP : MkP lo g cap n o B xs w0 j u) (hq : k * 64 + d0 + d1 = o + j) (hj : o + j < n * 64) (hv : Value.int .i64 z = mkV B j)
    (h : ∀ a' u', Fr N (.slice (some ⟨g, 0, none⟩) n cap) (.int .i64 z) (.int .i64 k) a' → MkP lo g cap n o B xs w0 (j + 1) u' → Q .normal a' u') :
    (Code.region id #[⟨some (s), .move (.tmp 0), T0, p0, f0, none⟩, ⟨some (s + 1), .move (.tmp 5), T1, p1, f1, none⟩, ⟨some (s + 2), .move (.tmp 1), T2, p2, f2, none⟩, ⟨some (s + 3), .indexAddr 24 (.tmp s) (.tmp (s + 1)), T3, p3, f3, none⟩, ⟨some (s + 4), .fieldAddr y0 (.tmp (s + 3)) x0, T4, p4, f4, none⟩, ⟨some (s + 5), .fieldAddr y1 (.tmp (s + 4)) x1, T5, p5, f5, none⟩, ⟨none, .store 3 (.tmp (s + 5)) (.tmp (s + 2)), T6, p6, f6, none⟩] false).wp Try.prog Q a u := by
  refine wp_region_list ?_
  have hN := F.size
  refine s_move (v := .slice (some ⟨g, 0, none⟩) n cap) F.e0 ?_
  refine s_move (v := .int .i64 k) (by rw [evp, if_neg (by omega)]; exact F.e5) ?_
  refine s_move (v := .int .i64 z) (by rw [evp, if_neg (by omega), evp, if_neg (by omega)]; exact F.e1) ?_
  refine s_index (g := g) (n := n) (c := cap) (k := k) (by rw [evp, if_neg (by omega), evp, if_neg (by omega), evp, if_pos ⟨rfl, by (try simp only [szp]); omega⟩]) (by rw [evp, if_neg (by omega), evp, if_pos ⟨rfl, by (try simp only [szp]); omega⟩]) hk hn ?_
  refine s_field (g := g) (o := k * 64) (d := d0) (by rw [evp, if_pos ⟨rfl, by (try simp only [szp]); omega⟩]) hu0 m0 hf0 ?_
  refine s_field (g := g) (o := k * 64 + d0) (d := d1) (by rw [evp, if_pos ⟨rfl, by (try simp only [szp]); omega⟩]) hu1 m1 hf1 ?_
  refine list_mark (q := k * 64 + d0 + d1) (v := .int .i64 z) rfl rfl (by rw [evp, if_pos ⟨rfl, by (try simp only [szp]); omega⟩]) (by rw [evp, if_neg (by omega), evp, if_neg (by omega), evp, if_neg (by omega), evp, if_pos ⟨rfl, by (try simp only [szp]); omega⟩]) hP hq hj hv info_i1 rfl ?_
  intro u' hP'
  refine wpList_nil ?_
  refine h _ _ ?_ hP'
  refine ⟨?_, ?_, ?_, ?_, ?_⟩
  · simp only [szp]; exact hN
  · exact (by rw [evp, if_neg (by omega), evp, if_neg (by omega), evp, if_neg (by omega), evp, if_neg (by omega), evp, if_neg (by omega), evp, if_neg (by omega)]; exact F.e0)
  · exact (by rw [evp, if_neg (by omega), evp, if_neg (by omega), evp, if_neg (by omega), evp, if_neg (by omega), evp, if_neg (by omega), evp, if_neg (by omega)]; exact F.e1)
  · exact (by rw [evp, if_neg (by omega), evp, if_neg (by omega), evp, if_neg (by omega), evp, if_neg (by omega), evp, if_neg (by omega), evp, if_neg (by omega)]; exact F.e5)
  · simp only [dfp]; exact F.defers
set_option maxHeartbeats 2000000 in
theorem rg_i3 {T0 T1 T2 T3 T4 T5 T6 T7 : TypeId} {p0 p1 p2 p3 p4 p5 p6 p7 : String} {f0 f1 f2 f3 f4 f5 f6 f7} {y0 : TypeId} {x0 d0 : Nat} {fs0 : Array Field} (hu0 : Try.prog.underlying y0 = some (.struct fs0)) (m0 : Nat) (hf0 : (fs0[x0]?).map (fun fl => (fl.offset, (Try.prog.info? fl.type).map (·.size))) = some (d0, some (m0 + 1))) {y1 : TypeId} {x1 d1 : Nat} {fs1 : Array Field} (hu1 : Try.prog.underlying y1 = some (.struct fs1)) (m1 : Nat) (hf1 : (fs1[x1]?).map (fun fl => (fl.offset, (Try.prog.info? fl.type).map (·.size))) = some (d1, some (m1 + 1))) {y2 : TypeId} {x2 d2 : Nat} {fs2 : Array Field} (hu2 : Try.prog.underlying y2 = some (.struct fs2)) (m2 : Nat) (hf2 : (fs2[x2]?).map (fun fl => (fl.offset, (Try.prog.info? fl.type).map (·.size))) = some (d2, some (m2 + 1))) (F : Fr N (.slice (some ⟨g, 0, none⟩) n cap) (.int .i64 z) (.int .i64 k) a) (hs : s + 7 ≤ N) (hs0 : 6 ≤ s) (hk : k < n) (hn : n ≤ 2097152) (hP : MkP lo g cap n o B xs w0 j u) (hq : k * 64 + d0 + d1 + d2 = o + j) (hj : o + j < n * 64) (hv : Value.int .i64 z = mkV B j)
    (h : ∀ a' u', Fr N (.slice (some ⟨g, 0, none⟩) n cap) (.int .i64 z) (.int .i64 k) a' → MkP lo g cap n o B xs w0 (j + 1) u' → Q .normal a' u') :
    (Code.region id #[⟨some (s), .move (.tmp 0), T0, p0, f0, none⟩, ⟨some (s + 1), .move (.tmp 5), T1, p1, f1, none⟩, ⟨some (s + 2), .move (.tmp 1), T2, p2, f2, none⟩, ⟨some (s + 3), .indexAddr 24 (.tmp s) (.tmp (s + 1)), T3, p3, f3, none⟩, ⟨some (s + 4), .fieldAddr y0 (.tmp (s + 3)) x0, T4, p4, f4, none⟩, ⟨some (s + 5), .fieldAddr y1 (.tmp (s + 4)) x1, T5, p5, f5, none⟩, ⟨some (s + 6), .fieldAddr y2 (.tmp (s + 5)) x2, T6, p6, f6, none⟩, ⟨none, .store 3 (.tmp (s + 6)) (.tmp (s + 2)), T7, p7, f7, none⟩] false).wp Try.prog Q a u := by
  refine wp_region_list ?_
  have hN := F.size
  refine s_move (v := .slice (some ⟨g, 0, none⟩) n cap) F.e0 ?_
  refine s_move (v := .int .i64 k) (by rw [evp, if_neg (by omega)]; exact F.e5) ?_
  refine s_move (v := .int .i64 z) (by rw [evp, if_neg (by omega), evp, if_neg (by omega)]; exact F.e1) ?_
  refine s_index (g := g) (n := n) (c := cap) (k := k) (by rw [evp, if_neg (by omega), evp, if_neg (by omega), evp, if_pos ⟨rfl, by (try simp only [szp]); omega⟩]) (by rw [evp, if_neg (by omega), evp, if_pos ⟨rfl, by (try simp only [szp]); omega⟩]) hk hn ?_
  refine s_field (g := g) (o := k * 64) (d := d0) (by rw [evp, if_pos ⟨rfl, by (try simp only [szp]); omega⟩]) hu0 m0 hf0 ?_
  refine s_field (g := g) (o := k * 64 + d0) (d := d1) (by rw [evp, if_pos ⟨rfl, by (try simp only [szp]); omega⟩]) hu1 m1 hf1 ?_
  refine s_field (g := g) (o := k * 64 + d0 + d1) (d := d2) (by rw [evp, if_pos ⟨rfl, by (try simp only [szp]); omega⟩]) hu2 m2 hf2 ?_
  refine list_mark (q := k * 64 + d0 + d1 + d2) (v := .int .i64 z) rfl rfl (by rw [evp, if_pos ⟨rfl, by (try simp only [szp]); omega⟩]) (by rw [evp, if_neg (by omega), evp, if_neg (by omega), evp, if_neg (by omega), evp, if_neg (by omega), evp, if_pos ⟨rfl, by (try simp only [szp]); omega⟩]) hP hq hj hv info_i1 rfl ?_
  intro u' hP'
  refine wpList_nil ?_
  refine h _ _ ?_ hP'
  refine ⟨?_, ?_, ?_, ?_, ?_⟩
  · simp only [szp]; exact hN
  · exact (by rw [evp, if_neg (by omega), evp, if_neg (by omega), evp, if_neg (by omega), evp, if_neg (by omega), evp, if_neg (by omega), evp, if_neg (by omega), evp, if_neg (by omega)]; exact F.e0)
  · exact (by rw [evp, if_neg (by omega), evp, if_neg (by omega), evp, if_neg (by omega), evp, if_neg (by omega), evp, if_neg (by omega), evp, if_neg (by omega), evp, if_neg (by omega)]; exact F.e1)
  · exact (by rw [evp, if_neg (by omega), evp, if_neg (by omega), evp, if_neg (by omega), evp, if_neg (by omega), evp, if_neg (by omega), evp, if_neg (by omega), evp, if_neg (by omega)]; exact F.e5)
  · simp only [dfp]; exact F.defers
set_option maxHeartbeats 2000000 in
theorem rg_i4 {T0 T1 T2 T3 T4 T5 T6 T7 T8 : TypeId} {p0 p1 p2 p3 p4 p5 p6 p7 p8 : String} {f0 f1 f2 f3 f4 f5 f6 f7 f8} {y0 : TypeId} {x0 d0 : Nat} {fs0 : Array Field} (hu0 : Try.prog.underlying y0 = some (.struct fs0)) (m0 : Nat) (hf0 : (fs0[x0]?).map (fun fl => (fl.offset, (Try.prog.info? fl.type).map (·.size))) = some (d0, some (m0 + 1))) {y1 : TypeId} {x1 d1 : Nat} {fs1 : Array Field} (hu1 : Try.prog.underlying y1 = some (.struct fs1)) (m1 : Nat) (hf1 : (fs1[x1]?).map (fun fl => (fl.offset, (Try.prog.info? fl.type).map (·.size))) = some (d1, some (m1 + 1))) {y2 : TypeId} {x2 d2 : Nat} {fs2 : Array Field} (hu2 : Try.prog.underlying y2 = some (.struct fs2)) (m2 : Nat) (hf2 : (fs2[x2]?).map (fun fl => (fl.offset, (Try.prog.info? fl.type).map (·.size))) = some (d2, some (m2 + 1))) {y3 : TypeId} {x3 d3 : Nat} {fs3 : Array Field} (hu3 : Try.prog.underlying y3 = some (.struct fs3)) (m3 : Nat) (hf3 : (fs3[x3]?).map (fun fl => (fl.offset, (Try.prog.info? fl.type).map (·.size))) = some (d3, some (m3 + 1))) (F : Fr N (.slice (some ⟨g, 0, none⟩) n cap) (.int .i64 z) (.int .i64 k) a) (hs : s + 8 ≤ N) (hs0 : 6 ≤ s) (hk : k < n) (hn : n ≤ 2097152) (hP : MkP lo g cap n o B xs w0 j u) (hq : k * 64 + d0 + d1 + d2 + d3 = o + j) (hj : o + j < n * 64) (hv : Value.int .i64 z = mkV B j)
    (h : ∀ a' u', Fr N (.slice (some ⟨g, 0, none⟩) n cap) (.int .i64 z) (.int .i64 k) a' → MkP lo g cap n o B xs w0 (j + 1) u' → Q .normal a' u') :
    (Code.region id #[⟨some (s), .move (.tmp 0), T0, p0, f0, none⟩, ⟨some (s + 1), .move (.tmp 5), T1, p1, f1, none⟩, ⟨some (s + 2), .move (.tmp 1), T2, p2, f2, none⟩, ⟨some (s + 3), .indexAddr 24 (.tmp s) (.tmp (s + 1)), T3, p3, f3, none⟩, ⟨some (s + 4), .fieldAddr y0 (.tmp (s + 3)) x0, T4, p4, f4, none⟩, ⟨some (s + 5), .fieldAddr y1 (.tmp (s + 4)) x1, T5, p5, f5, none⟩, ⟨some (s + 6), .fieldAddr y2 (.tmp (s + 5)) x2, T6, p6, f6, none⟩, ⟨some (s + 7), .fieldAddr y3 (.tmp (s + 6)) x3, T7, p7, f7, none⟩, ⟨none, .store 3 (.tmp (s + 7)) (.tmp (s + 2)), T8, p8, f8, none⟩] false).wp Try.prog Q a u := by
  refine wp_region_list ?_
  have hN := F.size
  refine s_move (v := .slice (some ⟨g, 0, none⟩) n cap) F.e0 ?_
  refine s_move (v := .int .i64 k) (by rw [evp, if_neg (by omega)]; exact F.e5) ?_
  refine s_move (v := .int .i64 z) (by rw [evp, if_neg (by omega), evp, if_neg (by omega)]; exact F.e1) ?_
  refine s_index (g := g) (n := n) (c := cap) (k := k) (by rw [evp, if_neg (by omega), evp, if_neg (by omega), evp, if_pos ⟨rfl, by (try simp only [szp]); omega⟩]) (by rw [evp, if_neg (by omega), evp, if_pos ⟨rfl, by (try simp only [szp]); omega⟩]) hk hn ?_
  refine s_field (g := g) (o := k * 64) (d := d0) (by rw [evp, if_pos ⟨rfl, by (try simp only [szp]); omega⟩]) hu0 m0 hf0 ?_
  refine s_field (g := g) (o := k * 64 + d0) (d := d1) (by rw [evp, if_pos ⟨rfl, by (try simp only [szp]); omega⟩]) hu1 m1 hf1 ?_
  refine s_field (g := g) (o := k * 64 + d0 + d1) (d := d2) (by rw [evp, if_pos ⟨rfl, by (try simp only [szp]); omega⟩]) hu2 m2 hf2 ?_
  refine s_field (g := g) (o := k * 64 + d0 + d1 + d2) (d := d3) (by rw [evp, if_pos ⟨rfl, by (try simp only [szp]); omega⟩]) hu3 m3 hf3 ?_
  refine list_mark (q := k * 64 + d0 + d1 + d2 + d3) (v := .int .i64 z) rfl rfl (by rw [evp, if_pos ⟨rfl, by (try simp only [szp]); omega⟩]) (by rw [evp, if_neg (by omega), evp, if_neg (by omega), evp, if_neg (by omega), evp, if_neg (by omega), evp, if_neg (by omega), evp, if_pos ⟨rfl, by (try simp only [szp]); omega⟩]) hP hq hj hv info_i1 rfl ?_
  intro u' hP'
  refine wpList_nil ?_
  refine h _ _ ?_ hP'
  refine ⟨?_, ?_, ?_, ?_, ?_⟩
  · simp only [szp]; exact hN
  · exact (by rw [evp, if_neg (by omega), evp, if_neg (by omega), evp, if_neg (by omega), evp, if_neg (by omega), evp, if_neg (by omega), evp, if_neg (by omega), evp, if_neg (by omega), evp, if_neg (by omega)]; exact F.e0)
  · exact (by rw [evp, if_neg (by omega), evp, if_neg (by omega), evp, if_neg (by omega), evp, if_neg (by omega), evp, if_neg (by omega), evp, if_neg (by omega), evp, if_neg (by omega), evp, if_neg (by omega)]; exact F.e1)
  · exact (by rw [evp, if_neg (by omega), evp, if_neg (by omega), evp, if_neg (by omega), evp, if_neg (by omega), evp, if_neg (by omega), evp, if_neg (by omega), evp, if_neg (by omega), evp, if_neg (by omega)]; exact F.e5)
  · simp only [dfp]; exact F.defers
set_option maxHeartbeats 2000000 in
theorem rg_b1 {T0 T1 T2 T3 T4 T5 T6 T7 : TypeId} {p0 p1 p2 p3 p4 p5 p6 p7 : String} {f0 f1 f2 f3 f4 f5 f6 f7} {y0 : TypeId} {x0 d0 : Nat} {fs0 : Array Field} (hu0 : Try.prog.underlying y0 = some (.struct fs0)) (m0 : Nat) (hf0 : (fs0[x0]?).map (fun fl => (fl.offset, (Try.prog.info? fl.type).map (·.size))) = some (d0, some (m0 + 1))) (F : Fr N (.slice (some ⟨g, 0, none⟩) n cap) (.int .i64 z) (.int .i64 k) a) (h0 : 0 ≤ z) (h1 : z ≤ 4611686018427387904) (hs : s + 7 ≤ N) (hs0 : 6 ≤ s) (hk : k < n) (hn : n ≤ 2097152) (hP : MkP lo g cap n o B xs w0 j u) (hq : k * 64 + d0 = o + j) (hj : o + j < n * 64) (hv : Value.bool (Int.tmod z 3 == 0) = mkV B j)
    (h : ∀ a' u', Fr N (.slice (some ⟨g, 0, none⟩) n cap) (.int .i64 z) (.int .i64 k) a' → MkP lo g cap n o B xs w0 (j + 1) u' → Q .normal a' u') :
    (Code.region id #[⟨some (s), .move (.tmp 0), T0, p0, f0, none⟩, ⟨some (s + 1), .move (.tmp 5), T1, p1, f1, none⟩, ⟨some (s + 2), .move (.tmp 1), T2, p2, f2, none⟩, ⟨some (s + 3), .binOp .rem 3 (.tmp (s + 2)) (.const (.int .i64 3)) 3, T3, p3, f3, none⟩, ⟨some (s + 4), .binOp .eql 3 (.tmp (s + 3)) (.const (.int .i64 0)) 3, T4, p4, f4, none⟩, ⟨some (s + 5), .indexAddr 24 (.tmp s) (.tmp (s + 1)), T5, p5, f5, none⟩, ⟨some (s + 6), .fieldAddr y0 (.tmp (s + 5)) x0, T6, p6, f6, none⟩, ⟨none, .store 4 (.tmp (s + 6)) (.tmp (s + 4)), T7, p7, f7, none⟩] false).wp Try.prog Q a u := by
  refine wp_region_list ?_
  have hN := F.size
  refine s_move (v := .slice (some ⟨g, 0, none⟩) n cap) F.e0 ?_
  refine s_move (v := .int .i64 k) (by rw [evp, if_neg (by omega)]; exact F.e5) ?_
  refine s_move (v := .int .i64 z) (by rw [evp, if_neg (by omega), evp, if_neg (by omega)]; exact F.e1) ?_
  refine s_rem3 (z := z) (by rw [evp, if_pos ⟨rfl, by (try simp only [szp]); omega⟩]) h0 h1 ?_
  refine s_eq0 (z := Int.tmod z 3) (by rw [evp, if_pos ⟨rfl, by (try simp only [szp]); omega⟩]) ?_
  refine s_index (g := g) (n := n) (c := cap) (k := k) (by rw [evp, if_neg (by omega), evp, if_neg (by omega), evp, if_neg (by omega), evp, if_neg (by omega), evp, if_pos ⟨rfl, by (try simp only [szp]); omega⟩]) (by rw [evp, if_neg (by omega), evp, if_neg (by omega), evp, if_neg (by omega), evp, if_pos ⟨rfl, by (try simp only [szp]); omega⟩]) hk hn ?_
  refine s_field (g := g) (o := k * 64) (d := d0) (by rw [evp, if_pos ⟨rfl, by (try simp only [szp]); omega⟩]) hu0 m0 hf0 ?_
  refine list_mark (q := k * 64 + d0) (v := .bool (Int.tmod z 3 == 0)) rfl rfl (by rw [evp, if_pos ⟨rfl, by (try simp only [szp]); omega⟩]) (by rw [evp, if_neg (by omega), evp, if_neg (by omega), evp, if_pos ⟨rfl, by (try simp only [szp]); omega⟩]) hP hq hj hv info_b1 rfl ?_
  intro u' hP'
  refine wpList_nil ?_
  refine h _ _ ?_ hP'
  refine ⟨?_, ?_, ?_, ?_, ?_⟩
  · simp only [szp]; exact hN
  · exact (by rw [evp, if_neg (by omega), evp, if_neg (by omega), evp, if_neg (by omega), evp, if_neg (by omega), evp, if_neg (by omega), evp, if_neg (by omega), evp, if_neg (by omega)]; exact F.e0)
  · exact (by rw [evp, if_neg (by omega), evp, if_neg (by omega), evp, if_neg (by omega), evp, if_neg (by omega), evp, if_neg (by omega), evp, if_neg (by omega), evp, if_neg (by omega)]; exact F.e1)
  · exact (by rw [evp, if_neg (by omega), evp, if_neg (by omega), evp, if_neg (by omega), evp, if_neg (by omega), evp, if_neg (by omega), evp, if_neg (by omega), evp, if_neg (by omega)]; exact F.e5)
  · simp only [dfp]; exact F.defers
set_option maxHeartbeats 2000000 in
theorem rg_b2 {T0 T1 T2 T3 T4 T5 T6 T7 T8 : TypeId} {p0 p1 p2 p3 p4 p5 p6 p7 p8 : String} {f0 f1 f2 f3 f4 f5 f6 f7 f8} {y0 : TypeId} {x0 d0 : Nat} {fs0 : Array Field} (hu0 : Try.prog.underlying y0 = some (.struct fs0)) (m0 : Nat) (hf0 : (fs0[x0]?).map (fun fl => (fl.offset, (Try.prog.info? fl.type).map (·.size))) = some (d0, some (m0 + 1))) {y1 : TypeId} {x1 d1 : Nat} {fs1 : Array Field} (hu1 : Try.prog.underlying y1 = some (.struct fs1)) (m1 : Nat) (hf1 : (fs1[x1]?).map (fun fl => (fl.offset, (Try.prog.info? fl.type).map (·.size))) = some (d1, some (m1 + 1))) (F : Fr N (.slice (some ⟨g, 0, none⟩) n cap) (.int .i64 z) (.int .i64 k) a) (h0 : 0 ≤ z) (h1 : z ≤ 4611686018427387904) (hs : s + 8 ≤ N) (hs0 : 6 ≤ s) (hk : k < n) (hn : n ≤ 2097152) (hP : MkP lo g cap n o B xs w0 j u) (hq : k * 64 + d0 + d1 = o + j) (hj : o + j < n * 64) (hv : Value.bool (Int.tmod z 3 == 0) = mkV B j)
    (h : ∀ a' u', Fr N (.slice (some ⟨g, 0, none⟩) n cap) (.int .i64 z) (.int .i64 k) a' → MkP lo g cap n o B xs w0 (j + 1) u' → Q .normal a' u') :
    (Code.region id #[⟨some (s), .move (.tmp 0), T0, p0, f0, none⟩, ⟨some (s + 1), .move (.tmp 5), T1, p1, f1, none⟩, ⟨some (s + 2), .move (.tmp 1), T2, p2, f2, none⟩, ⟨some (s + 3), .binOp .rem 3 (.tmp (s + 2)) (.const (.int .i64 3)) 3, T3, p3, f3, none⟩, ⟨some (s + 4), .binOp .eql 3 (.tmp (s + 3)) (.const (.int .i64 0)) 3, T4, p4, f4, none⟩, ⟨some (s + 5), .indexAddr 24 (.tmp s) (.tmp (s + 1)), T5, p5, f5, none⟩, ⟨some (s + 6), .fieldAddr y0 (.tmp (s + 5)) x0, T6, p6, f6, none⟩, ⟨some (s + 7), .fieldAddr y1 (.tmp (s + 6)) x1, T7, p7, f7, none⟩, ⟨none, .store 4 (.tmp (s + 7)) (.tmp (s + 4)), T8, p8, f8, none⟩] false).wp Try.prog Q a u := by
  refine wp_region_list ?_
  have hN := F.size
  refine s_move (v := .slice (some ⟨g, 0, none⟩) n cap) F.e0 ?_
  refine s_move (v := .int .i64 k) (by rw [evp, if_neg (by omega)]; exact F.e5) ?_
  refine s_move (v := .int .i64 z) (by rw [evp, if_neg (by omega), evp, if_neg (by omega)]; exact F.e1) ?_
  refine s_rem3 (z := z) (by rw [evp, if_pos ⟨rfl, by (try simp only [szp]); omega⟩]) h0 h1 ?_
  refine s_eq0 (z := Int.tmod z 3) (by rw [evp, if_pos ⟨rfl, by (try simp only [szp]); omega⟩]) ?_
  refine s_index (g := g) (n := n) (c := cap) (k := k) (by rw [evp, if_neg (by omega), evp, if_neg (by omega), evp, if_neg (by omega), evp, if_neg (by omega), evp, if_pos ⟨rfl, by (try simp only [szp]); omega⟩]) (by rw [evp, if_neg (by omega), evp, if_neg (by omega), evp, if_neg (by omega), evp, if_pos ⟨rfl, by (try simp only [szp]); omega⟩]) hk hn ?_
  refine s_field (g := g) (o := k * 64) (d := d0) (by rw [evp, if_pos ⟨rfl, by (try simp only [szp]); omega⟩]) hu0 m0 hf0 ?_
  refine s_field (g := g) (o := k * 64 + d0) (d := d1) (by rw [evp, if_pos ⟨rfl, by (try simp only [szp]); omega⟩]) hu1 m1 hf1 ?_
  refine list_mark (q := k * 64 + d0 + d1) (v := .bool (Int.tmod z 3 == 0)) rfl rfl (by rw [evp, if_pos ⟨rfl, by (try simp only [szp]); omega⟩]) (by rw [evp, if_neg (by omega), evp, if_neg (by omega), evp, if_neg (by omega), evp, if_pos ⟨rfl, by (try simp only [szp]); omega⟩]) hP hq hj hv info_b1 rfl ?_
  intro u' hP'
  refine wpList_nil ?_
  refine h _ _ ?_ hP'
  refine ⟨?_, ?_, ?_, ?_, ?_⟩
  · simp only [szp]; exact hN
  · exact (by rw [evp, if_neg (by omega), evp, if_neg (by omega), evp, if_neg (by omega), evp, if_neg (by omega), evp, if_neg (by omega), evp, if_neg (by omega), evp, if_neg (by omega), evp, if_neg (by omega)]; exact F.e0)
  · exact (by rw [evp, if_neg (by omega), evp, if_neg (by omega), evp, if_neg (by omega), evp, if_neg (by omega), evp, if_neg (by omega), evp, if_neg (by omega), evp, if_neg (by omega), evp, if_neg (by omega)]; exact F.e1)
  · exact (by rw [evp, if_neg (by omega), evp, if_neg (by omega), evp, if_neg (by omega), evp, if_neg (by omega), evp, if_neg (by omega), evp, if_neg (by omega), evp, if_neg (by omega), evp, if_neg (by omega)]; exact F.e5)
  · simp only [dfp]; exact F.defers
end
end Go.Proofs.Ytbfhipfflomokaa

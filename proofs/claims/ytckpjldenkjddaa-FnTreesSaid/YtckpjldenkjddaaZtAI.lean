import Derived.Laws.StructEq
import Derived.ChangeKeysEq
import Derived.Test.YtckpjldenkjddaaZtAD
section
namespace Go.Proofs.Ytckpjldenkjddaa
open Go.ChangeShapes Go.WideShapes Go.ChangeAt Go.RowKit

/-- Field f of two rows is compared: one Bool. -/
def Tot (P : Program) (dd : Nat) (xs ys : Array Value) (f : Field) : Prop :=
  f.name ≠ "_" ∧ ∃ (a b : Value) (r : Bool), ∀ w, (part f.type xs f.offset).run P w = .ok a w ∧ (part f.type ys f.offset).run P w = .ok b w ∧ (Op.equalIn dd f.type a b).run P w = .ok r w ∧ (xs = ys → r = true)
/-- Two rows are compared: one Bool. -/
def TotRow (P : Program) (dd : Nat) (t : TypeId) (xs ys : Array Value) : Prop := ∃ r : Bool, ∀ w, (Op.equalIn dd t (.agg xs) (.agg ys)).run P w = .ok r w ∧ (xs = ys → r = true)
section
variable {P : Program} {dd : Nat} {xs ys : Array Value}
theorem tot_fields : ∀ (fs : List Field), (∀ f ∈ fs, Tot P dd xs ys f) → ∃ r : Bool, ∀ w, (Op.eqFields dd xs ys fs).run P w = .ok r w ∧ (xs = ys → r = true)
  | [], _ => ⟨true, fun w => ⟨by simp [Op.eqFields], fun _ => rfl⟩⟩
  | f :: fs, h => by
    obtain ⟨hn, a, b, r, hr⟩ := h f (by simp)
    obtain ⟨q, hq⟩ := tot_fields fs fun f' hf' => h f' (by simp [hf'])
    refine ⟨r && q, fun w => ?_⟩
    obtain ⟨h1, h2, h3, h4⟩ := hr w
    obtain ⟨h5, h6⟩ := hq w
    refine ⟨?_, fun e => by rw [h4 e, h6 e]; rfl⟩
    rw [Op.eqFields, if_pos hn]
    simp only [Sem.run_bind, h1, h2, h3, Result.andThen_ok]
    cases r
    · simp
    · simp [h5]
theorem tot_struct {t : TypeId} {fs : Array Field} (hS : P.underlying t = some (.struct fs)) (hp : P.stoodInHeld t = false) (h : ∀ f ∈ fs.toList, Tot P dd xs ys f) : TotRow P (dd + 1) t xs ys := by
  obtain ⟨r, hr⟩ := tot_fields fs.toList h
  have hf : P.fieldsOf t = fs := by unfold Program.fieldsOf; rw [hS]
  refine ⟨r, fun w => ?_⟩
  rw [run_equalIn_agg w dd t xs ys (by rw [hf]; exact hS) hp, hf]
  exact hr w
theorem tot_int {d : Nat} {f : Field} {a b : Int} (hn : f.name ≠ "_") (hu : P.underlying f.type = some (.int .i64)) (hx : xs[f.offset]? = some (.int .i64 a)) (hy : ys[f.offset]? = some (.int .i64 b)) : Tot P (d + 1) xs ys f := by
  have hk : P.plainKey f.type = true := by unfold Program.plainKey; rw [hu]
  refine ⟨hn, _, _, a == b, fun w => ⟨run_part_plain w hk hx, run_part_plain w hk hy, run_equalIn_int w d _ _ _ _ _ hu, fun e => ?_⟩⟩
  subst e
  rw [hx] at hy
  simp at hy
  simp [hy]
theorem tot_bool {d : Nat} {f : Field} {a b : Bool} (hn : f.name ≠ "_") (hu : P.underlying f.type = some .bool) (hx : xs[f.offset]? = some (.bool a)) (hy : ys[f.offset]? = some (.bool b)) : Tot P (d + 1) xs ys f := by
  have hk : P.plainKey f.type = true := by unfold Program.plainKey; rw [hu]
  refine ⟨hn, _, _, a == b, fun w => ⟨run_part_plain w hk hx, run_part_plain w hk hy, run_equalIn_bool' w d _ _ _ hu, fun e => ?_⟩⟩
  subst e
  rw [hx] at hy
  simp at hy
  simp [hy]
theorem run_part_agg {e : TypeId} {fs : Array Field} {m off : Nat} (hu : P.underlying e = some (.struct fs)) (hi : (P.info? e).map (·.size) = some m) (zs : Array Value) (w : World) : (part e zs off).run P w = .ok (.agg (zs.extract off (off + m))) w := by
  cases hq : P.info? e with
  | none => simp [hq] at hi
  | some i =>
    have hs : i.size = m := by simpa [hq] using hi
    have hagg : (isAgg e).run P w = .ok true w := by
      unfold isAgg
      rw [Sem.run_bind, run_underlying hu w]
      rfl
    simp [part, Sem.run_bind, hagg, sizeOf, typeInfo, hq, hs]
theorem tot_agg {f : Field} {fs : Array Field} {m : Nat} (hn : f.name ≠ "_") (hu : P.underlying f.type = some (.struct fs)) (hi : (P.info? f.type).map (·.size) = some m) (h : TotRow P dd f.type (xs.extract f.offset (f.offset + m)) (ys.extract f.offset (f.offset + m))) : Tot P dd xs ys f := by
  obtain ⟨r, hr⟩ := h
  exact ⟨hn, _, _, r, fun w => ⟨run_part_agg hu hi xs w, run_part_agg hu hi ys w, (hr w).1, fun e => (hr w).2 (by rw [e])⟩⟩
end
/-- Ints, and nothing else, in the first n places. -/
def IntRow (n : Nat) (xs : Array Value) : Prop := ∀ i, i < n → ∃ z, xs[i]? = some (.int .i64 z)
theorem IntRow.part {n : Nat} {xs : Array Value} (h : IntRow n xs) (o m : Nat) (hm : o + m ≤ n) : IntRow m (xs.extract o (o + m)) := fun i hi => by
  obtain ⟨z, hz⟩ := h (o + i) (by omega)
  refine ⟨z, ?_⟩
  have hlt := (Array.getElem?_eq_some_iff.1 hz).1
  rw [Array.getElem?_extract, if_pos (by omega), hz]
theorem sty_part (f : Nat → Int) (o m : Nat) (ho : 8 ≤ o) (hm : o + m ≤ 60) : IntRow m ((sCells f).extract o (o + m)) := fun i hi => by
  refine ⟨f (o + i), ?_⟩
  rw [Array.getElem?_extract, if_pos (by rw [sCells_size]; omega), sCells_get f (by omega), sCell_int _ (by omega)]
theorem totrow_ints {d : Nat} {t : TypeId} {fs : Array Field} {n : Nat} {xs ys : Array Value} (hS : Try.prog.underlying t = some (.struct fs)) (hp : Try.prog.stoodInHeld t = false) (hf : ∀ f ∈ fs.toList, f.name ≠ "_" ∧ f.type = 3 ∧ f.offset < n) (hx : IntRow n xs) (hy : IntRow n ys) : TotRow Try.prog (d + 2) t xs ys :=
  tot_struct hS hp fun f hm => by
    obtain ⟨h1, h2, h3⟩ := hf f hm
    obtain ⟨a, ha⟩ := hx f.offset h3
    obtain ⟨b, hb⟩ := hy f.offset h3
    exact tot_int h1 (by rw [h2]; exact Try.underlying3) ha hb
theorem totrow_val {d : Nat} {xs ys : Array Value} (hx : IntRow 2 xs) (hy : IntRow 2 ys) : TotRow Try.prog (d + 2) 35 xs ys :=
  totrow_ints Try.underlying35 (by kernel_rfl) (by simp) hx hy
theorem totrow_edg {d : Nat} {xs ys : Array Value} (hx : IntRow 4 xs) (hy : IntRow 4 ys) : TotRow Try.prog (d + 2) 39 xs ys :=
  totrow_ints Try.underlying39 (by kernel_rfl) (by simp) hx hy
theorem val_size2 : (Try.prog.info? 35).map (·.size) = some 2 := by kernel_rfl
theorem sid_size12 : (Try.prog.info? 37).map (·.size) = some 12 := by kernel_rfl
theorem edg_size4 : (Try.prog.info? 39).map (·.size) = some 4 := by kernel_rfl
theorem totrow_sid {d : Nat} {xs ys : Array Value} (hx : IntRow 12 xs) (hy : IntRow 12 ys) : TotRow Try.prog (d + 3) 37 xs ys :=
  tot_struct Try.underlying37 (by kernel_rfl) fun f hm => by
    simp only [List.mem_cons, List.not_mem_nil, or_false] at hm
    rcases hm with rfl | rfl | rfl | rfl | rfl | rfl <;> exact tot_agg (by simp) Try.underlying35 val_size2 (totrow_val (hx.part _ 2 (by simp)) (hy.part _ 2 (by simp)))
set_option maxRecDepth 8000 in
theorem totrow_sty (d : Nat) (f g : Nat → Int) : TotRow Try.prog (d + 4) 41 (sCells f) (sCells g) :=
  tot_struct Try.underlying41 (by kernel_rfl) fun fl hm => by
    simp only [List.mem_cons, List.not_mem_nil, or_false] at hm
    rcases hm with rfl | rfl | rfl | rfl | rfl | rfl | rfl | rfl | rfl | rfl | rfl | rfl | rfl | rfl | rfl | rfl | rfl | rfl | rfl | rfl | rfl | rfl | rfl | rfl | rfl <;>
      first
      | exact tot_int (by simp) Try.underlying3 (sCells_get f (by simp)) (sCells_get g (by simp))
      | exact tot_bool (by simp) Try.underlying4 (sCells_get f (by simp)) (sCells_get g (by simp))
      | exact tot_agg (by simp) Try.underlying35 val_size2 (totrow_val (sty_part f _ 2 (by simp) (by simp)) (sty_part g _ 2 (by simp) (by simp)))
      | exact tot_agg (by simp) Try.underlying37 sid_size12 (totrow_sid (sty_part f _ 12 (by simp) (by simp)) (sty_part g _ 12 (by simp) (by simp)))
      | exact tot_agg (by simp) Try.underlying39 edg_size4 (totrow_edg (sty_part f _ 4 (by simp) (by simp)) (sty_part g _ 4 (by simp) (by simp)))
theorem eqq_same (f : Nat → Int) (w : World) : (binOp .eql 41 (.agg (sCells f)) (.agg (sCells f))).run Try.prog w = .ok (.bool true) w := by
  obtain ⟨r, hr⟩ := totrow_sty 9996 f f
  rw [run_eql_struct, show (10000 : Nat) = 9996 + 4 from rfl, (hr w).1, (hr w).2 rfl]
  rfl
theorem guard_styF (o : BinOp) (x y : Operand) (xs ys : Array Value) (w : World) : (eqGuard o 41 x y (.agg xs) (.agg ys)).run Try.prog w = .ok () w := run_eqGuard_agg w _ _ x y xs ys (by kernel_rfl)
end Go.Proofs.Ytckpjldenkjddaa
end

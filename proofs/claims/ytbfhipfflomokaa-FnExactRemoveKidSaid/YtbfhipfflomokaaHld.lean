/-
  The laws' helpers heldNodeS and heldTree on a marked tree of the call's own: walked over a symbolic frame (726 slots). Conditions: no list of more than 2097152.
-/
import Derived.Test.YtbfhipfflomokaaMrN
namespace Go.Proofs.Ytbfhipfflomokaa
open Go.ChangeShapes Go.WideShapes Go.ChangeAt Go.RowKit
set_option linter.unusedVariables false
set_option linter.unusedSimpArgs false
set_option maxRecDepth 8000

theorem mkL_at : ∀ (K : Nat) (ms : List ND) (k : Nat) (m : ND), ms[k]? = some m → (mkL K ms)[k]? = some (mkM (nxL K (ms.take k)) m)
  | _, [], _, _, h => by simp at h
  | K, q :: ms, 0, m, h => by
    simp at h
    subst h
    rfl
  | K, q :: ms, k + 1, m, h => by
    rw [mkL, List.getElem?_cons_succ, mkL_at (nxN K q.n) ms k m (by simpa using h), List.take_succ_cons, nxL]
theorem heldK (lo k : Nat) (K : Int) (v : Value) (n : Nat) (w : World) (hn : n ≤ 2097152) (hk2 : k ≤ 4294967296) (hK : K = k) (h : KRow lo v (mksI k n) w) :
    Calls Try.prog 122 #[v, .int .i64 K] w fun e w' => e = .returned (.int .i64 (K + n)) ∧ w' = w := by
  obtain ⟨a, c, e, h⟩ := h
  subst hK
  by_cases h0 : mksI k n = []
  · have hn0 : n = 0 := by have := congrArg List.length h0; rw [mksI_len] at this; exact this
    subst hn0
    rw [mksI_len] at e
    subst e
    exact (heldI_none a c k w).mono fun e w' ⟨he, hw⟩ => ⟨by rw [he]; simp, hw⟩
  · exact heldI_any2 lo k n v w hn hk2 (h.resolve_left h0)
theorem heldT (lo k : Nat) (K : Int) (v : Value) (n : Nat) (w : World) (hn : n ≤ 2097152) (hk2 : k ≤ 4294967296) (hK : K = k) (h : TRow lo v n (mksI k (n * 3)) w) :
    Calls Try.prog 123 #[v, .int .i64 K] w fun e w' => e = .returned (.int .i64 (K + n * 3)) ∧ w' = w := by
  obtain ⟨a, c, e, h⟩ := h
  subst hK
  by_cases h0 : n = 0
  · subst h0
    subst e
    exact (heldR_none a c k w).mono fun e w' ⟨he, hw⟩ => ⟨by rw [he]; simp, hw⟩
  · have hr := h.resolve_left h0
    rcases hr.2 with ⟨_, h2⟩ | ⟨g, cap, cur, h1, _⟩
    · exact absurd h2 h0
    · subst h1
      exact heldR_some g cap n lo k w hn hk2 hr
section
variable {ops : Array Oper} {rest : List Oper} {op : Oper} {a : Act} {w : World} {Q : Exit → Act → World → Prop}
theorem s_loadN {D : Nat} {TT : TypeId} {pp : String} {ff} {x : Operand} {p : Addr} {v : Value} (hx : a.eval x = .pointer (some p)) (hc : w.cell? p = some v)
    (h : wpList Try.prog ops Q rest (a.put (some D) v) w) : wpList Try.prog ops Q (⟨some D, .load 3 x, TT, pp, ff, none⟩ :: rest) a w :=
  list_val rfl (by
    unfold execOp
    simp only [hx]
    go_simp) h
theorem s_loadB {D : Nat} {TT : TypeId} {pp : String} {ff} {x : Operand} {p : Addr} {v : Value} (hx : a.eval x = .pointer (some p)) (hc : w.cell? p = some v)
    (h : wpList Try.prog ops Q rest (a.put (some D) v) w) : wpList Try.prog ops Q (⟨some D, .load 4 x, TT, pp, ff, none⟩ :: rest) a w :=
  list_val rfl (by
    unfold execOp
    simp only [hx]
    go_simp) h
theorem s_neqN {D : Nat} {TT : TypeId} {pp : String} {ff} {x y : Operand} {z : Int} (hx : a.eval x = .int .i64 z) (hy : a.eval y = .int .i64 z)
    (h : wpList Try.prog ops Q rest (a.put (some D) (.bool false)) w) : wpList Try.prog ops Q (⟨some D, .binOp .neq 3 x y 3, TT, pp, ff, none⟩ :: rest) a w :=
  list_val rfl (by
    unfold execOp
    simp only [hx, hy]
    go_simp) h
theorem s_neqB {D : Nat} {TT : TypeId} {pp : String} {ff} {x y : Operand} {z : Bool} (hx : a.eval x = .bool z) (hy : a.eval y = .bool z)
    (h : wpList Try.prog ops Q rest (a.put (some D) (.bool false)) w) : wpList Try.prog ops Q (⟨some D, .binOp .neq 4 x y 4, TT, pp, ff, none⟩ :: rest) a w :=
  list_val rfl (by
    unfold execOp
    simp only [hx, hy]
    go_simp) h
theorem s_lss0 {D : Nat} {TT : TypeId} {pp : String} {ff} {x : Operand} {z : Int} (hx : a.eval x = .int .i64 z) (hz : 0 ≤ z)
    (h : wpList Try.prog ops Q rest (a.put (some D) (.bool false)) w) : wpList Try.prog ops Q (⟨some D, .binOp .lss 3 x (.const (.int .i64 0)) 3, TT, pp, ff, none⟩ :: rest) a w :=
  list_val rfl (by
    have hc : a.eval (.const (.int .i64 0)) = .int .i64 0 := rfl
    have hd : ¬ z < 0 := by omega
    unfold execOp
    simp only [hx, hc]
    go_simp
    try simp [hd]) h
end
section
variable {Q : Exit → Act → World → Prop} {a : Act} {u : World} {g cap n N o B j k s id : Nat} {z : Int}
/-- 'k < 0' -/
theorem rg_neg {T1 T2 : TypeId} {p1 p2 : String} {f1 f2} (F : Fr N (.slice (some ⟨g, 0, none⟩) n cap) (.int .i64 z) (.int .i64 k) a) (h0 : 0 ≤ z) (hs : s + 2 ≤ N) (hs0 : 6 ≤ s)
    (h : ∀ a', Fr N (.slice (some ⟨g, 0, none⟩) n cap) (.int .i64 z) (.int .i64 k) a' → a'.eval (.tmp (s + 1)) = .bool false → Q .normal a' u) :
    (Code.region id #[⟨some s, .move (.tmp 1), T1, p1, f1, none⟩, ⟨some (s + 1), .binOp .lss 3 (.tmp s) (.const (.int .i64 0)) 3, T2, p2, f2, none⟩] false).wp Try.prog Q a u := by
  refine wp_region_list ?_
  have hN := F.size
  refine s_move F.e1 ?_
  refine s_lss0 (z := z) (by rw [evs _ _ _ (by omega)]) h0 ?_
  refine wpList_nil ?_
  refine h _ ?_ ?_
  · refine ⟨?_, ?_, ?_, ?_, ?_⟩
    · simp only [szp]; exact hN
    · rw [evn _ _ _ _ (by omega), evn _ _ _ _ (by omega)]; exact F.e0
    · rw [evn _ _ _ _ (by omega), evn _ _ _ _ (by omega)]; exact F.e1
    · rw [evn _ _ _ _ (by omega), evn _ _ _ _ (by omega)]; exact F.e5
    · simp only [dfp]; exact F.defers
  · rw [evs _ _ _ (by simp only [szp]; omega)]
set_option maxHeartbeats 2000000 in
theorem rg_h1 {T0 T1 T2 T3 T4 T5 T6 : TypeId} {p0 p1 p2 p3 p4 p5 p6 : String} {f0 f1 f2 f3 f4 f5 f6} {y0 : TypeId} {x0 d0 : Nat} {fs0 : Array Field} (hu0 : Try.prog.underlying y0 = some (.struct fs0)) (m0 : Nat) (hf0 : (fs0[x0]?).map (fun fl => (fl.offset, (Try.prog.info? fl.type).map (·.size))) = some (d0, some (m0 + 1))) (F : Fr N (.slice (some ⟨g, 0, none⟩) n cap) (.int .i64 z) (.int .i64 k) a) (hs : s + 7 ≤ N) (hs0 : 6 ≤ s) (hk : k < n) (hn : n ≤ 2097152) (hC : ∀ j, j < 61 → u.cell? ⟨g, o + j, none⟩ = some (mkV B j)) (hq : k * 64 + d0 = o + j) (hj : j < 61) (hv : Value.int .i64 z = mkV B j)
    (h : ∀ a', Fr N (.slice (some ⟨g, 0, none⟩) n cap) (.int .i64 z) (.int .i64 k) a' → a'.eval (.tmp (s + 6)) = .bool false → Q .normal a' u) :
    (Code.region id #[⟨some (s), .move (.tmp 0), T0, p0, f0, none⟩, ⟨some (s + 1), .move (.tmp 5), T1, p1, f1, none⟩, ⟨some (s + 2), .indexAddr 24 (.tmp s) (.tmp (s + 1)), T2, p2, f2, none⟩, ⟨some (s + 3), .fieldAddr y0 (.tmp (s + 2)) x0, T3, p3, f3, none⟩, ⟨some (s + 4), .load 3 (.tmp (s + 3)), T4, p4, f4, none⟩, ⟨some (s + 5), .move (.tmp 1), T5, p5, f5, none⟩, ⟨some (s + 6), .binOp .neq 3 (.tmp (s + 4)) (.tmp (s + 5)) 3, T6, p6, f6, none⟩] false).wp Try.prog Q a u := by
  have hc : u.cell? ⟨g, k * 64 + d0, none⟩ = some (Value.int .i64 z) := by rw [hq, hC j hj, ← hv]
  refine wp_region_list ?_
  have hN := F.size
  refine s_move (v := .slice (some ⟨g, 0, none⟩) n cap) F.e0 ?_
  refine s_move (v := .int .i64 k) (by rw [evp, if_neg (by omega)]; exact F.e5) ?_
  refine s_index (g := g) (n := n) (c := cap) (k := k) (by rw [evp, if_neg (by omega), evp, if_pos ⟨rfl, by (try simp only [szp]); omega⟩]) (by rw [evp, if_pos ⟨rfl, by (try simp only [szp]); omega⟩]) hk hn ?_
  refine s_field (g := g) (o := k * 64) (d := d0) (by rw [evp, if_pos ⟨rfl, by (try simp only [szp]); omega⟩]) hu0 m0 hf0 ?_
  refine s_loadN (v := .int .i64 z) (by rw [evp, if_pos ⟨rfl, by (try simp only [szp]); omega⟩]) hc ?_
  refine s_move (v := .int .i64 z) (by rw [evp, if_neg (by omega), evp, if_neg (by omega), evp, if_neg (by omega), evp, if_neg (by omega), evp, if_neg (by omega)]; exact F.e1) ?_
  refine s_neqN (by rw [evp, if_neg (by omega), evp, if_pos ⟨rfl, by (try simp only [szp]); omega⟩]) (by rw [evp, if_pos ⟨rfl, by (try simp only [szp]); omega⟩]) ?_
  refine wpList_nil ?_
  refine h _ ?_ ?_
  · refine ⟨?_, ?_, ?_, ?_, ?_⟩
    · simp only [szp]; exact hN
    · exact (by rw [evp, if_neg (by omega), evp, if_neg (by omega), evp, if_neg (by omega), evp, if_neg (by omega), evp, if_neg (by omega), evp, if_neg (by omega), evp, if_neg (by omega)]; exact F.e0)
    · exact (by rw [evp, if_neg (by omega), evp, if_neg (by omega), evp, if_neg (by omega), evp, if_neg (by omega), evp, if_neg (by omega), evp, if_neg (by omega), evp, if_neg (by omega)]; exact F.e1)
    · exact (by rw [evp, if_neg (by omega), evp, if_neg (by omega), evp, if_neg (by omega), evp, if_neg (by omega), evp, if_neg (by omega), evp, if_neg (by omega), evp, if_neg (by omega)]; exact F.e5)
    · simp only [dfp]; exact F.defers
  · exact (by rw [evp, if_pos ⟨rfl, by (try simp only [szp]); omega⟩])
set_option maxHeartbeats 2000000 in
theorem rg_h2 {T0 T1 T2 T3 T4 T5 T6 T7 : TypeId} {p0 p1 p2 p3 p4 p5 p6 p7 : String} {f0 f1 f2 f3 f4 f5 f6 f7} {y0 : TypeId} {x0 d0 : Nat} {fs0 : Array Field} (hu0 : Try.prog.underlying y0 = some (.struct fs0)) (m0 : Nat) (hf0 : (fs0[x0]?).map (fun fl => (fl.offset, (Try.prog.info? fl.type).map (·.size))) = some (d0, some (m0 + 1))) {y1 : TypeId} {x1 d1 : Nat} {fs1 : Array Field} (hu1 : Try.prog.underlying y1 = some (.struct fs1)) (m1 : Nat) (hf1 : (fs1[x1]?).map (fun fl => (fl.offset, (Try.prog.info? fl.type).map (·.size))) = some (d1, some (m1 + 1))) (F : Fr N (.slice (some ⟨g, 0, none⟩) n cap) (.int .i64 z) (.int .i64 k) a) (hs : s + 8 ≤ N) (hs0 : 6 ≤ s) (hk : k < n) (hn : n ≤ 2097152) (hC : ∀ j, j < 61 → u.cell? ⟨g, o + j, none⟩ = some (mkV B j)) (hq : k * 64 + d0 + d1 = o + j) (hj : j < 61) (hv : Value.int .i64 z = mkV B j)
    (h : ∀ a', Fr N (.slice (some ⟨g, 0, none⟩) n cap) (.int .i64 z) (.int .i64 k) a' → a'.eval (.tmp (s + 7)) = .bool false → Q .normal a' u) :
    (Code.region id #[⟨some (s), .move (.tmp 0), T0, p0, f0, none⟩, ⟨some (s + 1), .move (.tmp 5), T1, p1, f1, none⟩, ⟨some (s + 2), .indexAddr 24 (.tmp s) (.tmp (s + 1)), T2, p2, f2, none⟩, ⟨some (s + 3), .fieldAddr y0 (.tmp (s + 2)) x0, T3, p3, f3, none⟩, ⟨some (s + 4), .fieldAddr y1 (.tmp (s + 3)) x1, T4, p4, f4, none⟩, ⟨some (s + 5), .load 3 (.tmp (s + 4)), T5, p5, f5, none⟩, ⟨some (s + 6), .move (.tmp 1), T6, p6, f6, none⟩, ⟨some (s + 7), .binOp .neq 3 (.tmp (s + 5)) (.tmp (s + 6)) 3, T7, p7, f7, none⟩] false).wp Try.prog Q a u := by
  have hc : u.cell? ⟨g, k * 64 + d0 + d1, none⟩ = some (Value.int .i64 z) := by rw [hq, hC j hj, ← hv]
  refine wp_region_list ?_
  have hN := F.size
  refine s_move (v := .slice (some ⟨g, 0, none⟩) n cap) F.e0 ?_
  refine s_move (v := .int .i64 k) (by rw [evp, if_neg (by omega)]; exact F.e5) ?_
  refine s_index (g := g) (n := n) (c := cap) (k := k) (by rw [evp, if_neg (by omega), evp, if_pos ⟨rfl, by (try simp only [szp]); omega⟩]) (by rw [evp, if_pos ⟨rfl, by (try simp only [szp]); omega⟩]) hk hn ?_
  refine s_field (g := g) (o := k * 64) (d := d0) (by rw [evp, if_pos ⟨rfl, by (try simp only [szp]); omega⟩]) hu0 m0 hf0 ?_
  refine s_field (g := g) (o := k * 64 + d0) (d := d1) (by rw [evp, if_pos ⟨rfl, by (try simp only [szp]); omega⟩]) hu1 m1 hf1 ?_
  refine s_loadN (v := .int .i64 z) (by rw [evp, if_pos ⟨rfl, by (try simp only [szp]); omega⟩]) hc ?_
  refine s_move (v := .int .i64 z) (by rw [evp, if_neg (by omega), evp, if_neg (by omega), evp, if_neg (by omega), evp, if_neg (by omega), evp, if_neg (by omega), evp, if_neg (by omega)]; exact F.e1) ?_
  refine s_neqN (by rw [evp, if_neg (by omega), evp, if_pos ⟨rfl, by (try simp only [szp]); omega⟩]) (by rw [evp, if_pos ⟨rfl, by (try simp only [szp]); omega⟩]) ?_
  refine wpList_nil ?_
  refine h _ ?_ ?_
  · refine ⟨?_, ?_, ?_, ?_, ?_⟩
    · simp only [szp]; exact hN
    · exact (by rw [evp, if_neg (by omega), evp, if_neg (by omega), evp, if_neg (by omega), evp, if_neg (by omega), evp, if_neg (by omega), evp, if_neg (by omega), evp, if_neg (by omega), evp, if_neg (by omega)]; exact F.e0)
    · exact (by rw [evp, if_neg (by omega), evp, if_neg (by omega), evp, if_neg (by omega), evp, if_neg (by omega), evp, if_neg (by omega), evp, if_neg (by omega), evp, if_neg (by omega), evp, if_neg (by omega)]; exact F.e1)
    · exact (by rw [evp, if_neg (by omega), evp, if_neg (by omega), evp, if_neg (by omega), evp, if_neg (by omega), evp, if_neg (by omega), evp, if_neg (by omega), evp, if_neg (by omega), evp, if_neg (by omega)]; exact F.e5)
    · simp only [dfp]; exact F.defers
  · exact (by rw [evp, if_pos ⟨rfl, by (try simp only [szp]); omega⟩])
set_option maxHeartbeats 2000000 in
theorem rg_h3 {T0 T1 T2 T3 T4 T5 T6 T7 T8 : TypeId} {p0 p1 p2 p3 p4 p5 p6 p7 p8 : String} {f0 f1 f2 f3 f4 f5 f6 f7 f8} {y0 : TypeId} {x0 d0 : Nat} {fs0 : Array Field} (hu0 : Try.prog.underlying y0 = some (.struct fs0)) (m0 : Nat) (hf0 : (fs0[x0]?).map (fun fl => (fl.offset, (Try.prog.info? fl.type).map (·.size))) = some (d0, some (m0 + 1))) {y1 : TypeId} {x1 d1 : Nat} {fs1 : Array Field} (hu1 : Try.prog.underlying y1 = some (.struct fs1)) (m1 : Nat) (hf1 : (fs1[x1]?).map (fun fl => (fl.offset, (Try.prog.info? fl.type).map (·.size))) = some (d1, some (m1 + 1))) {y2 : TypeId} {x2 d2 : Nat} {fs2 : Array Field} (hu2 : Try.prog.underlying y2 = some (.struct fs2)) (m2 : Nat) (hf2 : (fs2[x2]?).map (fun fl => (fl.offset, (Try.prog.info? fl.type).map (·.size))) = some (d2, some (m2 + 1))) (F : Fr N (.slice (some ⟨g, 0, none⟩) n cap) (.int .i64 z) (.int .i64 k) a) (hs : s + 9 ≤ N) (hs0 : 6 ≤ s) (hk : k < n) (hn : n ≤ 2097152) (hC : ∀ j, j < 61 → u.cell? ⟨g, o + j, none⟩ = some (mkV B j)) (hq : k * 64 + d0 + d1 + d2 = o + j) (hj : j < 61) (hv : Value.int .i64 z = mkV B j)
    (h : ∀ a', Fr N (.slice (some ⟨g, 0, none⟩) n cap) (.int .i64 z) (.int .i64 k) a' → a'.eval (.tmp (s + 8)) = .bool false → Q .normal a' u) :
    (Code.region id #[⟨some (s), .move (.tmp 0), T0, p0, f0, none⟩, ⟨some (s + 1), .move (.tmp 5), T1, p1, f1, none⟩, ⟨some (s + 2), .indexAddr 24 (.tmp s) (.tmp (s + 1)), T2, p2, f2, none⟩, ⟨some (s + 3), .fieldAddr y0 (.tmp (s + 2)) x0, T3, p3, f3, none⟩, ⟨some (s + 4), .fieldAddr y1 (.tmp (s + 3)) x1, T4, p4, f4, none⟩, ⟨some (s + 5), .fieldAddr y2 (.tmp (s + 4)) x2, T5, p5, f5, none⟩, ⟨some (s + 6), .load 3 (.tmp (s + 5)), T6, p6, f6, none⟩, ⟨some (s + 7), .move (.tmp 1), T7, p7, f7, none⟩, ⟨some (s + 8), .binOp .neq 3 (.tmp (s + 6)) (.tmp (s + 7)) 3, T8, p8, f8, none⟩] false).wp Try.prog Q a u := by
  have hc : u.cell? ⟨g, k * 64 + d0 + d1 + d2, none⟩ = some (Value.int .i64 z) := by rw [hq, hC j hj, ← hv]
  refine wp_region_list ?_
  have hN := F.size
  refine s_move (v := .slice (some ⟨g, 0, none⟩) n cap) F.e0 ?_
  refine s_move (v := .int .i64 k) (by rw [evp, if_neg (by omega)]; exact F.e5) ?_
  refine s_index (g := g) (n := n) (c := cap) (k := k) (by rw [evp, if_neg (by omega), evp, if_pos ⟨rfl, by (try simp only [szp]); omega⟩]) (by rw [evp, if_pos ⟨rfl, by (try simp only [szp]); omega⟩]) hk hn ?_
  refine s_field (g := g) (o := k * 64) (d := d0) (by rw [evp, if_pos ⟨rfl, by (try simp only [szp]); omega⟩]) hu0 m0 hf0 ?_
  refine s_field (g := g) (o := k * 64 + d0) (d := d1) (by rw [evp, if_pos ⟨rfl, by (try simp only [szp]); omega⟩]) hu1 m1 hf1 ?_
  refine s_field (g := g) (o := k * 64 + d0 + d1) (d := d2) (by rw [evp, if_pos ⟨rfl, by (try simp only [szp]); omega⟩]) hu2 m2 hf2 ?_
  refine s_loadN (v := .int .i64 z) (by rw [evp, if_pos ⟨rfl, by (try simp only [szp]); omega⟩]) hc ?_
  refine s_move (v := .int .i64 z) (by rw [evp, if_neg (by omega), evp, if_neg (by omega), evp, if_neg (by omega), evp, if_neg (by omega), evp, if_neg (by omega), evp, if_neg (by omega), evp, if_neg (by omega)]; exact F.e1) ?_
  refine s_neqN (by rw [evp, if_neg (by omega), evp, if_pos ⟨rfl, by (try simp only [szp]); omega⟩]) (by rw [evp, if_pos ⟨rfl, by (try simp only [szp]); omega⟩]) ?_
  refine wpList_nil ?_
  refine h _ ?_ ?_
  · refine ⟨?_, ?_, ?_, ?_, ?_⟩
    · simp only [szp]; exact hN
    · exact (by rw [evp, if_neg (by omega), evp, if_neg (by omega), evp, if_neg (by omega), evp, if_neg (by omega), evp, if_neg (by omega), evp, if_neg (by omega), evp, if_neg (by omega), evp, if_neg (by omega), evp, if_neg (by omega)]; exact F.e0)
    · exact (by rw [evp, if_neg (by omega), evp, if_neg (by omega), evp, if_neg (by omega), evp, if_neg (by omega), evp, if_neg (by omega), evp, if_neg (by omega), evp, if_neg (by omega), evp, if_neg (by omega), evp, if_neg (by omega)]; exact F.e1)
    · exact (by rw [evp, if_neg (by omega), evp, if_neg (by omega), evp, if_neg (by omega), evp, if_neg (by omega), evp, if_neg (by omega), evp, if_neg (by omega), evp, if_neg (by omega), evp, if_neg (by omega), evp, if_neg (by omega)]; exact F.e5)
    · simp only [dfp]; exact F.defers
  · exact (by rw [evp, if_pos ⟨rfl, by (try simp only [szp]); omega⟩])
set_option maxHeartbeats 2000000 in
theorem rg_h4 {T0 T1 T2 T3 T4 T5 T6 T7 T8 T9 : TypeId} {p0 p1 p2 p3 p4 p5 p6 p7 p8 p9 : String} {f0 f1 f2 f3 f4 f5 f6 f7 f8 f9} {y0 : TypeId} {x0 d0 : Nat} {fs0 : Array Field} (hu0 : Try.prog.underlying y0 = some (.struct fs0)) (m0 : Nat) (hf0 : (fs0[x0]?).map (fun fl => (fl.offset, (Try.prog.info? fl.type).map (·.size))) = some (d0, some (m0 + 1))) {y1 : TypeId} {x1 d1 : Nat} {fs1 : Array Field} (hu1 : Try.prog.underlying y1 = some (.struct fs1)) (m1 : Nat) (hf1 : (fs1[x1]?).map (fun fl => (fl.offset, (Try.prog.info? fl.type).map (·.size))) = some (d1, some (m1 + 1))) {y2 : TypeId} {x2 d2 : Nat} {fs2 : Array Field} (hu2 : Try.prog.underlying y2 = some (.struct fs2)) (m2 : Nat) (hf2 : (fs2[x2]?).map (fun fl => (fl.offset, (Try.prog.info? fl.type).map (·.size))) = some (d2, some (m2 + 1))) {y3 : TypeId} {x3 d3 : Nat} {fs3 : Array Field} (hu3 : Try.prog.underlying y3 = some (.struct fs3)) (m3 : Nat) (hf3 : (fs3[x3]?).map (fun fl => (fl.offset, (Try.prog.info? fl.type).map (·.size))) = some (d3, some (m3 + 1))) (F : Fr N (.slice (some ⟨g, 0, none⟩) n cap) (.int .i64 z) (.int .i64 k) a) (hs : s + 10 ≤ N) (hs0 : 6 ≤ s) (hk : k < n) (hn : n ≤ 2097152) (hC : ∀ j, j < 61 → u.cell? ⟨g, o + j, none⟩ = some (mkV B j)) (hq : k * 64 + d0 + d1 + d2 + d3 = o + j) (hj : j < 61) (hv : Value.int .i64 z = mkV B j)
    (h : ∀ a', Fr N (.slice (some ⟨g, 0, none⟩) n cap) (.int .i64 z) (.int .i64 k) a' → a'.eval (.tmp (s + 9)) = .bool false → Q .normal a' u) :
    (Code.region id #[⟨some (s), .move (.tmp 0), T0, p0, f0, none⟩, ⟨some (s + 1), .move (.tmp 5), T1, p1, f1, none⟩, ⟨some (s + 2), .indexAddr 24 (.tmp s) (.tmp (s + 1)), T2, p2, f2, none⟩, ⟨some (s + 3), .fieldAddr y0 (.tmp (s + 2)) x0, T3, p3, f3, none⟩, ⟨some (s + 4), .fieldAddr y1 (.tmp (s + 3)) x1, T4, p4, f4, none⟩, ⟨some (s + 5), .fieldAddr y2 (.tmp (s + 4)) x2, T5, p5, f5, none⟩, ⟨some (s + 6), .fieldAddr y3 (.tmp (s + 5)) x3, T6, p6, f6, none⟩, ⟨some (s + 7), .load 3 (.tmp (s + 6)), T7, p7, f7, none⟩, ⟨some (s + 8), .move (.tmp 1), T8, p8, f8, none⟩, ⟨some (s + 9), .binOp .neq 3 (.tmp (s + 7)) (.tmp (s + 8)) 3, T9, p9, f9, none⟩] false).wp Try.prog Q a u := by
  have hc : u.cell? ⟨g, k * 64 + d0 + d1 + d2 + d3, none⟩ = some (Value.int .i64 z) := by rw [hq, hC j hj, ← hv]
  refine wp_region_list ?_
  have hN := F.size
  refine s_move (v := .slice (some ⟨g, 0, none⟩) n cap) F.e0 ?_
  refine s_move (v := .int .i64 k) (by rw [evp, if_neg (by omega)]; exact F.e5) ?_
  refine s_index (g := g) (n := n) (c := cap) (k := k) (by rw [evp, if_neg (by omega), evp, if_pos ⟨rfl, by (try simp only [szp]); omega⟩]) (by rw [evp, if_pos ⟨rfl, by (try simp only [szp]); omega⟩]) hk hn ?_
  refine s_field (g := g) (o := k * 64) (d := d0) (by rw [evp, if_pos ⟨rfl, by (try simp only [szp]); omega⟩]) hu0 m0 hf0 ?_
  refine s_field (g := g) (o := k * 64 + d0) (d := d1) (by rw [evp, if_pos ⟨rfl, by (try simp only [szp]); omega⟩]) hu1 m1 hf1 ?_
  refine s_field (g := g) (o := k * 64 + d0 + d1) (d := d2) (by rw [evp, if_pos ⟨rfl, by (try simp only [szp]); omega⟩]) hu2 m2 hf2 ?_
  refine s_field (g := g) (o := k * 64 + d0 + d1 + d2) (d := d3) (by rw [evp, if_pos ⟨rfl, by (try simp only [szp]); omega⟩]) hu3 m3 hf3 ?_
  refine s_loadN (v := .int .i64 z) (by rw [evp, if_pos ⟨rfl, by (try simp only [szp]); omega⟩]) hc ?_
  refine s_move (v := .int .i64 z) (by rw [evp, if_neg (by omega), evp, if_neg (by omega), evp, if_neg (by omega), evp, if_neg (by omega), evp, if_neg (by omega), evp, if_neg (by omega), evp, if_neg (by omega), evp, if_neg (by omega)]; exact F.e1) ?_
  refine s_neqN (by rw [evp, if_neg (by omega), evp, if_pos ⟨rfl, by (try simp only [szp]); omega⟩]) (by rw [evp, if_pos ⟨rfl, by (try simp only [szp]); omega⟩]) ?_
  refine wpList_nil ?_
  refine h _ ?_ ?_
  · refine ⟨?_, ?_, ?_, ?_, ?_⟩
    · simp only [szp]; exact hN
    · exact (by rw [evp, if_neg (by omega), evp, if_neg (by omega), evp, if_neg (by omega), evp, if_neg (by omega), evp, if_neg (by omega), evp, if_neg (by omega), evp, if_neg (by omega), evp, if_neg (by omega), evp, if_neg (by omega), evp, if_neg (by omega)]; exact F.e0)
    · exact (by rw [evp, if_neg (by omega), evp, if_neg (by omega), evp, if_neg (by omega), evp, if_neg (by omega), evp, if_neg (by omega), evp, if_neg (by omega), evp, if_neg (by omega), evp, if_neg (by omega), evp, if_neg (by omega), evp, if_neg (by omega)]; exact F.e1)
    · exact (by rw [evp, if_neg (by omega), evp, if_neg (by omega), evp, if_neg (by omega), evp, if_neg (by omega), evp, if_neg (by omega), evp, if_neg (by omega), evp, if_neg (by omega), evp, if_neg (by omega), evp, if_neg (by omega), evp, if_neg (by omega)]; exact F.e5)
    · simp only [dfp]; exact F.defers
  · exact (by rw [evp, if_pos ⟨rfl, by (try simp only [szp]); omega⟩])
set_option maxHeartbeats 2000000 in
theorem rg_hb1 {T0 T1 T2 T3 T4 T5 T6 T7 T8 : TypeId} {p0 p1 p2 p3 p4 p5 p6 p7 p8 : String} {f0 f1 f2 f3 f4 f5 f6 f7 f8} {y0 : TypeId} {x0 d0 : Nat} {fs0 : Array Field} (hu0 : Try.prog.underlying y0 = some (.struct fs0)) (m0 : Nat) (hf0 : (fs0[x0]?).map (fun fl => (fl.offset, (Try.prog.info? fl.type).map (·.size))) = some (d0, some (m0 + 1))) (F : Fr N (.slice (some ⟨g, 0, none⟩) n cap) (.int .i64 z) (.int .i64 k) a) (h0 : 0 ≤ z) (h1 : z ≤ 4611686018427387904) (hs : s + 9 ≤ N) (hs0 : 6 ≤ s) (hk : k < n) (hn : n ≤ 2097152) (hC : ∀ j, j < 61 → u.cell? ⟨g, o + j, none⟩ = some (mkV B j)) (hq : k * 64 + d0 = o + j) (hj : j < 61) (hv : Value.bool (Int.tmod z 3 == 0) = mkV B j)
    (h : ∀ a', Fr N (.slice (some ⟨g, 0, none⟩) n cap) (.int .i64 z) (.int .i64 k) a' → a'.eval (.tmp (s + 8)) = .bool false → Q .normal a' u) :
    (Code.region id #[⟨some (s), .move (.tmp 0), T0, p0, f0, none⟩, ⟨some (s + 1), .move (.tmp 5), T1, p1, f1, none⟩, ⟨some (s + 2), .indexAddr 24 (.tmp s) (.tmp (s + 1)), T2, p2, f2, none⟩, ⟨some (s + 3), .fieldAddr y0 (.tmp (s + 2)) x0, T3, p3, f3, none⟩, ⟨some (s + 4), .load 4 (.tmp (s + 3)), T4, p4, f4, none⟩, ⟨some (s + 5), .move (.tmp 1), T5, p5, f5, none⟩, ⟨some (s + 6), .binOp .rem 3 (.tmp (s + 5)) (.const (.int .i64 3)) 3, T6, p6, f6, none⟩, ⟨some (s + 7), .binOp .eql 3 (.tmp (s + 6)) (.const (.int .i64 0)) 3, T7, p7, f7, none⟩, ⟨some (s + 8), .binOp .neq 4 (.tmp (s + 4)) (.tmp (s + 7)) 4, T8, p8, f8, none⟩] false).wp Try.prog Q a u := by
  have hc : u.cell? ⟨g, k * 64 + d0, none⟩ = some (Value.bool (Int.tmod z 3 == 0)) := by rw [hq, hC j hj, ← hv]
  refine wp_region_list ?_
  have hN := F.size
  refine s_move (v := .slice (some ⟨g, 0, none⟩) n cap) F.e0 ?_
  refine s_move (v := .int .i64 k) (by rw [evp, if_neg (by omega)]; exact F.e5) ?_
  refine s_index (g := g) (n := n) (c := cap) (k := k) (by rw [evp, if_neg (by omega), evp, if_pos ⟨rfl, by (try simp only [szp]); omega⟩]) (by rw [evp, if_pos ⟨rfl, by (try simp only [szp]); omega⟩]) hk hn ?_
  refine s_field (g := g) (o := k * 64) (d := d0) (by rw [evp, if_pos ⟨rfl, by (try simp only [szp]); omega⟩]) hu0 m0 hf0 ?_
  refine s_loadB (v := .bool (Int.tmod z 3 == 0)) (by rw [evp, if_pos ⟨rfl, by (try simp only [szp]); omega⟩]) hc ?_
  refine s_move (v := .int .i64 z) (by rw [evp, if_neg (by omega), evp, if_neg (by omega), evp, if_neg (by omega), evp, if_neg (by omega), evp, if_neg (by omega)]; exact F.e1) ?_
  refine s_rem3 (z := z) (by rw [evp, if_pos ⟨rfl, by (try simp only [szp]); omega⟩]) h0 h1 ?_
  refine s_eq0 (z := Int.tmod z 3) (by rw [evp, if_pos ⟨rfl, by (try simp only [szp]); omega⟩]) ?_
  refine s_neqB (by rw [evp, if_neg (by omega), evp, if_neg (by omega), evp, if_neg (by omega), evp, if_pos ⟨rfl, by (try simp only [szp]); omega⟩]) (by rw [evp, if_pos ⟨rfl, by (try simp only [szp]); omega⟩]) ?_
  refine wpList_nil ?_
  refine h _ ?_ ?_
  · refine ⟨?_, ?_, ?_, ?_, ?_⟩
    · simp only [szp]; exact hN
    · exact (by rw [evp, if_neg (by omega), evp, if_neg (by omega), evp, if_neg (by omega), evp, if_neg (by omega), evp, if_neg (by omega), evp, if_neg (by omega), evp, if_neg (by omega), evp, if_neg (by omega), evp, if_neg (by omega)]; exact F.e0)
    · exact (by rw [evp, if_neg (by omega), evp, if_neg (by omega), evp, if_neg (by omega), evp, if_neg (by omega), evp, if_neg (by omega), evp, if_neg (by omega), evp, if_neg (by omega), evp, if_neg (by omega), evp, if_neg (by omega)]; exact F.e1)
    · exact (by rw [evp, if_neg (by omega), evp, if_neg (by omega), evp, if_neg (by omega), evp, if_neg (by omega), evp, if_neg (by omega), evp, if_neg (by omega), evp, if_neg (by omega), evp, if_neg (by omega), evp, if_neg (by omega)]; exact F.e5)
    · simp only [dfp]; exact F.defers
  · exact (by rw [evp, if_pos ⟨rfl, by (try simp only [szp]); omega⟩])
set_option maxHeartbeats 2000000 in
theorem rg_hb2 {T0 T1 T2 T3 T4 T5 T6 T7 T8 T9 : TypeId} {p0 p1 p2 p3 p4 p5 p6 p7 p8 p9 : String} {f0 f1 f2 f3 f4 f5 f6 f7 f8 f9} {y0 : TypeId} {x0 d0 : Nat} {fs0 : Array Field} (hu0 : Try.prog.underlying y0 = some (.struct fs0)) (m0 : Nat) (hf0 : (fs0[x0]?).map (fun fl => (fl.offset, (Try.prog.info? fl.type).map (·.size))) = some (d0, some (m0 + 1))) {y1 : TypeId} {x1 d1 : Nat} {fs1 : Array Field} (hu1 : Try.prog.underlying y1 = some (.struct fs1)) (m1 : Nat) (hf1 : (fs1[x1]?).map (fun fl => (fl.offset, (Try.prog.info? fl.type).map (·.size))) = some (d1, some (m1 + 1))) (F : Fr N (.slice (some ⟨g, 0, none⟩) n cap) (.int .i64 z) (.int .i64 k) a) (h0 : 0 ≤ z) (h1 : z ≤ 4611686018427387904) (hs : s + 10 ≤ N) (hs0 : 6 ≤ s) (hk : k < n) (hn : n ≤ 2097152) (hC : ∀ j, j < 61 → u.cell? ⟨g, o + j, none⟩ = some (mkV B j)) (hq : k * 64 + d0 + d1 = o + j) (hj : j < 61) (hv : Value.bool (Int.tmod z 3 == 0) = mkV B j)
    (h : ∀ a', Fr N (.slice (some ⟨g, 0, none⟩) n cap) (.int .i64 z) (.int .i64 k) a' → a'.eval (.tmp (s + 9)) = .bool false → Q .normal a' u) :
    (Code.region id #[⟨some (s), .move (.tmp 0), T0, p0, f0, none⟩, ⟨some (s + 1), .move (.tmp 5), T1, p1, f1, none⟩, ⟨some (s + 2), .indexAddr 24 (.tmp s) (.tmp (s + 1)), T2, p2, f2, none⟩, ⟨some (s + 3), .fieldAddr y0 (.tmp (s + 2)) x0, T3, p3, f3, none⟩, ⟨some (s + 4), .fieldAddr y1 (.tmp (s + 3)) x1, T4, p4, f4, none⟩, ⟨some (s + 5), .load 4 (.tmp (s + 4)), T5, p5, f5, none⟩, ⟨some (s + 6), .move (.tmp 1), T6, p6, f6, none⟩, ⟨some (s + 7), .binOp .rem 3 (.tmp (s + 6)) (.const (.int .i64 3)) 3, T7, p7, f7, none⟩, ⟨some (s + 8), .binOp .eql 3 (.tmp (s + 7)) (.const (.int .i64 0)) 3, T8, p8, f8, none⟩, ⟨some (s + 9), .binOp .neq 4 (.tmp (s + 5)) (.tmp (s + 8)) 4, T9, p9, f9, none⟩] false).wp Try.prog Q a u := by
  have hc : u.cell? ⟨g, k * 64 + d0 + d1, none⟩ = some (Value.bool (Int.tmod z 3 == 0)) := by rw [hq, hC j hj, ← hv]
  refine wp_region_list ?_
  have hN := F.size
  refine s_move (v := .slice (some ⟨g, 0, none⟩) n cap) F.e0 ?_
  refine s_move (v := .int .i64 k) (by rw [evp, if_neg (by omega)]; exact F.e5) ?_
  refine s_index (g := g) (n := n) (c := cap) (k := k) (by rw [evp, if_neg (by omega), evp, if_pos ⟨rfl, by (try simp only [szp]); omega⟩]) (by rw [evp, if_pos ⟨rfl, by (try simp only [szp]); omega⟩]) hk hn ?_
  refine s_field (g := g) (o := k * 64) (d := d0) (by rw [evp, if_pos ⟨rfl, by (try simp only [szp]); omega⟩]) hu0 m0 hf0 ?_
  refine s_field (g := g) (o := k * 64 + d0) (d := d1) (by rw [evp, if_pos ⟨rfl, by (try simp only [szp]); omega⟩]) hu1 m1 hf1 ?_
  refine s_loadB (v := .bool (Int.tmod z 3 == 0)) (by rw [evp, if_pos ⟨rfl, by (try simp only [szp]); omega⟩]) hc ?_
  refine s_move (v := .int .i64 z) (by rw [evp, if_neg (by omega), evp, if_neg (by omega), evp, if_neg (by omega), evp, if_neg (by omega), evp, if_neg (by omega), evp, if_neg (by omega)]; exact F.e1) ?_
  refine s_rem3 (z := z) (by rw [evp, if_pos ⟨rfl, by (try simp only [szp]); omega⟩]) h0 h1 ?_
  refine s_eq0 (z := Int.tmod z 3) (by rw [evp, if_pos ⟨rfl, by (try simp only [szp]); omega⟩]) ?_
  refine s_neqB (by rw [evp, if_neg (by omega), evp, if_neg (by omega), evp, if_neg (by omega), evp, if_pos ⟨rfl, by (try simp only [szp]); omega⟩]) (by rw [evp, if_pos ⟨rfl, by (try simp only [szp]); omega⟩]) ?_
  refine wpList_nil ?_
  refine h _ ?_ ?_
  · refine ⟨?_, ?_, ?_, ?_, ?_⟩
    · simp only [szp]; exact hN
    · exact (by rw [evp, if_neg (by omega), evp, if_neg (by omega), evp, if_neg (by omega), evp, if_neg (by omega), evp, if_neg (by omega), evp, if_neg (by omega), evp, if_neg (by omega), evp, if_neg (by omega), evp, if_neg (by omega), evp, if_neg (by omega)]; exact F.e0)
    · exact (by rw [evp, if_neg (by omega), evp, if_neg (by omega), evp, if_neg (by omega), evp, if_neg (by omega), evp, if_neg (by omega), evp, if_neg (by omega), evp, if_neg (by omega), evp, if_neg (by omega), evp, if_neg (by omega), evp, if_neg (by omega)]; exact F.e1)
    · exact (by rw [evp, if_neg (by omega), evp, if_neg (by omega), evp, if_neg (by omega), evp, if_neg (by omega), evp, if_neg (by omega), evp, if_neg (by omega), evp, if_neg (by omega), evp, if_neg (by omega), evp, if_neg (by omega), evp, if_neg (by omega)]; exact F.e5)
    · simp only [dfp]; exact F.defers
  · exact (by rw [evp, if_pos ⟨rfl, by (try simp only [szp]); omega⟩])
/-- The parent's number. -/
theorem rg_hup {T0 T1 T2 T3 T4 T5 T6 : TypeId} {p0 p1 p2 p3 p4 p5 p6 : String} {f0 f1 f2 f3 f4 f5 f6} {y0 : TypeId} {x0 : Nat} {fs0 : Array Field} (hu0 : Try.prog.underlying y0 = some (.struct fs0)) (m0 : Nat) (hf0 : (fs0[x0]?).map (fun fl => (fl.offset, (Try.prog.info? fl.type).map (·.size))) = some (0, some (m0 + 1))) (F : Fr N (.slice (some ⟨g, 0, none⟩) n cap) (.int .i64 z) (.int .i64 k) a) (hs : s + 7 ≤ N) (hs0 : 6 ≤ s) (hk : k < n) (hn : n ≤ 2097152) (hc : u.cell? ⟨g, k * 64, none⟩ = some (.int .i64 z))
    (h : ∀ a', Fr N (.slice (some ⟨g, 0, none⟩) n cap) (.int .i64 z) (.int .i64 k) a' → a'.eval (.tmp (s + 6)) = .bool false → Q .normal a' u) :
    (Code.region id #[⟨some s, .move (.tmp 0), T0, p0, f0, none⟩, ⟨some (s + 1), .move (.tmp 5), T1, p1, f1, none⟩, ⟨some (s + 2), .indexAddr 24 (.tmp s) (.tmp (s + 1)), T2, p2, f2, none⟩, ⟨some (s + 3), .fieldAddr y0 (.tmp (s + 2)) x0, T3, p3, f3, none⟩, ⟨some (s + 4), .load 3 (.tmp (s + 3)), T4, p4, f4, none⟩, ⟨some (s + 5), .move (.tmp 1), T5, p5, f5, none⟩, ⟨some (s + 6), .binOp .neq 3 (.tmp (s + 4)) (.tmp (s + 5)) 3, T6, p6, f6, none⟩] false).wp Try.prog Q a u := by
  have hz : Value.int .i64 z = mkV z.toNat 0 ∨ True := Or.inr trivial
  refine wp_region_list ?_
  have hN := F.size
  refine s_move (v := .slice (some ⟨g, 0, none⟩) n cap) F.e0 ?_
  refine s_move (v := .int .i64 k) (by rw [evn _ _ _ _ (by omega)]; exact F.e5) ?_
  refine s_index (g := g) (n := n) (c := cap) (k := k) (by rw [evn _ _ _ _ (by omega), evs _ _ _ (by omega)]) (by rw [evs _ _ _ (by rw [szp]; omega)]) hk hn ?_
  refine s_field (g := g) (o := k * 64) (d := 0) (by rw [evs _ _ _ (by simp only [szp]; omega)]) hu0 m0 hf0 ?_
  refine s_loadN (p := ⟨g, k * 64, none⟩) (v := .int .i64 z) (by rw [evs _ _ _ (by simp only [szp]; omega)]; rfl) hc ?_
  refine s_move (v := .int .i64 z) (by rw [evn _ _ _ _ (by omega), evn _ _ _ _ (by omega), evn _ _ _ _ (by omega), evn _ _ _ _ (by omega), evn _ _ _ _ (by omega)]; exact F.e1) ?_
  refine s_neqN (z := z) (by rw [evn _ _ _ _ (by omega), evs _ _ _ (by simp only [szp]; omega)]) (by rw [evs _ _ _ (by simp only [szp]; omega)]) ?_
  refine wpList_nil ?_
  refine h _ ?_ ?_
  · refine ⟨?_, ?_, ?_, ?_, ?_⟩
    · simp only [szp]; exact hN
    · rw [evn _ _ _ _ (by omega), evn _ _ _ _ (by omega), evn _ _ _ _ (by omega), evn _ _ _ _ (by omega), evn _ _ _ _ (by omega), evn _ _ _ _ (by omega), evn _ _ _ _ (by omega)]; exact F.e0
    · rw [evn _ _ _ _ (by omega), evn _ _ _ _ (by omega), evn _ _ _ _ (by omega), evn _ _ _ _ (by omega), evn _ _ _ _ (by omega), evn _ _ _ _ (by omega), evn _ _ _ _ (by omega)]; exact F.e1
    · rw [evn _ _ _ _ (by omega), evn _ _ _ _ (by omega), evn _ _ _ _ (by omega), evn _ _ _ _ (by omega), evn _ _ _ _ (by omega), evn _ _ _ _ (by omega), evn _ _ _ _ (by omega)]; exact F.e5
    · simp only [dfp]; exact F.defers
  · rw [evs _ _ _ (by simp only [szp]; omega)]
end
def MnH (g cap K : Nat) (ms0 : List ND) (w : World) (a : Act) (wr : World) : Prop :=
  ∃ k : Nat, k ≤ ms0.length ∧ Fr 726 (.slice (some ⟨g, 0, none⟩) ms0.length cap) (.int .i64 (nxL K (ms0.take k) : Nat)) (.int .i64 k) a ∧ w = wr
set_option maxHeartbeats 16000000 in
theorem heldns_any (lo g cap K : Nat) (ms0 : List ND) (w : World) (h : OwnN lo (.slice (some ⟨g, 0, none⟩) ms0.length cap) (mkL K ms0) w) (hsz : szS (ms0.map ND.n) ≤ 2097152) (hK : K ≤ 1) :
    Calls Try.prog 84 #[.slice (some ⟨g, 0, none⟩) ms0.length cap, .int .i64 K] w fun e w' => e = .returned (.int .i64 (nxL K ms0 : Nat)) ∧ w' = w := by
  have HSZ := Lib.hid hsz
  have HH := Lib.hid h
  have hnl : ms0.length ≤ 2097152 := by unfold szS at hsz; simp at hsz; omega
  clear h hsz
  go_enter Try.func84, Try.ntmps84
  go_wp2_with (fail)
  refine wp_loop (MnH g cap K ms0 w) (fun a _ => ms0.length - (intOf (a.eval (.tmp 5))).toNat) ?h0 ?round
  case h0 => exact ⟨0, Nat.zero_le _, ⟨rfl, rfl, rfl, rfl, rfl⟩, rfl⟩
  case round =>
    intro a0 wr hI
    obtain ⟨k, hk, F0, hw⟩ := hI
    subst hw
    have F := F0
    repeat refine wp_seq ?_
    refine rg_cond (s := 6) (N := 726) F (by decide) (by decide) ?_
    intro a F hcond
    refine then_n ?_
    by_cases hlt : k < ms0.length
    · refine wp_cond (t := true) (by rw [hcond, decide_eq_true (by omega)]) ?_
      refine wp_skip ?_
      refine then_n ?_
      repeat refine wp_seq ?_
      refine wp_block ?_
      · skip
        have hnx : nxL K (ms0.take (k + 1)) = nxN (nxL K (ms0.take k)) ms0[k].n := by rw [List.take_succ_eq_append_getElem hlt, (mkL_snoc K (ms0.take k) ms0[k]).2]
        have hq1 := nxL_le K (ms0.take k)
        have hq2 : szS ((ms0.take k).map ND.n) ≤ 2097152 := by
          have h1 := HSZ.out
          unfold szS at h1 ⊢
          simp only [List.length_map, List.length_take] at h1 ⊢
          have h2 := szL_take_le (ms0.map ND.n) k
          rw [List.map_take]
          omega
        have hszk : szK ms0[k].n ≤ 2097152 := by
          have h1 := szK_le (ns := ms0.map ND.n) (i := k) (by simpa using hlt)
          have h2 := HSZ.out
          unfold szS at h2
          simp at h1
          omega
        have hat := mkL_at K ms0 k ms0[k] (List.getElem?_eq_getElem hlt)
        have hml := mkL_len K ms0
        have hown := (HH.out.2.1 _ (List.mem_of_getElem? hat)).1
        have hrow : w.ownsRow lo 61 64 (.slice (some ⟨g, 0, none⟩) ms0.length cap) ms0.length (cellsN (mkL K ms0)) := by
          have hr := HH.out.1
          rw [mkL_len] at hr
          exact hr
        have hc := fun j (hj : j < 64) => cellsN_at (mkL K ms0) k j hj
        rw [hat] at hc
        have HNX := Lib.hid hnx
        generalize ms0[k] = m at *
        generalize nxL K (ms0.take k) = KK at *
        have hKK : KK ≤ 4000000000 := by omega
        have hkl : m.n.kids.length ≤ 2097152 := by unfold szK at hszk; omega
        have htl : m.n.rl ≤ 2097152 := by unfold szK at hszk; omega
        have hcl := cellsN_len (mkL K ms0)
        obtain ⟨B, eB⟩ : ∃ B : Nat, B = KK + 1 + m.n.kids.length := ⟨_, rfl⟩
        have hBi : ((KK : Int) + 1 + (m.n.kids.length : Int)) = ((B + 0 : Nat) : Int) := by omega
        have hBb : B ≤ 4100000000 := by omega
        have hcell : ∀ j, j < 64 → w.cell? ⟨g, k * 64 + j, none⟩ = (mkM KK m).cells[j]? := fun j hj => by
          rw [World.ownsRow.cellAt hrow (k * 64 + j) (by omega), hc j hj]
          rfl
        have c0 : w.cell? ⟨g, k * 64, none⟩ = some (.int .i64 (KK : Int)) := by
          have := hcell 0 (by omega)
          rw [mkM_cells] at this
          exact this
        have ck : w.cell? ⟨g, k * 64 + 1, none⟩ = some m.kv := by
          have := hcell 1 (by omega)
          rw [mkM_cells] at this
          exact this
        have ct : w.cell? ⟨g, k * 64 + 63, none⟩ = some m.tv := by
          have := hcell 63 (by omega)
          rw [mkM_cells] at this
          exact this
        have hC : ∀ j, j < 61 → w.cell? ⟨g, (k * 64 + 2) + j, none⟩ = some (mkV B j) := fun j hj => by
          have := hcell (2 + j) (by omega)
          rw [mkM_cells, show 2 + j = j + 1 + 1 by omega, List.getElem?_cons_succ, List.getElem?_cons_succ, List.getElem?_append_left (by simp; omega), List.getElem?_map, List.getElem?_range (by omega), ← eB] at this
          rw [show k * 64 + 2 + j = k * 64 + (j + 1 + 1) by omega]
          exact this
        have hkr : KRow lo m.kv (mksI (KK + 1) m.n.kids.length) w := hown.2.1
        have htr : TRow lo m.tv m.n.rl (mksI (B + 61) (m.n.rl * 3)) w := by rw [eB]; exact hown.2.2
        clear hown hrow hc hcell hnx hszk hq1 hq2 hat
        repeat refine wp_seq ?_
        refine rg_hup (s := 12) (N := 726) nd_under 0 (by kernel_rfl) F (by decide) (by decide) hlt hnl c0 ?_
        intro a F he
        refine then_n ?_
        refine wp_cond (t := false) he ?_
        refine wp_skip ?_
        refine then_n ?_
        repeat refine wp_seq ?_
        refine rg_inc (s := 19) (N := 726) F (by omega) (by omega) (by decide) (by decide) ?_
        intro a F
        refine then_n ?_
        repeat refine wp_seq ?_
        refine rg_kids (s := 21) (N := 726) (R := fun r w' => r = .int .i64 ((KK : Int) + 1 + (m.n.kids.length : Int)) ∧ w' = w) (fun _ _ => by kernel_rfl) nd_under 0 (by kernel_rfl) F (by decide) (by decide) hlt hnl ck ?_ ?_
        · exact (heldK lo (KK + 1) ((KK : Int) + 1) m.kv m.n.kids.length w hkl (by omega) (by omega) hkr).mono fun e w' ⟨he, h1⟩ => ⟨_, he, rfl, h1⟩
        intro a r w2 ⟨hr, hw⟩ F
        subst hr
        subst hw
        refine then_n ?_
        repeat refine wp_seq ?_
        refine rg_neg (s := 28) (N := 726) F (by omega) (by decide) (by decide) ?_
        intro a F he
        refine then_n ?_
        refine wp_cond (t := false) he ?_
        refine wp_skip ?_
        rw [hBi] at F
        refine then_n ?_
        repeat refine wp_seq ?_
        refine rg_h2 (s := 30) (N := 726) (j := 0) (d0 := 2) (d1 := 0) nd_under 59 (by kernel_rfl) sty_under 0 (by kernel_rfl) F (by decide) (by decide) hlt hnl hC (by omega) (by omega) (mkV_i B 0 (by decide)) ?_
        intro a F he
        refine then_n ?_
        refine wp_cond (t := false) he ?_
        refine wp_skip ?_
        refine then_n ?_
        repeat refine wp_seq ?_
        refine rg_inc (s := 38) (N := 726) F (by omega) (by omega) (by decide) (by decide) ?_
        intro a F
        rw [show ((B + 0 : Nat) : Int) + 1 = ((B + 1 : Nat) : Int) by omega] at F
        refine then_n ?_
        repeat refine wp_seq ?_
        refine rg_h2 (s := 40) (N := 726) (j := 1) (d0 := 2) (d1 := 1) nd_under 59 (by kernel_rfl) sty_under 0 (by kernel_rfl) F (by decide) (by decide) hlt hnl hC (by omega) (by omega) (mkV_i B 1 (by decide)) ?_
        intro a F he
        refine then_n ?_
        refine wp_cond (t := false) he ?_
        refine wp_skip ?_
        refine then_n ?_
        repeat refine wp_seq ?_
        refine rg_inc (s := 48) (N := 726) F (by omega) (by omega) (by decide) (by decide) ?_
        intro a F
        rw [show ((B + 1 : Nat) : Int) + 1 = ((B + 2 : Nat) : Int) by omega] at F
        refine then_n ?_
        repeat refine wp_seq ?_
        refine rg_h2 (s := 50) (N := 726) (j := 2) (d0 := 2) (d1 := 2) nd_under 59 (by kernel_rfl) sty_under 0 (by kernel_rfl) F (by decide) (by decide) hlt hnl hC (by omega) (by omega) (mkV_i B 2 (by decide)) ?_
        intro a F he
        refine then_n ?_
        refine wp_cond (t := false) he ?_
        refine wp_skip ?_
        refine then_n ?_
        repeat refine wp_seq ?_
        refine rg_inc (s := 58) (N := 726) F (by omega) (by omega) (by decide) (by decide) ?_
        intro a F
        rw [show ((B + 2 : Nat) : Int) + 1 = ((B + 3 : Nat) : Int) by omega] at F
        refine then_n ?_
        repeat refine wp_seq ?_
        refine rg_h2 (s := 60) (N := 726) (j := 3) (d0 := 2) (d1 := 3) nd_under 59 (by kernel_rfl) sty_under 0 (by kernel_rfl) F (by decide) (by decide) hlt hnl hC (by omega) (by omega) (mkV_i B 3 (by decide)) ?_
        intro a F he
        refine then_n ?_
        refine wp_cond (t := false) he ?_
        refine wp_skip ?_
        refine then_n ?_
        repeat refine wp_seq ?_
        refine rg_inc (s := 68) (N := 726) F (by omega) (by omega) (by decide) (by decide) ?_
        intro a F
        rw [show ((B + 3 : Nat) : Int) + 1 = ((B + 4 : Nat) : Int) by omega] at F
        refine then_n ?_
        repeat refine wp_seq ?_
        refine rg_h2 (s := 70) (N := 726) (j := 4) (d0 := 2) (d1 := 4) nd_under 59 (by kernel_rfl) sty_under 0 (by kernel_rfl) F (by decide) (by decide) hlt hnl hC (by omega) (by omega) (mkV_i B 4 (by decide)) ?_
        intro a F he
        refine then_n ?_
        refine wp_cond (t := false) he ?_
        refine wp_skip ?_
        refine then_n ?_
        repeat refine wp_seq ?_
        refine rg_inc (s := 78) (N := 726) F (by omega) (by omega) (by decide) (by decide) ?_
        intro a F
        rw [show ((B + 4 : Nat) : Int) + 1 = ((B + 5 : Nat) : Int) by omega] at F
        refine then_n ?_
        repeat refine wp_seq ?_
        refine rg_h2 (s := 80) (N := 726) (j := 5) (d0 := 2) (d1 := 5) nd_under 59 (by kernel_rfl) sty_under 0 (by kernel_rfl) F (by decide) (by decide) hlt hnl hC (by omega) (by omega) (mkV_i B 5 (by decide)) ?_
        intro a F he
        refine then_n ?_
        refine wp_cond (t := false) he ?_
        refine wp_skip ?_
        refine then_n ?_
        repeat refine wp_seq ?_
        refine rg_inc (s := 88) (N := 726) F (by omega) (by omega) (by decide) (by decide) ?_
        intro a F
        rw [show ((B + 5 : Nat) : Int) + 1 = ((B + 6 : Nat) : Int) by omega] at F
        refine then_n ?_
        repeat refine wp_seq ?_
        refine rg_hb2 (s := 90) (N := 726) (j := 6) (d0 := 2) (d1 := 6) nd_under 59 (by kernel_rfl) sty_under 0 (by kernel_rfl) F (by omega) (by omega) (by decide) (by decide) hlt hnl hC (by omega) (by omega) (mkV_b B 6 (by decide)) ?_
        intro a F he
        refine then_n ?_
        refine wp_cond (t := false) he ?_
        refine wp_skip ?_
        refine then_n ?_
        repeat refine wp_seq ?_
        refine rg_inc (s := 100) (N := 726) F (by omega) (by omega) (by decide) (by decide) ?_
        intro a F
        rw [show ((B + 6 : Nat) : Int) + 1 = ((B + 7 : Nat) : Int) by omega] at F
        refine then_n ?_
        repeat refine wp_seq ?_
        refine rg_hb2 (s := 102) (N := 726) (j := 7) (d0 := 2) (d1 := 7) nd_under 59 (by kernel_rfl) sty_under 0 (by kernel_rfl) F (by omega) (by omega) (by decide) (by decide) hlt hnl hC (by omega) (by omega) (mkV_b B 7 (by decide)) ?_
        intro a F he
        refine then_n ?_
        refine wp_cond (t := false) he ?_
        refine wp_skip ?_
        refine then_n ?_
        repeat refine wp_seq ?_
        refine rg_inc (s := 112) (N := 726) F (by omega) (by omega) (by decide) (by decide) ?_
        intro a F
        rw [show ((B + 7 : Nat) : Int) + 1 = ((B + 8 : Nat) : Int) by omega] at F
        refine then_n ?_
        repeat refine wp_seq ?_
        refine rg_h2 (s := 114) (N := 726) (j := 8) (d0 := 2) (d1 := 8) nd_under 59 (by kernel_rfl) sty_under 0 (by kernel_rfl) F (by decide) (by decide) hlt hnl hC (by omega) (by omega) (mkV_i B 8 (by decide)) ?_
        intro a F he
        refine then_n ?_
        refine wp_cond (t := false) he ?_
        refine wp_skip ?_
        refine then_n ?_
        repeat refine wp_seq ?_
        refine rg_inc (s := 122) (N := 726) F (by omega) (by omega) (by decide) (by decide) ?_
        intro a F
        rw [show ((B + 8 : Nat) : Int) + 1 = ((B + 9 : Nat) : Int) by omega] at F
        refine then_n ?_
        repeat refine wp_seq ?_
        refine rg_h2 (s := 124) (N := 726) (j := 9) (d0 := 2) (d1 := 9) nd_under 59 (by kernel_rfl) sty_under 0 (by kernel_rfl) F (by decide) (by decide) hlt hnl hC (by omega) (by omega) (mkV_i B 9 (by decide)) ?_
        intro a F he
        refine then_n ?_
        refine wp_cond (t := false) he ?_
        refine wp_skip ?_
        refine then_n ?_
        repeat refine wp_seq ?_
        refine rg_inc (s := 132) (N := 726) F (by omega) (by omega) (by decide) (by decide) ?_
        intro a F
        rw [show ((B + 9 : Nat) : Int) + 1 = ((B + 10 : Nat) : Int) by omega] at F
        refine then_n ?_
        repeat refine wp_seq ?_
        refine rg_h2 (s := 134) (N := 726) (j := 10) (d0 := 2) (d1 := 10) nd_under 59 (by kernel_rfl) sty_under 0 (by kernel_rfl) F (by decide) (by decide) hlt hnl hC (by omega) (by omega) (mkV_i B 10 (by decide)) ?_
        intro a F he
        refine then_n ?_
        refine wp_cond (t := false) he ?_
        refine wp_skip ?_
        refine then_n ?_
        repeat refine wp_seq ?_
        refine rg_inc (s := 142) (N := 726) F (by omega) (by omega) (by decide) (by decide) ?_
        intro a F
        rw [show ((B + 10 : Nat) : Int) + 1 = ((B + 11 : Nat) : Int) by omega] at F
        refine then_n ?_
        repeat refine wp_seq ?_
        refine rg_h3 (s := 144) (N := 726) (j := 11) (d0 := 2) (d1 := 11) (d2 := 0) nd_under 59 (by kernel_rfl) sty_under 1 (by kernel_rfl) HU35 0 (by kernel_rfl) F (by decide) (by decide) hlt hnl hC (by omega) (by omega) (mkV_i B 11 (by decide)) ?_
        intro a F he
        refine then_n ?_
        refine wp_cond (t := false) he ?_
        refine wp_skip ?_
        refine then_n ?_
        repeat refine wp_seq ?_
        refine rg_inc (s := 153) (N := 726) F (by omega) (by omega) (by decide) (by decide) ?_
        intro a F
        rw [show ((B + 11 : Nat) : Int) + 1 = ((B + 12 : Nat) : Int) by omega] at F
        refine then_n ?_
        repeat refine wp_seq ?_
        refine rg_h3 (s := 155) (N := 726) (j := 12) (d0 := 2) (d1 := 11) (d2 := 1) nd_under 59 (by kernel_rfl) sty_under 1 (by kernel_rfl) HU35 0 (by kernel_rfl) F (by decide) (by decide) hlt hnl hC (by omega) (by omega) (mkV_i B 12 (by decide)) ?_
        intro a F he
        refine then_n ?_
        refine wp_cond (t := false) he ?_
        refine wp_skip ?_
        refine then_n ?_
        repeat refine wp_seq ?_
        refine rg_inc (s := 164) (N := 726) F (by omega) (by omega) (by decide) (by decide) ?_
        intro a F
        rw [show ((B + 12 : Nat) : Int) + 1 = ((B + 13 : Nat) : Int) by omega] at F
        refine then_n ?_
        repeat refine wp_seq ?_
        refine rg_h3 (s := 166) (N := 726) (j := 13) (d0 := 2) (d1 := 13) (d2 := 0) nd_under 59 (by kernel_rfl) sty_under 1 (by kernel_rfl) HU35 0 (by kernel_rfl) F (by decide) (by decide) hlt hnl hC (by omega) (by omega) (mkV_i B 13 (by decide)) ?_
        intro a F he
        refine then_n ?_
        refine wp_cond (t := false) he ?_
        refine wp_skip ?_
        refine then_n ?_
        repeat refine wp_seq ?_
        refine rg_inc (s := 175) (N := 726) F (by omega) (by omega) (by decide) (by decide) ?_
        intro a F
        rw [show ((B + 13 : Nat) : Int) + 1 = ((B + 14 : Nat) : Int) by omega] at F
        refine then_n ?_
        repeat refine wp_seq ?_
        refine rg_h3 (s := 177) (N := 726) (j := 14) (d0 := 2) (d1 := 13) (d2 := 1) nd_under 59 (by kernel_rfl) sty_under 1 (by kernel_rfl) HU35 0 (by kernel_rfl) F (by decide) (by decide) hlt hnl hC (by omega) (by omega) (mkV_i B 14 (by decide)) ?_
        intro a F he
        refine then_n ?_
        refine wp_cond (t := false) he ?_
        refine wp_skip ?_
        refine then_n ?_
        repeat refine wp_seq ?_
        refine rg_inc (s := 186) (N := 726) F (by omega) (by omega) (by decide) (by decide) ?_
        intro a F
        rw [show ((B + 14 : Nat) : Int) + 1 = ((B + 15 : Nat) : Int) by omega] at F
        refine then_n ?_
        repeat refine wp_seq ?_
        refine rg_h3 (s := 188) (N := 726) (j := 15) (d0 := 2) (d1 := 15) (d2 := 0) nd_under 59 (by kernel_rfl) sty_under 1 (by kernel_rfl) HU35 0 (by kernel_rfl) F (by decide) (by decide) hlt hnl hC (by omega) (by omega) (mkV_i B 15 (by decide)) ?_
        intro a F he
        refine then_n ?_
        refine wp_cond (t := false) he ?_
        refine wp_skip ?_
        refine then_n ?_
        repeat refine wp_seq ?_
        refine rg_inc (s := 197) (N := 726) F (by omega) (by omega) (by decide) (by decide) ?_
        intro a F
        rw [show ((B + 15 : Nat) : Int) + 1 = ((B + 16 : Nat) : Int) by omega] at F
        refine then_n ?_
        repeat refine wp_seq ?_
        refine rg_h3 (s := 199) (N := 726) (j := 16) (d0 := 2) (d1 := 15) (d2 := 1) nd_under 59 (by kernel_rfl) sty_under 1 (by kernel_rfl) HU35 0 (by kernel_rfl) F (by decide) (by decide) hlt hnl hC (by omega) (by omega) (mkV_i B 16 (by decide)) ?_
        intro a F he
        refine then_n ?_
        refine wp_cond (t := false) he ?_
        refine wp_skip ?_
        refine then_n ?_
        repeat refine wp_seq ?_
        refine rg_inc (s := 208) (N := 726) F (by omega) (by omega) (by decide) (by decide) ?_
        intro a F
        rw [show ((B + 16 : Nat) : Int) + 1 = ((B + 17 : Nat) : Int) by omega] at F
        refine then_n ?_
        repeat refine wp_seq ?_
        refine rg_h3 (s := 210) (N := 726) (j := 17) (d0 := 2) (d1 := 17) (d2 := 0) nd_under 59 (by kernel_rfl) sty_under 1 (by kernel_rfl) HU35 0 (by kernel_rfl) F (by decide) (by decide) hlt hnl hC (by omega) (by omega) (mkV_i B 17 (by decide)) ?_
        intro a F he
        refine then_n ?_
        refine wp_cond (t := false) he ?_
        refine wp_skip ?_
        refine then_n ?_
        repeat refine wp_seq ?_
        refine rg_inc (s := 219) (N := 726) F (by omega) (by omega) (by decide) (by decide) ?_
        intro a F
        rw [show ((B + 17 : Nat) : Int) + 1 = ((B + 18 : Nat) : Int) by omega] at F
        refine then_n ?_
        repeat refine wp_seq ?_
        refine rg_h3 (s := 221) (N := 726) (j := 18) (d0 := 2) (d1 := 17) (d2 := 1) nd_under 59 (by kernel_rfl) sty_under 1 (by kernel_rfl) HU35 0 (by kernel_rfl) F (by decide) (by decide) hlt hnl hC (by omega) (by omega) (mkV_i B 18 (by decide)) ?_
        intro a F he
        refine then_n ?_
        refine wp_cond (t := false) he ?_
        refine wp_skip ?_
        refine then_n ?_
        repeat refine wp_seq ?_
        refine rg_inc (s := 230) (N := 726) F (by omega) (by omega) (by decide) (by decide) ?_
        intro a F
        rw [show ((B + 18 : Nat) : Int) + 1 = ((B + 19 : Nat) : Int) by omega] at F
        refine then_n ?_
        repeat refine wp_seq ?_
        refine rg_h3 (s := 232) (N := 726) (j := 19) (d0 := 2) (d1 := 19) (d2 := 0) nd_under 59 (by kernel_rfl) sty_under 1 (by kernel_rfl) HU35 0 (by kernel_rfl) F (by decide) (by decide) hlt hnl hC (by omega) (by omega) (mkV_i B 19 (by decide)) ?_
        intro a F he
        refine then_n ?_
        refine wp_cond (t := false) he ?_
        refine wp_skip ?_
        refine then_n ?_
        repeat refine wp_seq ?_
        refine rg_inc (s := 241) (N := 726) F (by omega) (by omega) (by decide) (by decide) ?_
        intro a F
        rw [show ((B + 19 : Nat) : Int) + 1 = ((B + 20 : Nat) : Int) by omega] at F
        refine then_n ?_
        repeat refine wp_seq ?_
        refine rg_h3 (s := 243) (N := 726) (j := 20) (d0 := 2) (d1 := 19) (d2 := 1) nd_under 59 (by kernel_rfl) sty_under 1 (by kernel_rfl) HU35 0 (by kernel_rfl) F (by decide) (by decide) hlt hnl hC (by omega) (by omega) (mkV_i B 20 (by decide)) ?_
        intro a F he
        refine then_n ?_
        refine wp_cond (t := false) he ?_
        refine wp_skip ?_
        refine then_n ?_
        repeat refine wp_seq ?_
        refine rg_inc (s := 252) (N := 726) F (by omega) (by omega) (by decide) (by decide) ?_
        intro a F
        rw [show ((B + 20 : Nat) : Int) + 1 = ((B + 21 : Nat) : Int) by omega] at F
        refine then_n ?_
        repeat refine wp_seq ?_
        refine rg_h3 (s := 254) (N := 726) (j := 21) (d0 := 2) (d1 := 21) (d2 := 0) nd_under 59 (by kernel_rfl) sty_under 1 (by kernel_rfl) HU35 0 (by kernel_rfl) F (by decide) (by decide) hlt hnl hC (by omega) (by omega) (mkV_i B 21 (by decide)) ?_
        intro a F he
        refine then_n ?_
        refine wp_cond (t := false) he ?_
        refine wp_skip ?_
        refine then_n ?_
        repeat refine wp_seq ?_
        refine rg_inc (s := 263) (N := 726) F (by omega) (by omega) (by decide) (by decide) ?_
        intro a F
        rw [show ((B + 21 : Nat) : Int) + 1 = ((B + 22 : Nat) : Int) by omega] at F
        refine then_n ?_
        repeat refine wp_seq ?_
        refine rg_h3 (s := 265) (N := 726) (j := 22) (d0 := 2) (d1 := 21) (d2 := 1) nd_under 59 (by kernel_rfl) sty_under 1 (by kernel_rfl) HU35 0 (by kernel_rfl) F (by decide) (by decide) hlt hnl hC (by omega) (by omega) (mkV_i B 22 (by decide)) ?_
        intro a F he
        refine then_n ?_
        refine wp_cond (t := false) he ?_
        refine wp_skip ?_
        refine then_n ?_
        repeat refine wp_seq ?_
        refine rg_inc (s := 274) (N := 726) F (by omega) (by omega) (by decide) (by decide) ?_
        intro a F
        rw [show ((B + 22 : Nat) : Int) + 1 = ((B + 23 : Nat) : Int) by omega] at F
        refine then_n ?_
        repeat refine wp_seq ?_
        refine rg_h3 (s := 276) (N := 726) (j := 23) (d0 := 2) (d1 := 23) (d2 := 0) nd_under 59 (by kernel_rfl) sty_under 1 (by kernel_rfl) HU35 0 (by kernel_rfl) F (by decide) (by decide) hlt hnl hC (by omega) (by omega) (mkV_i B 23 (by decide)) ?_
        intro a F he
        refine then_n ?_
        refine wp_cond (t := false) he ?_
        refine wp_skip ?_
        refine then_n ?_
        repeat refine wp_seq ?_
        refine rg_inc (s := 285) (N := 726) F (by omega) (by omega) (by decide) (by decide) ?_
        intro a F
        rw [show ((B + 23 : Nat) : Int) + 1 = ((B + 24 : Nat) : Int) by omega] at F
        refine then_n ?_
        repeat refine wp_seq ?_
        refine rg_h3 (s := 287) (N := 726) (j := 24) (d0 := 2) (d1 := 23) (d2 := 1) nd_under 59 (by kernel_rfl) sty_under 1 (by kernel_rfl) HU35 0 (by kernel_rfl) F (by decide) (by decide) hlt hnl hC (by omega) (by omega) (mkV_i B 24 (by decide)) ?_
        intro a F he
        refine then_n ?_
        refine wp_cond (t := false) he ?_
        refine wp_skip ?_
        refine then_n ?_
        repeat refine wp_seq ?_
        refine rg_inc (s := 296) (N := 726) F (by omega) (by omega) (by decide) (by decide) ?_
        intro a F
        rw [show ((B + 24 : Nat) : Int) + 1 = ((B + 25 : Nat) : Int) by omega] at F
        refine then_n ?_
        repeat refine wp_seq ?_
        refine rg_h2 (s := 298) (N := 726) (j := 25) (d0 := 2) (d1 := 25) nd_under 59 (by kernel_rfl) sty_under 0 (by kernel_rfl) F (by decide) (by decide) hlt hnl hC (by omega) (by omega) (mkV_i B 25 (by decide)) ?_
        intro a F he
        refine then_n ?_
        refine wp_cond (t := false) he ?_
        refine wp_skip ?_
        refine then_n ?_
        repeat refine wp_seq ?_
        refine rg_inc (s := 306) (N := 726) F (by omega) (by omega) (by decide) (by decide) ?_
        intro a F
        rw [show ((B + 25 : Nat) : Int) + 1 = ((B + 26 : Nat) : Int) by omega] at F
        refine then_n ?_
        repeat refine wp_seq ?_
        refine rg_h4 (s := 308) (N := 726) (j := 26) (d0 := 2) (d1 := 26) (d2 := 0) (d3 := 0) nd_under 59 (by kernel_rfl) sty_under 11 (by kernel_rfl) HU37 1 (by kernel_rfl) HU35 0 (by kernel_rfl) F (by decide) (by decide) hlt hnl hC (by omega) (by omega) (mkV_i B 26 (by decide)) ?_
        intro a F he
        refine then_n ?_
        refine wp_cond (t := false) he ?_
        refine wp_skip ?_
        refine then_n ?_
        repeat refine wp_seq ?_
        refine rg_inc (s := 318) (N := 726) F (by omega) (by omega) (by decide) (by decide) ?_
        intro a F
        rw [show ((B + 26 : Nat) : Int) + 1 = ((B + 27 : Nat) : Int) by omega] at F
        refine then_n ?_
        repeat refine wp_seq ?_
        refine rg_h4 (s := 320) (N := 726) (j := 27) (d0 := 2) (d1 := 26) (d2 := 0) (d3 := 1) nd_under 59 (by kernel_rfl) sty_under 11 (by kernel_rfl) HU37 1 (by kernel_rfl) HU35 0 (by kernel_rfl) F (by decide) (by decide) hlt hnl hC (by omega) (by omega) (mkV_i B 27 (by decide)) ?_
        intro a F he
        refine then_n ?_
        refine wp_cond (t := false) he ?_
        refine wp_skip ?_
        refine then_n ?_
        repeat refine wp_seq ?_
        refine rg_inc (s := 330) (N := 726) F (by omega) (by omega) (by decide) (by decide) ?_
        intro a F
        rw [show ((B + 27 : Nat) : Int) + 1 = ((B + 28 : Nat) : Int) by omega] at F
        refine then_n ?_
        repeat refine wp_seq ?_
        refine rg_h4 (s := 332) (N := 726) (j := 28) (d0 := 2) (d1 := 26) (d2 := 2) (d3 := 0) nd_under 59 (by kernel_rfl) sty_under 11 (by kernel_rfl) HU37 1 (by kernel_rfl) HU35 0 (by kernel_rfl) F (by decide) (by decide) hlt hnl hC (by omega) (by omega) (mkV_i B 28 (by decide)) ?_
        intro a F he
        refine then_n ?_
        refine wp_cond (t := false) he ?_
        refine wp_skip ?_
        refine then_n ?_
        repeat refine wp_seq ?_
        refine rg_inc (s := 342) (N := 726) F (by omega) (by omega) (by decide) (by decide) ?_
        intro a F
        rw [show ((B + 28 : Nat) : Int) + 1 = ((B + 29 : Nat) : Int) by omega] at F
        refine then_n ?_
        repeat refine wp_seq ?_
        refine rg_h4 (s := 344) (N := 726) (j := 29) (d0 := 2) (d1 := 26) (d2 := 2) (d3 := 1) nd_under 59 (by kernel_rfl) sty_under 11 (by kernel_rfl) HU37 1 (by kernel_rfl) HU35 0 (by kernel_rfl) F (by decide) (by decide) hlt hnl hC (by omega) (by omega) (mkV_i B 29 (by decide)) ?_
        intro a F he
        refine then_n ?_
        refine wp_cond (t := false) he ?_
        refine wp_skip ?_
        refine then_n ?_
        repeat refine wp_seq ?_
        refine rg_inc (s := 354) (N := 726) F (by omega) (by omega) (by decide) (by decide) ?_
        intro a F
        rw [show ((B + 29 : Nat) : Int) + 1 = ((B + 30 : Nat) : Int) by omega] at F
        refine then_n ?_
        repeat refine wp_seq ?_
        refine rg_h4 (s := 356) (N := 726) (j := 30) (d0 := 2) (d1 := 26) (d2 := 4) (d3 := 0) nd_under 59 (by kernel_rfl) sty_under 11 (by kernel_rfl) HU37 1 (by kernel_rfl) HU35 0 (by kernel_rfl) F (by decide) (by decide) hlt hnl hC (by omega) (by omega) (mkV_i B 30 (by decide)) ?_
        intro a F he
        refine then_n ?_
        refine wp_cond (t := false) he ?_
        refine wp_skip ?_
        refine then_n ?_
        repeat refine wp_seq ?_
        refine rg_inc (s := 366) (N := 726) F (by omega) (by omega) (by decide) (by decide) ?_
        intro a F
        rw [show ((B + 30 : Nat) : Int) + 1 = ((B + 31 : Nat) : Int) by omega] at F
        refine then_n ?_
        repeat refine wp_seq ?_
        refine rg_h4 (s := 368) (N := 726) (j := 31) (d0 := 2) (d1 := 26) (d2 := 4) (d3 := 1) nd_under 59 (by kernel_rfl) sty_under 11 (by kernel_rfl) HU37 1 (by kernel_rfl) HU35 0 (by kernel_rfl) F (by decide) (by decide) hlt hnl hC (by omega) (by omega) (mkV_i B 31 (by decide)) ?_
        intro a F he
        refine then_n ?_
        refine wp_cond (t := false) he ?_
        refine wp_skip ?_
        refine then_n ?_
        repeat refine wp_seq ?_
        refine rg_inc (s := 378) (N := 726) F (by omega) (by omega) (by decide) (by decide) ?_
        intro a F
        rw [show ((B + 31 : Nat) : Int) + 1 = ((B + 32 : Nat) : Int) by omega] at F
        refine then_n ?_
        repeat refine wp_seq ?_
        refine rg_h4 (s := 380) (N := 726) (j := 32) (d0 := 2) (d1 := 26) (d2 := 6) (d3 := 0) nd_under 59 (by kernel_rfl) sty_under 11 (by kernel_rfl) HU37 1 (by kernel_rfl) HU35 0 (by kernel_rfl) F (by decide) (by decide) hlt hnl hC (by omega) (by omega) (mkV_i B 32 (by decide)) ?_
        intro a F he
        refine then_n ?_
        refine wp_cond (t := false) he ?_
        refine wp_skip ?_
        refine then_n ?_
        repeat refine wp_seq ?_
        refine rg_inc (s := 390) (N := 726) F (by omega) (by omega) (by decide) (by decide) ?_
        intro a F
        rw [show ((B + 32 : Nat) : Int) + 1 = ((B + 33 : Nat) : Int) by omega] at F
        refine then_n ?_
        repeat refine wp_seq ?_
        refine rg_h4 (s := 392) (N := 726) (j := 33) (d0 := 2) (d1 := 26) (d2 := 6) (d3 := 1) nd_under 59 (by kernel_rfl) sty_under 11 (by kernel_rfl) HU37 1 (by kernel_rfl) HU35 0 (by kernel_rfl) F (by decide) (by decide) hlt hnl hC (by omega) (by omega) (mkV_i B 33 (by decide)) ?_
        intro a F he
        refine then_n ?_
        refine wp_cond (t := false) he ?_
        refine wp_skip ?_
        refine then_n ?_
        repeat refine wp_seq ?_
        refine rg_inc (s := 402) (N := 726) F (by omega) (by omega) (by decide) (by decide) ?_
        intro a F
        rw [show ((B + 33 : Nat) : Int) + 1 = ((B + 34 : Nat) : Int) by omega] at F
        refine then_n ?_
        repeat refine wp_seq ?_
        refine rg_h4 (s := 404) (N := 726) (j := 34) (d0 := 2) (d1 := 26) (d2 := 8) (d3 := 0) nd_under 59 (by kernel_rfl) sty_under 11 (by kernel_rfl) HU37 1 (by kernel_rfl) HU35 0 (by kernel_rfl) F (by decide) (by decide) hlt hnl hC (by omega) (by omega) (mkV_i B 34 (by decide)) ?_
        intro a F he
        refine then_n ?_
        refine wp_cond (t := false) he ?_
        refine wp_skip ?_
        refine then_n ?_
        repeat refine wp_seq ?_
        refine rg_inc (s := 414) (N := 726) F (by omega) (by omega) (by decide) (by decide) ?_
        intro a F
        rw [show ((B + 34 : Nat) : Int) + 1 = ((B + 35 : Nat) : Int) by omega] at F
        refine then_n ?_
        repeat refine wp_seq ?_
        refine rg_h4 (s := 416) (N := 726) (j := 35) (d0 := 2) (d1 := 26) (d2 := 8) (d3 := 1) nd_under 59 (by kernel_rfl) sty_under 11 (by kernel_rfl) HU37 1 (by kernel_rfl) HU35 0 (by kernel_rfl) F (by decide) (by decide) hlt hnl hC (by omega) (by omega) (mkV_i B 35 (by decide)) ?_
        intro a F he
        refine then_n ?_
        refine wp_cond (t := false) he ?_
        refine wp_skip ?_
        refine then_n ?_
        repeat refine wp_seq ?_
        refine rg_inc (s := 426) (N := 726) F (by omega) (by omega) (by decide) (by decide) ?_
        intro a F
        rw [show ((B + 35 : Nat) : Int) + 1 = ((B + 36 : Nat) : Int) by omega] at F
        refine then_n ?_
        repeat refine wp_seq ?_
        refine rg_h4 (s := 428) (N := 726) (j := 36) (d0 := 2) (d1 := 26) (d2 := 10) (d3 := 0) nd_under 59 (by kernel_rfl) sty_under 11 (by kernel_rfl) HU37 1 (by kernel_rfl) HU35 0 (by kernel_rfl) F (by decide) (by decide) hlt hnl hC (by omega) (by omega) (mkV_i B 36 (by decide)) ?_
        intro a F he
        refine then_n ?_
        refine wp_cond (t := false) he ?_
        refine wp_skip ?_
        refine then_n ?_
        repeat refine wp_seq ?_
        refine rg_inc (s := 438) (N := 726) F (by omega) (by omega) (by decide) (by decide) ?_
        intro a F
        rw [show ((B + 36 : Nat) : Int) + 1 = ((B + 37 : Nat) : Int) by omega] at F
        refine then_n ?_
        repeat refine wp_seq ?_
        refine rg_h4 (s := 440) (N := 726) (j := 37) (d0 := 2) (d1 := 26) (d2 := 10) (d3 := 1) nd_under 59 (by kernel_rfl) sty_under 11 (by kernel_rfl) HU37 1 (by kernel_rfl) HU35 0 (by kernel_rfl) F (by decide) (by decide) hlt hnl hC (by omega) (by omega) (mkV_i B 37 (by decide)) ?_
        intro a F he
        refine then_n ?_
        refine wp_cond (t := false) he ?_
        refine wp_skip ?_
        refine then_n ?_
        repeat refine wp_seq ?_
        refine rg_inc (s := 450) (N := 726) F (by omega) (by omega) (by decide) (by decide) ?_
        intro a F
        rw [show ((B + 37 : Nat) : Int) + 1 = ((B + 38 : Nat) : Int) by omega] at F
        refine then_n ?_
        repeat refine wp_seq ?_
        refine rg_h4 (s := 452) (N := 726) (j := 38) (d0 := 2) (d1 := 38) (d2 := 0) (d3 := 0) nd_under 59 (by kernel_rfl) sty_under 11 (by kernel_rfl) HU37 1 (by kernel_rfl) HU35 0 (by kernel_rfl) F (by decide) (by decide) hlt hnl hC (by omega) (by omega) (mkV_i B 38 (by decide)) ?_
        intro a F he
        refine then_n ?_
        refine wp_cond (t := false) he ?_
        refine wp_skip ?_
        refine then_n ?_
        repeat refine wp_seq ?_
        refine rg_inc (s := 462) (N := 726) F (by omega) (by omega) (by decide) (by decide) ?_
        intro a F
        rw [show ((B + 38 : Nat) : Int) + 1 = ((B + 39 : Nat) : Int) by omega] at F
        refine then_n ?_
        repeat refine wp_seq ?_
        refine rg_h4 (s := 464) (N := 726) (j := 39) (d0 := 2) (d1 := 38) (d2 := 0) (d3 := 1) nd_under 59 (by kernel_rfl) sty_under 11 (by kernel_rfl) HU37 1 (by kernel_rfl) HU35 0 (by kernel_rfl) F (by decide) (by decide) hlt hnl hC (by omega) (by omega) (mkV_i B 39 (by decide)) ?_
        intro a F he
        refine then_n ?_
        refine wp_cond (t := false) he ?_
        refine wp_skip ?_
        refine then_n ?_
        repeat refine wp_seq ?_
        refine rg_inc (s := 474) (N := 726) F (by omega) (by omega) (by decide) (by decide) ?_
        intro a F
        rw [show ((B + 39 : Nat) : Int) + 1 = ((B + 40 : Nat) : Int) by omega] at F
        refine then_n ?_
        repeat refine wp_seq ?_
        refine rg_h4 (s := 476) (N := 726) (j := 40) (d0 := 2) (d1 := 38) (d2 := 2) (d3 := 0) nd_under 59 (by kernel_rfl) sty_under 11 (by kernel_rfl) HU37 1 (by kernel_rfl) HU35 0 (by kernel_rfl) F (by decide) (by decide) hlt hnl hC (by omega) (by omega) (mkV_i B 40 (by decide)) ?_
        intro a F he
        refine then_n ?_
        refine wp_cond (t := false) he ?_
        refine wp_skip ?_
        refine then_n ?_
        repeat refine wp_seq ?_
        refine rg_inc (s := 486) (N := 726) F (by omega) (by omega) (by decide) (by decide) ?_
        intro a F
        rw [show ((B + 40 : Nat) : Int) + 1 = ((B + 41 : Nat) : Int) by omega] at F
        refine then_n ?_
        repeat refine wp_seq ?_
        refine rg_h4 (s := 488) (N := 726) (j := 41) (d0 := 2) (d1 := 38) (d2 := 2) (d3 := 1) nd_under 59 (by kernel_rfl) sty_under 11 (by kernel_rfl) HU37 1 (by kernel_rfl) HU35 0 (by kernel_rfl) F (by decide) (by decide) hlt hnl hC (by omega) (by omega) (mkV_i B 41 (by decide)) ?_
        intro a F he
        refine then_n ?_
        refine wp_cond (t := false) he ?_
        refine wp_skip ?_
        refine then_n ?_
        repeat refine wp_seq ?_
        refine rg_inc (s := 498) (N := 726) F (by omega) (by omega) (by decide) (by decide) ?_
        intro a F
        rw [show ((B + 41 : Nat) : Int) + 1 = ((B + 42 : Nat) : Int) by omega] at F
        refine then_n ?_
        repeat refine wp_seq ?_
        refine rg_h4 (s := 500) (N := 726) (j := 42) (d0 := 2) (d1 := 38) (d2 := 4) (d3 := 0) nd_under 59 (by kernel_rfl) sty_under 11 (by kernel_rfl) HU37 1 (by kernel_rfl) HU35 0 (by kernel_rfl) F (by decide) (by decide) hlt hnl hC (by omega) (by omega) (mkV_i B 42 (by decide)) ?_
        intro a F he
        refine then_n ?_
        refine wp_cond (t := false) he ?_
        refine wp_skip ?_
        refine then_n ?_
        repeat refine wp_seq ?_
        refine rg_inc (s := 510) (N := 726) F (by omega) (by omega) (by decide) (by decide) ?_
        intro a F
        rw [show ((B + 42 : Nat) : Int) + 1 = ((B + 43 : Nat) : Int) by omega] at F
        refine then_n ?_
        repeat refine wp_seq ?_
        refine rg_h4 (s := 512) (N := 726) (j := 43) (d0 := 2) (d1 := 38) (d2 := 4) (d3 := 1) nd_under 59 (by kernel_rfl) sty_under 11 (by kernel_rfl) HU37 1 (by kernel_rfl) HU35 0 (by kernel_rfl) F (by decide) (by decide) hlt hnl hC (by omega) (by omega) (mkV_i B 43 (by decide)) ?_
        intro a F he
        refine then_n ?_
        refine wp_cond (t := false) he ?_
        refine wp_skip ?_
        refine then_n ?_
        repeat refine wp_seq ?_
        refine rg_inc (s := 522) (N := 726) F (by omega) (by omega) (by decide) (by decide) ?_
        intro a F
        rw [show ((B + 43 : Nat) : Int) + 1 = ((B + 44 : Nat) : Int) by omega] at F
        refine then_n ?_
        repeat refine wp_seq ?_
        refine rg_h4 (s := 524) (N := 726) (j := 44) (d0 := 2) (d1 := 38) (d2 := 6) (d3 := 0) nd_under 59 (by kernel_rfl) sty_under 11 (by kernel_rfl) HU37 1 (by kernel_rfl) HU35 0 (by kernel_rfl) F (by decide) (by decide) hlt hnl hC (by omega) (by omega) (mkV_i B 44 (by decide)) ?_
        intro a F he
        refine then_n ?_
        refine wp_cond (t := false) he ?_
        refine wp_skip ?_
        refine then_n ?_
        repeat refine wp_seq ?_
        refine rg_inc (s := 534) (N := 726) F (by omega) (by omega) (by decide) (by decide) ?_
        intro a F
        rw [show ((B + 44 : Nat) : Int) + 1 = ((B + 45 : Nat) : Int) by omega] at F
        refine then_n ?_
        repeat refine wp_seq ?_
        refine rg_h4 (s := 536) (N := 726) (j := 45) (d0 := 2) (d1 := 38) (d2 := 6) (d3 := 1) nd_under 59 (by kernel_rfl) sty_under 11 (by kernel_rfl) HU37 1 (by kernel_rfl) HU35 0 (by kernel_rfl) F (by decide) (by decide) hlt hnl hC (by omega) (by omega) (mkV_i B 45 (by decide)) ?_
        intro a F he
        refine then_n ?_
        refine wp_cond (t := false) he ?_
        refine wp_skip ?_
        refine then_n ?_
        repeat refine wp_seq ?_
        refine rg_inc (s := 546) (N := 726) F (by omega) (by omega) (by decide) (by decide) ?_
        intro a F
        rw [show ((B + 45 : Nat) : Int) + 1 = ((B + 46 : Nat) : Int) by omega] at F
        refine then_n ?_
        repeat refine wp_seq ?_
        refine rg_h4 (s := 548) (N := 726) (j := 46) (d0 := 2) (d1 := 38) (d2 := 8) (d3 := 0) nd_under 59 (by kernel_rfl) sty_under 11 (by kernel_rfl) HU37 1 (by kernel_rfl) HU35 0 (by kernel_rfl) F (by decide) (by decide) hlt hnl hC (by omega) (by omega) (mkV_i B 46 (by decide)) ?_
        intro a F he
        refine then_n ?_
        refine wp_cond (t := false) he ?_
        refine wp_skip ?_
        refine then_n ?_
        repeat refine wp_seq ?_
        refine rg_inc (s := 558) (N := 726) F (by omega) (by omega) (by decide) (by decide) ?_
        intro a F
        rw [show ((B + 46 : Nat) : Int) + 1 = ((B + 47 : Nat) : Int) by omega] at F
        refine then_n ?_
        repeat refine wp_seq ?_
        refine rg_h4 (s := 560) (N := 726) (j := 47) (d0 := 2) (d1 := 38) (d2 := 8) (d3 := 1) nd_under 59 (by kernel_rfl) sty_under 11 (by kernel_rfl) HU37 1 (by kernel_rfl) HU35 0 (by kernel_rfl) F (by decide) (by decide) hlt hnl hC (by omega) (by omega) (mkV_i B 47 (by decide)) ?_
        intro a F he
        refine then_n ?_
        refine wp_cond (t := false) he ?_
        refine wp_skip ?_
        refine then_n ?_
        repeat refine wp_seq ?_
        refine rg_inc (s := 570) (N := 726) F (by omega) (by omega) (by decide) (by decide) ?_
        intro a F
        rw [show ((B + 47 : Nat) : Int) + 1 = ((B + 48 : Nat) : Int) by omega] at F
        refine then_n ?_
        repeat refine wp_seq ?_
        refine rg_h4 (s := 572) (N := 726) (j := 48) (d0 := 2) (d1 := 38) (d2 := 10) (d3 := 0) nd_under 59 (by kernel_rfl) sty_under 11 (by kernel_rfl) HU37 1 (by kernel_rfl) HU35 0 (by kernel_rfl) F (by decide) (by decide) hlt hnl hC (by omega) (by omega) (mkV_i B 48 (by decide)) ?_
        intro a F he
        refine then_n ?_
        refine wp_cond (t := false) he ?_
        refine wp_skip ?_
        refine then_n ?_
        repeat refine wp_seq ?_
        refine rg_inc (s := 582) (N := 726) F (by omega) (by omega) (by decide) (by decide) ?_
        intro a F
        rw [show ((B + 48 : Nat) : Int) + 1 = ((B + 49 : Nat) : Int) by omega] at F
        refine then_n ?_
        repeat refine wp_seq ?_
        refine rg_h4 (s := 584) (N := 726) (j := 49) (d0 := 2) (d1 := 38) (d2 := 10) (d3 := 1) nd_under 59 (by kernel_rfl) sty_under 11 (by kernel_rfl) HU37 1 (by kernel_rfl) HU35 0 (by kernel_rfl) F (by decide) (by decide) hlt hnl hC (by omega) (by omega) (mkV_i B 49 (by decide)) ?_
        intro a F he
        refine then_n ?_
        refine wp_cond (t := false) he ?_
        refine wp_skip ?_
        refine then_n ?_
        repeat refine wp_seq ?_
        refine rg_inc (s := 594) (N := 726) F (by omega) (by omega) (by decide) (by decide) ?_
        intro a F
        rw [show ((B + 49 : Nat) : Int) + 1 = ((B + 50 : Nat) : Int) by omega] at F
        refine then_n ?_
        repeat refine wp_seq ?_
        refine rg_h3 (s := 596) (N := 726) (j := 50) (d0 := 2) (d1 := 50) (d2 := 0) nd_under 59 (by kernel_rfl) sty_under 3 (by kernel_rfl) HU39 0 (by kernel_rfl) F (by decide) (by decide) hlt hnl hC (by omega) (by omega) (mkV_i B 50 (by decide)) ?_
        intro a F he
        refine then_n ?_
        refine wp_cond (t := false) he ?_
        refine wp_skip ?_
        refine then_n ?_
        repeat refine wp_seq ?_
        refine rg_inc (s := 605) (N := 726) F (by omega) (by omega) (by decide) (by decide) ?_
        intro a F
        rw [show ((B + 50 : Nat) : Int) + 1 = ((B + 51 : Nat) : Int) by omega] at F
        refine then_n ?_
        repeat refine wp_seq ?_
        refine rg_h3 (s := 607) (N := 726) (j := 51) (d0 := 2) (d1 := 50) (d2 := 1) nd_under 59 (by kernel_rfl) sty_under 3 (by kernel_rfl) HU39 0 (by kernel_rfl) F (by decide) (by decide) hlt hnl hC (by omega) (by omega) (mkV_i B 51 (by decide)) ?_
        intro a F he
        refine then_n ?_
        refine wp_cond (t := false) he ?_
        refine wp_skip ?_
        refine then_n ?_
        repeat refine wp_seq ?_
        refine rg_inc (s := 616) (N := 726) F (by omega) (by omega) (by decide) (by decide) ?_
        intro a F
        rw [show ((B + 51 : Nat) : Int) + 1 = ((B + 52 : Nat) : Int) by omega] at F
        refine then_n ?_
        repeat refine wp_seq ?_
        refine rg_h3 (s := 618) (N := 726) (j := 52) (d0 := 2) (d1 := 50) (d2 := 2) nd_under 59 (by kernel_rfl) sty_under 3 (by kernel_rfl) HU39 0 (by kernel_rfl) F (by decide) (by decide) hlt hnl hC (by omega) (by omega) (mkV_i B 52 (by decide)) ?_
        intro a F he
        refine then_n ?_
        refine wp_cond (t := false) he ?_
        refine wp_skip ?_
        refine then_n ?_
        repeat refine wp_seq ?_
        refine rg_inc (s := 627) (N := 726) F (by omega) (by omega) (by decide) (by decide) ?_
        intro a F
        rw [show ((B + 52 : Nat) : Int) + 1 = ((B + 53 : Nat) : Int) by omega] at F
        refine then_n ?_
        repeat refine wp_seq ?_
        refine rg_h3 (s := 629) (N := 726) (j := 53) (d0 := 2) (d1 := 50) (d2 := 3) nd_under 59 (by kernel_rfl) sty_under 3 (by kernel_rfl) HU39 0 (by kernel_rfl) F (by decide) (by decide) hlt hnl hC (by omega) (by omega) (mkV_i B 53 (by decide)) ?_
        intro a F he
        refine then_n ?_
        refine wp_cond (t := false) he ?_
        refine wp_skip ?_
        refine then_n ?_
        repeat refine wp_seq ?_
        refine rg_inc (s := 638) (N := 726) F (by omega) (by omega) (by decide) (by decide) ?_
        intro a F
        rw [show ((B + 53 : Nat) : Int) + 1 = ((B + 54 : Nat) : Int) by omega] at F
        refine then_n ?_
        repeat refine wp_seq ?_
        refine rg_h3 (s := 640) (N := 726) (j := 54) (d0 := 2) (d1 := 54) (d2 := 0) nd_under 59 (by kernel_rfl) sty_under 3 (by kernel_rfl) HU39 0 (by kernel_rfl) F (by decide) (by decide) hlt hnl hC (by omega) (by omega) (mkV_i B 54 (by decide)) ?_
        intro a F he
        refine then_n ?_
        refine wp_cond (t := false) he ?_
        refine wp_skip ?_
        refine then_n ?_
        repeat refine wp_seq ?_
        refine rg_inc (s := 649) (N := 726) F (by omega) (by omega) (by decide) (by decide) ?_
        intro a F
        rw [show ((B + 54 : Nat) : Int) + 1 = ((B + 55 : Nat) : Int) by omega] at F
        refine then_n ?_
        repeat refine wp_seq ?_
        refine rg_h3 (s := 651) (N := 726) (j := 55) (d0 := 2) (d1 := 54) (d2 := 1) nd_under 59 (by kernel_rfl) sty_under 3 (by kernel_rfl) HU39 0 (by kernel_rfl) F (by decide) (by decide) hlt hnl hC (by omega) (by omega) (mkV_i B 55 (by decide)) ?_
        intro a F he
        refine then_n ?_
        refine wp_cond (t := false) he ?_
        refine wp_skip ?_
        refine then_n ?_
        repeat refine wp_seq ?_
        refine rg_inc (s := 660) (N := 726) F (by omega) (by omega) (by decide) (by decide) ?_
        intro a F
        rw [show ((B + 55 : Nat) : Int) + 1 = ((B + 56 : Nat) : Int) by omega] at F
        refine then_n ?_
        repeat refine wp_seq ?_
        refine rg_h3 (s := 662) (N := 726) (j := 56) (d0 := 2) (d1 := 54) (d2 := 2) nd_under 59 (by kernel_rfl) sty_under 3 (by kernel_rfl) HU39 0 (by kernel_rfl) F (by decide) (by decide) hlt hnl hC (by omega) (by omega) (mkV_i B 56 (by decide)) ?_
        intro a F he
        refine then_n ?_
        refine wp_cond (t := false) he ?_
        refine wp_skip ?_
        refine then_n ?_
        repeat refine wp_seq ?_
        refine rg_inc (s := 671) (N := 726) F (by omega) (by omega) (by decide) (by decide) ?_
        intro a F
        rw [show ((B + 56 : Nat) : Int) + 1 = ((B + 57 : Nat) : Int) by omega] at F
        refine then_n ?_
        repeat refine wp_seq ?_
        refine rg_h3 (s := 673) (N := 726) (j := 57) (d0 := 2) (d1 := 54) (d2 := 3) nd_under 59 (by kernel_rfl) sty_under 3 (by kernel_rfl) HU39 0 (by kernel_rfl) F (by decide) (by decide) hlt hnl hC (by omega) (by omega) (mkV_i B 57 (by decide)) ?_
        intro a F he
        refine then_n ?_
        refine wp_cond (t := false) he ?_
        refine wp_skip ?_
        refine then_n ?_
        repeat refine wp_seq ?_
        refine rg_inc (s := 682) (N := 726) F (by omega) (by omega) (by decide) (by decide) ?_
        intro a F
        rw [show ((B + 57 : Nat) : Int) + 1 = ((B + 58 : Nat) : Int) by omega] at F
        refine then_n ?_
        repeat refine wp_seq ?_
        refine rg_h2 (s := 684) (N := 726) (j := 58) (d0 := 2) (d1 := 58) nd_under 59 (by kernel_rfl) sty_under 0 (by kernel_rfl) F (by decide) (by decide) hlt hnl hC (by omega) (by omega) (mkV_i B 58 (by decide)) ?_
        intro a F he
        refine then_n ?_
        refine wp_cond (t := false) he ?_
        refine wp_skip ?_
        refine then_n ?_
        repeat refine wp_seq ?_
        refine rg_inc (s := 692) (N := 726) F (by omega) (by omega) (by decide) (by decide) ?_
        intro a F
        rw [show ((B + 58 : Nat) : Int) + 1 = ((B + 59 : Nat) : Int) by omega] at F
        refine then_n ?_
        repeat refine wp_seq ?_
        refine rg_h2 (s := 694) (N := 726) (j := 59) (d0 := 2) (d1 := 59) nd_under 59 (by kernel_rfl) sty_under 0 (by kernel_rfl) F (by decide) (by decide) hlt hnl hC (by omega) (by omega) (mkV_i B 59 (by decide)) ?_
        intro a F he
        refine then_n ?_
        refine wp_cond (t := false) he ?_
        refine wp_skip ?_
        refine then_n ?_
        repeat refine wp_seq ?_
        refine rg_inc (s := 702) (N := 726) F (by omega) (by omega) (by decide) (by decide) ?_
        intro a F
        rw [show ((B + 59 : Nat) : Int) + 1 = ((B + 60 : Nat) : Int) by omega] at F
        refine then_n ?_
        repeat refine wp_seq ?_
        refine rg_hb1 (s := 704) (N := 726) (j := 60) (d0 := 62) nd_under 0 (by kernel_rfl) F (by omega) (by omega) (by decide) (by decide) hlt hnl hC (by omega) (by omega) (mkV_b B 60 (by decide)) ?_
        intro a F he
        refine then_n ?_
        refine wp_cond (t := false) he ?_
        refine wp_skip ?_
        refine then_n ?_
        repeat refine wp_seq ?_
        refine rg_inc (s := 713) (N := 726) F (by omega) (by omega) (by decide) (by decide) ?_
        intro a F
        rw [show ((B + 60 : Nat) : Int) + 1 = ((B + 61 : Nat) : Int) by omega] at F
        refine then_n ?_
        repeat refine wp_seq ?_
        refine rg_rules (s := 715) (N := 726) (R := fun r w' => r = .int .i64 (((B + 61 : Nat) : Int) + (m.n.rl : Int) * 3) ∧ w' = w2) (fun _ _ => by kernel_rfl) nd_under 0 (by kernel_rfl) (fs1 := Try.prog.fieldsOf 51) (by kernel_rfl) 0 (by kernel_rfl) F (by decide) (by decide) hlt hnl ct ?_ ?_
        · exact (heldT lo (B + 61) (((B + 61 : Nat)) : Int) m.tv m.n.rl w2 htl (by omega) rfl htr).mono fun e w' ⟨he, h1⟩ => ⟨_, he, rfl, h1⟩
        intro a r w9 ⟨hr, hw⟩ F
        subst hr
        subst hw
        refine then_n ?_
        repeat refine wp_seq ?_
        refine rg_neg (s := 723) (N := 726) F (by omega) (by decide) (by decide) ?_
        intro a F he
        refine then_n ?_
        refine wp_cond (t := false) he ?_
        refine wp_skip ?_
        refine inb_n ?_
        refine then_n ?_
        refine rg_inc5 (s := 10) (N := 726) F (by omega) (by omega) (by decide) (by decide) ?_
        intro a F
        refine ⟨⟨k + 1, by omega, ?_, rfl⟩, ?_⟩
        · have e1 : (((B + 61 : Nat) : Int) + (m.n.rl : Int) * 3) = ((nxL K (ms0.take (k + 1)) : Nat) : Int) := by rw [HNX.out]; unfold nxN; omega
          rw [e1, show ((k : Int) + 1) = ((k + 1 : Nat) : Int) by omega] at F
          exact F
        · show ms0.length - (intOf (a.eval (.tmp 5))).toNat < ms0.length - (intOf (a0.eval (.tmp 5))).toNat
          rw [F.e5, F0.e5]
          simp only [intOf]
          omega
    · obtain rfl : k = ms0.length := by omega
      refine wp_cond (t := false) (by rw [hcond, decide_eq_false (by omega)]) ?_
      refine wp_exit ?_
      rw [List.take_length] at F
      refine then_x ?_
      repeat (first | refine then_x ?_ | refine inb_x ?_ | refine then_n ?_ | refine inb_n ?_)
      rename_i Q' KQ hKQ Fx
      refine hKQ _ _ ?_
      refine wp_seq ?_
      refine rg_ret (N := 726) F (by decide) (by decide) ?_
      intro a' hd he
      refine then_n ?_
      refine wp_ret ?_
      refine ⟨hd, _, (results_tmp rfl _ _ _).trans ?_, rfl, rfl⟩
      rw [← he]
      rfl
end Go.Proofs.Ytbfhipfflomokaa

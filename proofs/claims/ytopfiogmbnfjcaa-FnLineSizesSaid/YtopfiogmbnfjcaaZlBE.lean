import Derived.Test.YtopfiogmbnfjcaaZlAA
import Derived.Test.YtopfiogmbnfjcaaZlBD
section
namespace Go.Proofs.Ytopfiogmbnfjcaa
open Go.ChangeShapes Go.WideShapes Go.ChangeAt Go.RowKit
set_option linter.unusedVariables false
set_option linter.unusedSimpArgs false
set_option maxRecDepth 8000

theorem wp_make_full {P : Program} {w : World} {o : Oper} {a : Act} {K : Act → World → Prop} {Q : Exit → Act → World → Prop} (l c : Operand) (t : TypeId) (hop : o.op = Op.makeSlice t l c)
    (base : Nat) (e : TypeId) (i : TypeInfo) (z : Value) (size : Nat) (h1 : P.underlying t = some (.slice e)) (h2 : P.info? e = some i) (h3 : i.zero = some z) (h4 : i.size = size)
    (kl kc : IntKind) (L C : Int) (n : Nat) (hl : a.eval l = .int kl L) (hc : a.eval c = .int kc C) (hL : L = (n : Int)) (hC : C = (n : Int)) (b2 : i.bytes * n ≤ 281474976710656) (b3 : n ≤ maxLen) (b4 : base ≤ w.heap.size)
    (hK : ∀ w', w'.ownsRow base e size (.slice (some ⟨w.heap.size, 0, none⟩) n n) n (madeCells z.cells (n * size)).toList → w.grownBy w' none → K (a.put o.dst (.slice (some ⟨w.heap.size, 0, none⟩) n n)) w') : o.wp P a w K Q := by
  obtain ⟨w', hrun, r1, r2⟩ := run_make_full (P := P) w base t e i z size h1 h2 h3 h4 kl kc n b2 b3 b4
  subst hL
  subst hC
  unfold Oper.wp
  simp [execOp, hop, hl, hc, hrun, Result.andThen]
  exact hK _ r1 r2
theorem made_zero {lo g n : Nat} {w : World} (h : w.ownsRow lo 3 1 (.slice (some ⟨g, 0, none⟩) n n) n (madeCells (Value.int .i64 0).cells (n * 1)).toList) : RowI lo (.slice (some ⟨g, 0, none⟩) n n) (List.replicate n 0) w := by
  rw [show (Value.int .i64 0).cells = #[Value.int .i64 0] from rfl, Nat.mul_one, toList_madeCells_one] at h
  unfold RowI
  simpa using h
theorem fxm_new {w wl : World} {f : Fx} {a : Option Addr} {cap zb wb : Nat} {zs ws : List Int} (hz : Its w a f.xs) (hb : Below w.heap.size w wl) (rz : RowI w.heap.size (.slice (some ⟨zb, 0, none⟩) f.xs.length f.xs.length) zs wl)
    (rm : RowI w.heap.size (.slice (some ⟨wb, 0, none⟩) f.xs.length f.xs.length) ws wl) (lz : zs.length = f.xs.length) (lw : ws.length = f.xs.length) (n3 : zb ≠ wb) :
    FxM w f a cap wl.heap.size zb wb zs ws 0 (wl.alloc (.cells (fxC f a cap zb wb 0) 65)) :=
  ⟨hz, hb.alloc hb.size _, hp_new wl _, World.ownsRow.alloc rz _, World.ownsRow.alloc rm _, lz, lw, hb.size, fun e => by have := (World.ownsRow.lt rz zb rfl).2; omega, fun e => by have := (World.ownsRow.lt rm wb rfl).2; omega, n3⟩
set_option maxHeartbeats 4000000 in
theorem inew (a : Option Addr) (cap : Nat) (xs : List It) (gap inner : Int) (w : World) (hz : Its w a xs) (hl : xs.length ≤ 1048576) :
    Calls Try.prog 84 #[.slice a xs.length cap, .int .i64 gap, .int .i64 inner] w fun e w' => ∃ fb zb wb, e = .returned (.pointer (some ⟨fb, 0, none⟩)) ∧ FxM w (fxOf xs gap inner) a cap fb zb wb (hypL xs) (List.replicate xs.length 0) 0 w' := by
  obtain ⟨i0, hi, hz0, hz1, hz2⟩ := info_parts info_intP
  go_enter Try.func84, Try.ntmps84
  go_wp2
  refine wp_region_held_drew (S := fun w' => Below w.heap.size w w') (by kernel_rfl) (Below.refl _ _).drew (fun HS => ?_)
  refine wpAnyH_take (i := 0) (oi := ⟨some 7, Op.move (Operand.tmp 0), _, _, _, _⟩) (v := .slice a xs.length cap) rfl (by kernel_rfl) (by kernel_rfl) (by kernel_rfl) (fun _ _ _ h => h) (Or.inl ⟨by rfl, fun W hW => by rfl⟩) HS ?_
  simp only [World.size_alloc, Act.put, List.setIfInBounds_toArray, List.set_cons_succ, List.set_cons_zero]
  refine wpAnyH_take (i := 1) (oi := ⟨some 8, Op.move (Operand.tmp 1), _, _, _, _⟩) (v := .int .i64 gap) rfl (by kernel_rfl) (by kernel_rfl) (by kernel_rfl) (fun _ _ _ h => h) (Or.inl ⟨by rfl, fun W hW => by rfl⟩) HS ?_
  simp only [World.size_alloc, Act.put, List.setIfInBounds_toArray, List.set_cons_succ, List.set_cons_zero]
  refine wpAnyH_take (i := 2) (oi := ⟨some 9, Op.move (Operand.tmp 2), _, _, _, _⟩) (v := .int .i64 inner) rfl (by kernel_rfl) (by kernel_rfl) (by kernel_rfl) (fun _ _ _ h => h) (Or.inl ⟨by rfl, fun W hW => by rfl⟩) HS ?_
  simp only [World.size_alloc, Act.put, List.setIfInBounds_toArray, List.set_cons_succ, List.set_cons_zero]
  refine wpAnyH_take (i := 3) (oi := ⟨some 10, Op.move (Operand.tmp 0), _, _, _, _⟩) (v := .slice a xs.length cap) rfl (by kernel_rfl) (by kernel_rfl) (by kernel_rfl) (fun _ _ _ h => h) (Or.inl ⟨by rfl, fun W hW => by rfl⟩) HS ?_
  simp only [World.size_alloc, Act.put, List.setIfInBounds_toArray, List.set_cons_succ, List.set_cons_zero]
  refine wpAnyH_take (i := 4) (oi := ⟨some 11, Op.move (Operand.tmp 1), _, _, _, _⟩) (v := .int .i64 gap) rfl (by kernel_rfl) (by kernel_rfl) (by kernel_rfl) (fun _ _ _ h => h) (Or.inl ⟨by rfl, fun W hW => by rfl⟩) HS ?_
  simp only [World.size_alloc, Act.put, List.setIfInBounds_toArray, List.set_cons_succ, List.set_cons_zero]
  refine wpAnyH_take (i := 5) (oi := ⟨some 12, Op.move (Operand.tmp 2), _, _, _, _⟩) (v := .int .i64 inner) rfl (by kernel_rfl) (by kernel_rfl) (by kernel_rfl) (fun _ _ _ h => h) (Or.inl ⟨by rfl, fun W hW => by rfl⟩) HS ?_
  simp only [World.size_alloc, Act.put, List.setIfInBounds_toArray, List.set_cons_succ, List.set_cons_zero]
  refine wpAnyH_take (i := 7) (oi := ⟨some 14, Op.move (Operand.tmp 0), _, _, _, _⟩) (v := .slice a xs.length cap) rfl (by kernel_rfl) (by kernel_rfl) (by kernel_rfl) (fun _ _ _ h => h) (Or.inl ⟨by rfl, fun W hW => by rfl⟩) HS ?_
  simp only [World.size_alloc, Act.put, List.setIfInBounds_toArray, List.set_cons_succ, List.set_cons_zero]
  refine wpAnyH_take (i := 9) (oi := ⟨some 16, Op.move (Operand.tmp 0), _, _, _, _⟩) (v := .slice a xs.length cap) rfl (by kernel_rfl) (by kernel_rfl) (by kernel_rfl) (fun _ _ _ h => h) (Or.inl ⟨by rfl, fun W hW => by rfl⟩) HS ?_
  simp only [World.size_alloc, Act.put, List.setIfInBounds_toArray, List.set_cons_succ, List.set_cons_zero]
  refine wpAnyH_take (i := 10) (oi := ⟨some 17, Op.call { callee := .builtin .len, args := #[Operand.tmp 16], argTypes := #[24] }, _, _, _, _⟩) (v := .int .i64 xs.length) rfl (by kernel_rfl) (by kernel_rfl) (by kernel_rfl) (fun _ _ _ h => h) (Or.inl ⟨by rfl, fun W hW => by clear hW; go_simp <;> with_reducible rfl⟩) HS ?_
  simp only [World.size_alloc, Act.put, List.setIfInBounds_toArray, List.set_cons_succ, List.set_cons_zero]
  refine anyH_2 6 11 rfl rfl (by kernel_rfl) rfl rfl ?_ ?_
  · go_wp2_with (fail)
    refine (igrows_any a cap xs gap inner _ (hz.below HS) (by omega)).mono ?_
    rintro e wg ⟨rfl, bq⟩
    (try dsimp only)
    (try replace rz := rz.below bq)
    (try replace rm := rm.below bq)
    have ng := bq.size
    replace HS := HS.trans (bq.mono HS.size)
    clear bq
    refine ⟨HS, ?_⟩
    refine anyH_2 8 11 rfl rfl (by kernel_rfl) rfl rfl ?_ ?_
    · go_wp2_with (fail)
      refine (ihyps_at a cap xs _ (hz.below HS) (by omega)).mono ?_
      rintro e wh ⟨rfl, rz, bq⟩
      (try dsimp only)
      (try replace rm := rm.below bq)
      have nz := (World.ownsRow.lt rz _ rfl).2
      replace rz := lowI rz HS.size
      replace HS := HS.trans (bq.mono HS.size)
      clear bq
      refine ⟨HS, ?_⟩
      refine anyH_1 11 rfl (by kernel_rfl) rfl ?_
      refine wp_make_full _ _ 27 rfl _ 3 i0 (.int .i64 0) 1 Try.underlying27 hi hz0 hz1 .i64 .i64 _ _ xs.length rfl rfl rfl rfl (by rw [hz2]; omega) (by unfold maxLen; omega) (Nat.le_refl _) ?_
      intro wm rm gq
      have bq := (Below.refl _ _).grown gq (Nat.le_refl _) (fun g hg => by cases hg)
      replace rm := made_zero rm
      have nm := (World.ownsRow.lt rm _ rfl).2
      replace rm := lowI rm HS.size
      (try dsimp only)
      (try replace rz := rz.below bq)
      replace HS := HS.trans (bq.mono HS.size)
      clear bq gq
      refine ⟨HS, ?_⟩
      simp only [World.size_alloc, Act.put, List.setIfInBounds_toArray, List.set_cons_succ, List.set_cons_zero]
      refine wpAnyH_take (i := 12) (oi := ⟨some 19, Op.build 65 #[(0, Operand.tmp 7), (1, Operand.tmp 8), (2, Operand.tmp 9), (3, Operand.tmp 13), (4, Operand.tmp 15), (5, Operand.tmp 18)], _, _, _, _⟩) (v := .agg #[.slice a xs.length cap, .int .i64 gap, .int .i64 inner, .bool (decide (ouV xs (hypL xs) gap < inner)), .slice (some ⟨wg.heap.size, 0, none⟩) xs.length xs.length, .slice (some ⟨wh.heap.size, 0, none⟩) xs.length xs.length, .int .i64 0]) rfl (by kernel_rfl) (by kernel_rfl) (by kernel_rfl) (fun _ _ _ h => h) (Or.inl ⟨by rfl, fun W hW => by clear hW; go_simp <;> with_reducible rfl⟩) HS ?_
      simp only [World.size_alloc, Act.put, List.setIfInBounds_toArray, List.set_cons_succ, List.set_cons_zero]
      refine anyH_1 13 rfl (by kernel_rfl) rfl ?_
      go_wp2_with (fail)
      refine ⟨HS.alloc HS.size _, ?_⟩
      have MF := fxm_new (f := fxOf xs gap inner) (a := a) (cap := cap) hz HS rz rm (hypL_len xs) (List.length_replicate) (by omega)
      replace HS := HS.alloc HS.size (.cells (fxC (fxOf xs gap inner) a cap (wg.heap.size) (wh.heap.size) 0) 65)
      (try dsimp only)
      refine wpAnyH_take (i := 14) (oi := ⟨some 6, Op.assign (Operand.tmp 20), _, _, _, _⟩) (v := .pointer (some ⟨wm.heap.size, 0, none⟩)) rfl (by kernel_rfl) (by kernel_rfl) (by kernel_rfl) (fun _ _ _ h => h) (Or.inl ⟨by rfl, fun W hW => by rfl⟩) HS ?_
      simp only [World.size_alloc, Act.put, List.setIfInBounds_toArray, List.set_cons_succ, List.set_cons_zero]
      refine wpAnyH_done (by kernel_rfl) ?_ _
      go_wp2
      go_ret
      exact ⟨_, _, _, rfl, MF⟩
    · refine wp_make_full _ _ 27 rfl _ 3 i0 (.int .i64 0) 1 Try.underlying27 hi hz0 hz1 .i64 .i64 _ _ xs.length rfl rfl rfl rfl (by rw [hz2]; omega) (by unfold maxLen; omega) (Nat.le_refl _) ?_
      intro wm rm gq
      have bq := (Below.refl _ _).grown gq (Nat.le_refl _) (fun g hg => by cases hg)
      replace rm := made_zero rm
      have nm := (World.ownsRow.lt rm _ rfl).2
      replace rm := lowI rm HS.size
      (try dsimp only)
      (try replace rz := rz.below bq)
      replace HS := HS.trans (bq.mono HS.size)
      clear bq gq
      refine ⟨HS, ?_⟩
      simp only [World.size_alloc, Act.put, List.setIfInBounds_toArray, List.set_cons_succ, List.set_cons_zero]
      refine anyH_1 8 rfl (by kernel_rfl) rfl ?_
      go_wp2_with (fail)
      refine (ihyps_at a cap xs _ (hz.below HS) (by omega)).mono ?_
      rintro e wh ⟨rfl, rz, bq⟩
      (try dsimp only)
      (try replace rm := rm.below bq)
      have nz := (World.ownsRow.lt rz _ rfl).2
      replace rz := lowI rz HS.size
      replace HS := HS.trans (bq.mono HS.size)
      clear bq
      refine ⟨HS, ?_⟩
      refine wpAnyH_take (i := 12) (oi := ⟨some 19, Op.build 65 #[(0, Operand.tmp 7), (1, Operand.tmp 8), (2, Operand.tmp 9), (3, Operand.tmp 13), (4, Operand.tmp 15), (5, Operand.tmp 18)], _, _, _, _⟩) (v := .agg #[.slice a xs.length cap, .int .i64 gap, .int .i64 inner, .bool (decide (ouV xs (hypL xs) gap < inner)), .slice (some ⟨wm.heap.size, 0, none⟩) xs.length xs.length, .slice (some ⟨wg.heap.size, 0, none⟩) xs.length xs.length, .int .i64 0]) rfl (by kernel_rfl) (by kernel_rfl) (by kernel_rfl) (fun _ _ _ h => h) (Or.inl ⟨by rfl, fun W hW => by clear hW; go_simp <;> with_reducible rfl⟩) HS ?_
      simp only [World.size_alloc, Act.put, List.setIfInBounds_toArray, List.set_cons_succ, List.set_cons_zero]
      refine anyH_1 13 rfl (by kernel_rfl) rfl ?_
      go_wp2_with (fail)
      refine ⟨HS.alloc HS.size _, ?_⟩
      have MF := fxm_new (f := fxOf xs gap inner) (a := a) (cap := cap) hz HS rz rm (hypL_len xs) (List.length_replicate) (by omega)
      replace HS := HS.alloc HS.size (.cells (fxC (fxOf xs gap inner) a cap (wm.heap.size) (wg.heap.size) 0) 65)
      (try dsimp only)
      refine wpAnyH_take (i := 14) (oi := ⟨some 6, Op.assign (Operand.tmp 20), _, _, _, _⟩) (v := .pointer (some ⟨wh.heap.size, 0, none⟩)) rfl (by kernel_rfl) (by kernel_rfl) (by kernel_rfl) (fun _ _ _ h => h) (Or.inl ⟨by rfl, fun W hW => by rfl⟩) HS ?_
      simp only [World.size_alloc, Act.put, List.setIfInBounds_toArray, List.set_cons_succ, List.set_cons_zero]
      refine wpAnyH_done (by kernel_rfl) ?_ _
      go_wp2
      go_ret
      exact ⟨_, _, _, rfl, MF⟩
  · refine wp_make_full _ _ 27 rfl _ 3 i0 (.int .i64 0) 1 Try.underlying27 hi hz0 hz1 .i64 .i64 _ _ xs.length rfl rfl rfl rfl (by rw [hz2]; omega) (by unfold maxLen; omega) (Nat.le_refl _) ?_
    intro wm rm gq
    have bq := (Below.refl _ _).grown gq (Nat.le_refl _) (fun g hg => by cases hg)
    replace rm := made_zero rm
    have nm := (World.ownsRow.lt rm _ rfl).2
    replace rm := lowI rm HS.size
    (try dsimp only)
    (try replace rz := rz.below bq)
    replace HS := HS.trans (bq.mono HS.size)
    clear bq gq
    refine ⟨HS, ?_⟩
    simp only [World.size_alloc, Act.put, List.setIfInBounds_toArray, List.set_cons_succ, List.set_cons_zero]
    refine anyH_1 6 rfl (by kernel_rfl) rfl ?_
    go_wp2_with (fail)
    refine (igrows_any a cap xs gap inner _ (hz.below HS) (by omega)).mono ?_
    rintro e wg ⟨rfl, bq⟩
    (try dsimp only)
    (try replace rz := rz.below bq)
    (try replace rm := rm.below bq)
    have ng := bq.size
    replace HS := HS.trans (bq.mono HS.size)
    clear bq
    refine ⟨HS, ?_⟩
    refine anyH_1 8 rfl (by kernel_rfl) rfl ?_
    go_wp2_with (fail)
    refine (ihyps_at a cap xs _ (hz.below HS) (by omega)).mono ?_
    rintro e wh ⟨rfl, rz, bq⟩
    (try dsimp only)
    (try replace rm := rm.below bq)
    have nz := (World.ownsRow.lt rz _ rfl).2
    replace rz := lowI rz HS.size
    replace HS := HS.trans (bq.mono HS.size)
    clear bq
    refine ⟨HS, ?_⟩
    refine wpAnyH_take (i := 12) (oi := ⟨some 19, Op.build 65 #[(0, Operand.tmp 7), (1, Operand.tmp 8), (2, Operand.tmp 9), (3, Operand.tmp 13), (4, Operand.tmp 15), (5, Operand.tmp 18)], _, _, _, _⟩) (v := .agg #[.slice a xs.length cap, .int .i64 gap, .int .i64 inner, .bool (decide (ouV xs (hypL xs) gap < inner)), .slice (some ⟨wg.heap.size, 0, none⟩) xs.length xs.length, .slice (some ⟨w.drew.heap.size, 0, none⟩) xs.length xs.length, .int .i64 0]) rfl (by kernel_rfl) (by kernel_rfl) (by kernel_rfl) (fun _ _ _ h => h) (Or.inl ⟨by rfl, fun W hW => by clear hW; go_simp <;> with_reducible rfl⟩) HS ?_
    simp only [World.size_alloc, Act.put, List.setIfInBounds_toArray, List.set_cons_succ, List.set_cons_zero]
    refine anyH_1 13 rfl (by kernel_rfl) rfl ?_
    go_wp2_with (fail)
    refine ⟨HS.alloc HS.size _, ?_⟩
    have MF := fxm_new (f := fxOf xs gap inner) (a := a) (cap := cap) hz HS rz rm (hypL_len xs) (List.length_replicate) (by omega)
    replace HS := HS.alloc HS.size (.cells (fxC (fxOf xs gap inner) a cap (wg.heap.size) (w.drew.heap.size) 0) 65)
    (try dsimp only)
    refine wpAnyH_take (i := 14) (oi := ⟨some 6, Op.assign (Operand.tmp 20), _, _, _, _⟩) (v := .pointer (some ⟨wh.heap.size, 0, none⟩)) rfl (by kernel_rfl) (by kernel_rfl) (by kernel_rfl) (fun _ _ _ h => h) (Or.inl ⟨by rfl, fun W hW => by rfl⟩) HS ?_
    simp only [World.size_alloc, Act.put, List.setIfInBounds_toArray, List.set_cons_succ, List.set_cons_zero]
    refine wpAnyH_done (by kernel_rfl) ?_ _
    go_wp2
    go_ret
    exact ⟨_, _, _, rfl, MF⟩
end Go.Proofs.Ytopfiogmbnfjcaa
end

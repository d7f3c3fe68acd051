import Derived.Test.YtiogjbdaaplhpaaZfAR
import Derived.Test.YtiogjbdaaplhpaaZfAU
import Derived.Test.YtiogjbdaaplhpaaZfBA
section
namespace Go.Proofs.Ytiogjbdaaplhpaa
open Go.ChangeShapes Go.WideShapes Go.ChangeAt Go.RowKit Go.Shelf
set_option linter.unusedVariables false
set_option linter.unusedSimpArgs false
set_option maxRecDepth 8000

attribute [local go_sem] Oper.semAt_some

section
variable {F : Fence} {n : Nat} {P : Program} {md : Region.Mode} {ops : Array Oper} {Q : Exit → Act → World → Prop} {fuel : Nat} {listed : Array Bool} {a : Act} {w : World}
theorem anyIn_1 (i : Nat) {o : Oper} (ho : ops[i]? = some o) (hr : Region.ready md ops listed = [i]) (hw : Region.wanted o (yielded ops a.tmps) = true)
    (h : o.wpIn F n P a w (fun a' w' => wpAnyIn F n P md ops Q fuel (listed.setIfInBounds i true) a' w') Q) : wpAnyIn F n P md ops Q (fuel + 1) listed a w :=
  wpAnyIn_all hr (by simp) fun j hj => by
    simp only [List.mem_singleton] at hj
    subst hj
    unfold wpOpIn
    simp only [ho]
    rw [if_pos hw]
    exact h
theorem anyIn_2 (i k : Nat) {o u : Oper} (ho : ops[i]? = some o) (hu : ops[k]? = some u) (hr : Region.ready md ops listed = [i, k]) (hw : Region.wanted o (yielded ops a.tmps) = true) (hv : Region.wanted u (yielded ops a.tmps) = true)
    (h : o.wpIn F n P a w (fun a' w' => wpAnyIn F n P md ops Q fuel (listed.setIfInBounds i true) a' w') Q) (h' : u.wpIn F n P a w (fun a' w' => wpAnyIn F n P md ops Q fuel (listed.setIfInBounds k true) a' w') Q) : wpAnyIn F n P md ops Q (fuel + 1) listed a w :=
  wpAnyIn_all hr (by simp) fun j hj => by
    simp only [List.mem_cons, List.not_mem_nil, or_false] at hj
    rcases hj with rfl | rfl
    · unfold wpOpIn
      simp only [ho]
      rw [if_pos hw]
      exact h
    · unfold wpOpIn
      simp only [hu]
      rw [if_pos hv]
      exact h'
theorem oIn_append_any {o : Oper} {K : Act → World → Prop} (s x : Operand) (t : TypeId)
    (ho : o.op = .call { callee := .builtin .append, args := #[s, x], argTypes := #[t, t] })
    (base : Nat) (e : TypeId) (i : TypeInfo) (z : Value) (size bytes : Nat) (ht : P.underlying t = some (.slice e)) (hi : P.info? e = some i) (hz : i.zero = some z)
    (hsize : i.size = size) (hby : i.bytes = bytes) (hzs : z.cells.size = size) (hsz : 0 < size)
    (v : Value) (k : Nat) (xs : List Value) (hs : a.eval s = v) (hown : w.ownsRow base e size v k xs)
    (ao : Option Addr) (m c : Nat) (news : List Value) (hx : a.eval x = .slice ao m c) (hl : news.length = m * size) (hn : (ao = none ∧ m = 0) ∨ ∃ ad, ao = some ad ∧ ∀ j u, news[j]? = some u → w.cell? (ad.add j) = some u) (h1 : ∀ u ∈ news, u.oneCell' = true)
    (h63 : k + m ≤ maxLen) (hbytes : (k + m) * bytes ≤ 140737488355328) (hbase : base ≤ w.heap.size)
    (h : ∀ v' w', w'.ownsRow base e size v' (k + m) (xs ++ news) → w.grownBy w' v.ownBlock → K (a.put o.dst v') w') : o.wpIn F n P a w K Q := by
  obtain ⟨v', w', hr, h2, h3, h4⟩ := run_append_any (P := P) (w := w) t o.type base e i z size bytes ht hi hz hsize hby hzs hsz v k xs hown ao m c news hl hn h1 h63 hbytes hbase
  refine ⟨fun f hf => by simp [Oper.about, ho, resolve, Target.leads, Sem.run_pure] at hf, ?_⟩
  rw [Oper.semAt_eq _ _ _ (by rw [ho]; intro c h; cases h)]
  unfold execOp
  simp only [ho, resolve, invoke, builtin, Sem.run_bind, Sem.run_pure, Result.andThen_ok, List.map_toArray, List.map_cons, List.map_nil, hs, hx, hr]
  exact h v' w' h2 h3
theorem oIn_value {o : Oper} {K : Act → World → Prop} {r : Value} {w' : World} (ha : o.about P w a.eval = none) (hd : ∀ c, o.op ≠ .defer c) (e : (execOp a.eval o).run P w = .ok (.value r) w') (h : K (a.put o.dst r) w') : o.wpIn F n P a w K Q :=
  ⟨fun f hf => (by rw [ha] at hf; cases hf), (by rw [Oper.semAt_eq _ _ _ hd, e]; exact h)⟩
end
theorem pk_news {w : World} {b0 : Nat} {v : Value} {G : Nat} {ks : List Int} (h : RowP b0 v G ks w) : ∃ ao c, v = .slice ao ks.length c ∧ ((ao = none ∧ ks.length = 0) ∨ ∃ ad, ao = some ad ∧ ∀ j u, (ks.map (pK G))[j]? = some u → w.cell? (ad.add j) = some u) := by
  rcases h.2 with ⟨e1, e2⟩ | ⟨g, cap, cur, e1, h'⟩
  · exact ⟨none, 0, by rw [e1, e2], Or.inl ⟨rfl, e2⟩⟩
  · refine ⟨_, cap, e1, Or.inr ⟨_, rfl, fun j u hu => ?_⟩⟩
    have hj : j < ks.length := by
      have := (List.getElem?_eq_some_iff.1 hu).1
      simpa using this
    subst e1
    have := World.ownsRow.cellAt h j (by omega)
    rw [hu] at this
    have e : (⟨g, 0, none⟩ : Addr).add j = ⟨g, j, none⟩ := by unfold Addr.add; by_cases h : j = 0 <;> simp [h]
    rw [e]
    exact this
theorem pk_one (G : Nat) (ks : List Int) : ∀ u ∈ ks.map (pK G), u.oneCell' = true := fun u hu => by
  obtain ⟨k, _, rfl⟩ := List.mem_map.1 hu
  rfl
set_option maxRecDepth 100000 in
set_option maxHeartbeats 4000000 in
theorem iunder (G b off : Nat) (a : Option Addr) (ns : List PN) (ha : a = some ⟨b, off, none⟩) (ht : treeB ns = true) :
    ∀ (f : Nat), f ≤ 4 → ∀ (z : Int) (s : Nat) (w : World), Linked w G b off (linksOf ns) → Nds w a ns → PtrTo w G ns.length z (.pointer (some ⟨s, 0, none⟩)) → nIn ns.length z = true → hOk ns f z →
    Calls Try.prog 95 #[.pointer (some ⟨s, 0, none⟩)] w (PsPost G (auF ns f z) w)
  | 0, _, z, s, w, _, _, _, _, h => h.elim
  | f + 1, hf, z, s, w, hL, hz, hp, hin, hok => by
    have IH := Lib.hid (iunder G b off a ns ha ht f (by omega))
    obtain ⟨i0, hi, hz0, hz1, hz2⟩ := info_parts info_ptr
    have hsK : (Value.pointer (some ⟨s, 0, none⟩)) = pK G z := by
      obtain ⟨s', e, h⟩ := hp
      simp at e
      subst e
      rcases h with ⟨_, h2⟩ | ⟨h1, _⟩
      · unfold pK
        rw [show s = G + z.toNat by have := nIn_iff.1 hin; omega]
      · rw [hin] at h1; cases h1
    have HSK := Lib.hid hsK
    clear hsK
    refine (callsIn_wide (n := 6)).1 ?_
    refine callsIn_of_wp_marks Try.func95 rfl trivial ?_ rfl
    simp only [Try.ntmps95, List.size_toArray, List.length_cons, List.length_nil, Nat.reduceAdd, Nat.reduceSub, Array.replicate_succ, Array.replicate_zero, List.push_toArray, List.append_toArray, List.nil_append, List.cons_append]
    gi_wp2_with (refine ⟨trivial, ?_⟩; gi_at_call 131; refine (callsIn_wide.2 (ichildren s _)).mono ?_; rintro e w' ⟨rfl, rfl⟩)
    have r0 : (w.alloc (.cells #[.pointer (some ⟨s, 0, none⟩)] 84)).ownsRow w.heap.size 84 1 (.slice (some ⟨w.heap.size, 0, none⟩) 1 1) 1 [pK G z] := by
      rw [← HSK.out]
      exact World.ownsRow_lit w #[.pointer (some ⟨s, 0, none⟩)] 1 (Nat.le_refl _) (by unfold maxLen; omega) rfl
    obtain ⟨w1, e1⟩ : ∃ x, x = w.alloc (.cells #[.pointer (some ⟨s, 0, none⟩)] 84) := ⟨_, rfl⟩
    have hs1 : w1.heap.size = w.heap.size + 1 := by rw [e1]; simp
    have hB1 : Below w.heap.size w w1 := by rw [e1]; exact (Below.refl _ w).alloc (Nat.le_refl _) _
    rw [← e1] at r0 ⊢
    obtain ⟨w2, e2⟩ : ∃ x, x = w1.alloc (.cells #[.slice (some ⟨w.heap.size, 0, none⟩) 1 1] 81) := ⟨_, rfl⟩
    have b1 : Boxed w2 (w.heap.size + 1) 81 (.slice (some ⟨w.heap.size, 0, none⟩) 1 1) := by rw [e2, ← hs1]; exact Boxed.new w1 _ _
    have hs2 : w2.heap.size = w.heap.size + 2 := by rw [e2]; simp; omega
    have hB2 : Below w.heap.size w w2 := by rw [e2]; exact hB1.alloc (by omega) _
    have r2 : w2.ownsRow w.heap.size 84 1 (.slice (some ⟨w.heap.size, 0, none⟩) 1 1) 1 [pK G z] := by rw [e2]; exact World.ownsRow.alloc r0 _
    (try simp only [hs1, Nat.add_assoc, Nat.reduceAdd])
    rw [← e2]
    obtain ⟨w3, e3⟩ : ∃ x, x = w2.alloc (.cells #[.pointer (some ⟨s, 0, none⟩)] 84) := ⟨_, rfl⟩
    have b2 : Boxed w3 (w.heap.size + 2) 84 (.pointer (some ⟨s, 0, none⟩)) := by rw [e3, ← hs2]; exact Boxed.new w2 _ _
    have hs3 : w3.heap.size = w.heap.size + 3 := by rw [e3]; simp; omega
    have hB3 : Below w.heap.size w w3 := by rw [e3]; exact hB2.alloc (by omega) _
    have b1' : Boxed w3 (w.heap.size + 1) 81 (.slice (some ⟨w.heap.size, 0, none⟩) 1 1) := by rw [e3]; exact b1.alloc _
    have r3 : w3.ownsRow w.heap.size 84 1 (.slice (some ⟨w.heap.size, 0, none⟩) 1 1) 1 [pK G z] := by rw [e3]; exact World.ownsRow.alloc r2 _
    (try simp only [hs2, Nat.add_assoc, Nat.reduceAdd])
    rw [← e3]
    clear e1 e2 e3 r0 r2 b1
    have hkl := kids_len ht z
    refine wpIn_rangeFunc_ownG rfl (by omega) (gf := 147) (lb := #[.pointer (some ⟨w.heap.size + 2, 0, none⟩)]) rfl trivial (enters_of Try.func147 (by kernel_rfl) rfl)
      (ichild_stops _ (w.heap.size + 2) G b off s a ns z w hL hz ha hp hin ht w3 hB3 b2.cell) belowK_t (belowK_b (by omega)) (Below.refl _ _) (fun _ => rfl)
      (fun pre W => (∃ v, Boxed W (w.heap.size + 1) 81 v ∧ W.ownsRow w.heap.size 84 1 v (z :: (kV pre).flatMap (auF ns f)).length ((z :: (kV pre).flatMap (auF ns f)).map (pK G)) ∧ True) ∧ Below w.heap.size w W)
      (fun _ _ _ => False)
      (OwnFrom.and (Own.from (holdsRow_own w.heap.size (w.heap.size + 1) 81 84 1 (fun pre : List (Kd ns z) => (z :: (kV pre).flatMap (auF ns f)).length) (fun pre => (z :: (kV pre).flatMap (auF ns f)).map (pK G)) (fun pre v => True)) _) (ownFrom_below (by omega) (by omega)))
      (fun _ _ _ _ _ hs _ _ => hs)
      ⟨⟨_, b1', r3, trivial⟩, hB3⟩
      (fun x => { tmps := #[.pointer (some ⟨s, 0, none⟩), undef, .slice none 0 0, .pointer (some ⟨w.heap.size + 1, 0, none⟩), undef, .pointer (some ⟨G + x.1.toNat, 0, none⟩), .pointer (some ⟨s, 0, none⟩), .slice (some ⟨w.heap.size, 0, none⟩) 1 1, .pointer (some ⟨s, 0, none⟩), .func (.func 147) #[] #[.pointer (some ⟨w.heap.size + 2, 0, none⟩)], .int .i64 (rlZ (ndAt ns x.1).sty), .pointer (some ⟨G + x.1.toNat, 0, none⟩), undef, undef, undef, undef, undef], defers := [] }) ?assign ?body ?done ?stop
    case assign =>
      intro l x W K hK
      simp only [kEnc]
      gi_wp2
      exact hK
    case body =>
      rintro l pre x W ⟨⟨v, hv, hrow, _⟩, hB⟩ hlt
      have hkin := (kid_of ht x.2).1
      have hxp : PtrTo W G ns.length x.1 (.pointer (some ⟨G + x.1.toNat, 0, none⟩)) := by
        have h1 := nIn_iff.1 hkin
        exact ⟨G + x.1.toNat, rfl, Or.inl ⟨hkin, by omega⟩⟩
      have ekv : kV (pre ++ [x]) = kV pre ++ [x.1] := by simp
      have hfl : ((kV pre).flatMap (auF ns f)).length ≤ 12 * 13 ^ f := by
        have h1 := flat_len (auF_len ht f) (kV pre)
        have h2 : (kV pre).length ≤ 12 := by simp; omega
        exact Nat.le_trans h1 (Nat.mul_le_mul_right _ h2)
      have hxl := auF_len ht f x.1
      have hpw : 13 ^ f ≤ 2197 := by
        have : 13 ^ f ≤ 13 ^ 3 := Nat.pow_le_pow_right (by decide) (by omega)
        simpa using this
      have HX := Lib.hid hxp
      have KA := Lib.hid (fun W' (h : Below W.heap.size W W') => IH.out x.1 (G + x.1.toNat) W' (hL.below (hB.trans (h.mono hB.size))) (hz.below (hB.trans (h.mono hB.size))) (hxp.below h) hkin (hok x.1 x.2))
      have hsnoc : z :: (kV (pre ++ [x])).flatMap (auF ns f) = (z :: (kV pre).flatMap (auF ns f)) ++ auF ns f x.1 := by rw [ekv]; simp
      have HSN := Lib.hid hsnoc
      clear hxp ekv hsnoc
      have hLl : (z :: (kV pre).flatMap (auF ns f)).length ≤ 26365 := by rw [List.length_cons]; omega
      have hRl : (auF ns f x.1).length ≤ 2197 := by omega
      clear hfl hxl hpw
      generalize z :: (kV pre).flatMap (auF ns f) = L at *
      generalize auF ns f x.1 = R at *
      gi_wp2
      obtain ⟨va, vc, rfl⟩ := own_form hrow
      refine wpIn_region_any (by kernel_rfl) ?_
      change wpAnyIn _ _ _ _ _ _ _ _ _ (World.drew _)
      obtain ⟨d, ed⟩ : ∃ d, d = W.drew := ⟨_, rfl⟩
      have bd : Below W.heap.size W d := by rw [ed]; exact (Below.refl _ _).drew
      have vd : Boxed d (w.heap.size + 1) 81 (.slice va L.length vc) := hv.kept (bel_grown bd none) (by simp)
      rw [← ed]
      clear ed
      have cd := vd.cell
      refine anyIn_2 0 1 rfl rfl (by kernel_rfl) rfl rfl ?_ ?_
      · refine oIn_value (r := .slice va L.length vc) (w' := d) rfl (by intro c h; cases h) (by have hq := cd; go_simp <;> with_reducible rfl) ?_
        simp only [Act.put, List.setIfInBounds_toArray, List.set_cons_succ, List.set_cons_zero]
        refine anyIn_1 1 rfl (by kernel_rfl) rfl ?_
        refine oIn_value (r := .pointer (some ⟨G + x.1.toNat, 0, none⟩)) (w' := d) rfl (by intro c h; cases h) (by go_simp <;> with_reducible rfl) ?_
        simp only [Act.put, List.setIfInBounds_toArray, List.set_cons_succ, List.set_cons_zero]
        refine anyIn_1 2 rfl (by kernel_rfl) rfl ?_
        go_simp
        refine ⟨trivial, (CallsIn.inRound l (callsIn_wide.2 (KA.out d bd))).mono ?_⟩
        rintro e W2 ⟨v2, rfl, hr2, b2⟩
        dsimp only
        obtain ⟨ao, c2, rfl, hnw⟩ := pk_news hr2
        have hB2 : Below W.heap.size W W2 := bd.trans (b2.mono bd.size)
        have v2d : Boxed W2 (w.heap.size + 1) 81 (.slice va L.length vc) := vd.kept (bel_grown b2 none) (by simp)
        have c2d := v2d.cell
        have hrow2 : W2.ownsRow w.heap.size 84 1 (.slice va L.length vc) L.length (L.map (pK G)) := ownsRow_from hrow (From.of_below hB2)
        have hn0 : w.heap.size ≤ W2.heap.size := Nat.le_trans hB.size hB2.size
        refine anyIn_1 3 rfl (by kernel_rfl) rfl ?_
        refine oIn_append_any (Operand.tmp 12) (Operand.tmp 14) 81 rfl w.heap.size 84 i0 (.pointer none) 1 8 Try.underlying81 hi hz0 hz1 hz2 rfl (by decide) (.slice va L.length vc) L.length (L.map (pK G)) rfl hrow2 ao R.length c2 (R.map (pK G)) rfl (by simp) hnw (pk_one G R) (by unfold maxLen; omega) (by omega) hn0 ?_
        intro v3 W3 hown3 hgr3
        obtain ⟨a3, c3, rfl⟩ := own_form hown3
        simp only [Act.put, List.setIfInBounds_toArray, List.set_cons_succ, List.set_cons_zero]
        refine anyIn_1 4 rfl (by kernel_rfl) rfl ?_
        have v3d : Boxed W3 (w.heap.size + 1) 81 (.slice va L.length vc) := v2d.kept hgr3 (v2d.not_row (by decide) hrow2)
        have c3d := v3d.cell
        have f3d := v3d.frozen
        have hko := ((KeepsOthers.of_grownBy (bel_grown hB2 none) (fun j o e => by cases e)).trans (KeepsOthers.of_grownBy hgr3 (fun j o ej hj => by
          rcases hrow2.2 with ⟨e, _⟩ | ⟨g, cap, cur, e, _, hgb, _⟩
          · rw [e] at ej; simp [Value.ownBlock] at ej
          · rw [e] at ej
            simp [Value.ownBlock] at ej
            subst ej
            rw [hgb] at hj
            cases hj
            rfl))).trans (KeepsOthers.setCell W3 ⟨w.heap.size + 1, 0, none⟩ (.slice a3 (L.length + R.length) c3))
        have hbb : Below w.heap.size W (W3.setCell ⟨w.heap.size + 1, 0, none⟩ (.slice a3 (L.length + R.length) c3)) := ((hB2.mono hB.size).grown hgr3 hn0 (fun k hk => (hrow2.lt k hk).1)).setCell (p := ⟨w.heap.size + 1, 0, none⟩) (by show w.heap.size ≤ w.heap.size + 1; omega) _
        have hv4 := v3d.set (.slice a3 (L.length + R.length) c3)
        have hr4 := hown3.kept (grownBy_setCell' W3 (w.heap.size + 1) (.slice a3 (L.length + R.length) c3)) (.inr (v3d.not_row (by decide) hown3).symm)
        have HFIN := Lib.hid (show KeepsFrom w3.heap.size W (W3.setCell ⟨w.heap.size + 1, 0, none⟩ (.slice a3 (L.length + R.length) c3)) ∧ Below w.heap.size W (W3.setCell ⟨w.heap.size + 1, 0, none⟩ (.slice a3 (L.length + R.length) c3)) ∧ (∃ v, Boxed (W3.setCell ⟨w.heap.size + 1, 0, none⟩ (.slice a3 (L.length + R.length) c3)) (w.heap.size + 1) 81 v ∧ (W3.setCell ⟨w.heap.size + 1, 0, none⟩ (.slice a3 (L.length + R.length) c3)).ownsRow w.heap.size 84 1 v (z :: (kV (pre ++ [x])).flatMap (auF ns f)).length ((z :: (kV (pre ++ [x])).flatMap (auF ns f)).map (pK G)) ∧ True) ∧ Below w.heap.size w (W3.setCell ⟨w.heap.size + 1, 0, none⟩ (.slice a3 (L.length + R.length) c3)) from
          ⟨hko.from _, hbb, ⟨_, hv4, by rw [HSN.out, List.length_append, List.map_append]; exact hr4, trivial⟩, hB.trans hbb⟩)
        clear hko hbb hv4 hr4 hown3 hgr3 hnw hrow2 v2d c2d
        go_simp
        refine wpAnyIn_done (by kernel_rfl) ?_ _
        gi_wp2
        exact HFIN.out
      · refine oIn_value (r := .pointer (some ⟨G + x.1.toNat, 0, none⟩)) (w' := d) rfl (by intro c h; cases h) (by go_simp <;> with_reducible rfl) ?_
        simp only [Act.put, List.setIfInBounds_toArray, List.set_cons_succ, List.set_cons_zero]
        refine anyIn_2 0 2 rfl rfl (by kernel_rfl) rfl rfl ?_ ?_
        · refine oIn_value (r := .slice va L.length vc) (w' := d) rfl (by intro c h; cases h) (by have hq := cd; go_simp <;> with_reducible rfl) ?_
          simp only [Act.put, List.setIfInBounds_toArray, List.set_cons_succ, List.set_cons_zero]
          refine anyIn_1 2 rfl (by kernel_rfl) rfl ?_
          go_simp
          refine ⟨trivial, (CallsIn.inRound l (callsIn_wide.2 (KA.out d bd))).mono ?_⟩
          rintro e W2 ⟨v2, rfl, hr2, b2⟩
          dsimp only
          obtain ⟨ao, c2, rfl, hnw⟩ := pk_news hr2
          have hB2 : Below W.heap.size W W2 := bd.trans (b2.mono bd.size)
          have v2d : Boxed W2 (w.heap.size + 1) 81 (.slice va L.length vc) := vd.kept (bel_grown b2 none) (by simp)
          have c2d := v2d.cell
          have hrow2 : W2.ownsRow w.heap.size 84 1 (.slice va L.length vc) L.length (L.map (pK G)) := ownsRow_from hrow (From.of_below hB2)
          have hn0 : w.heap.size ≤ W2.heap.size := Nat.le_trans hB.size hB2.size
          refine anyIn_1 3 rfl (by kernel_rfl) rfl ?_
          refine oIn_append_any (Operand.tmp 12) (Operand.tmp 14) 81 rfl w.heap.size 84 i0 (.pointer none) 1 8 Try.underlying81 hi hz0 hz1 hz2 rfl (by decide) (.slice va L.length vc) L.length (L.map (pK G)) rfl hrow2 ao R.length c2 (R.map (pK G)) rfl (by simp) hnw (pk_one G R) (by unfold maxLen; omega) (by omega) hn0 ?_
          intro v3 W3 hown3 hgr3
          obtain ⟨a3, c3, rfl⟩ := own_form hown3
          simp only [Act.put, List.setIfInBounds_toArray, List.set_cons_succ, List.set_cons_zero]
          refine anyIn_1 4 rfl (by kernel_rfl) rfl ?_
          have v3d : Boxed W3 (w.heap.size + 1) 81 (.slice va L.length vc) := v2d.kept hgr3 (v2d.not_row (by decide) hrow2)
          have c3d := v3d.cell
          have f3d := v3d.frozen
          have hko := ((KeepsOthers.of_grownBy (bel_grown hB2 none) (fun j o e => by cases e)).trans (KeepsOthers.of_grownBy hgr3 (fun j o ej hj => by
            rcases hrow2.2 with ⟨e, _⟩ | ⟨g, cap, cur, e, _, hgb, _⟩
            · rw [e] at ej; simp [Value.ownBlock] at ej
            · rw [e] at ej
              simp [Value.ownBlock] at ej
              subst ej
              rw [hgb] at hj
              cases hj
              rfl))).trans (KeepsOthers.setCell W3 ⟨w.heap.size + 1, 0, none⟩ (.slice a3 (L.length + R.length) c3))
          have hbb : Below w.heap.size W (W3.setCell ⟨w.heap.size + 1, 0, none⟩ (.slice a3 (L.length + R.length) c3)) := ((hB2.mono hB.size).grown hgr3 hn0 (fun k hk => (hrow2.lt k hk).1)).setCell (p := ⟨w.heap.size + 1, 0, none⟩) (by show w.heap.size ≤ w.heap.size + 1; omega) _
          have hv4 := v3d.set (.slice a3 (L.length + R.length) c3)
          have hr4 := hown3.kept (grownBy_setCell' W3 (w.heap.size + 1) (.slice a3 (L.length + R.length) c3)) (.inr (v3d.not_row (by decide) hown3).symm)
          have HFIN := Lib.hid (show KeepsFrom w3.heap.size W (W3.setCell ⟨w.heap.size + 1, 0, none⟩ (.slice a3 (L.length + R.length) c3)) ∧ Below w.heap.size W (W3.setCell ⟨w.heap.size + 1, 0, none⟩ (.slice a3 (L.length + R.length) c3)) ∧ (∃ v, Boxed (W3.setCell ⟨w.heap.size + 1, 0, none⟩ (.slice a3 (L.length + R.length) c3)) (w.heap.size + 1) 81 v ∧ (W3.setCell ⟨w.heap.size + 1, 0, none⟩ (.slice a3 (L.length + R.length) c3)).ownsRow w.heap.size 84 1 v (z :: (kV (pre ++ [x])).flatMap (auF ns f)).length ((z :: (kV (pre ++ [x])).flatMap (auF ns f)).map (pK G)) ∧ True) ∧ Below w.heap.size w (W3.setCell ⟨w.heap.size + 1, 0, none⟩ (.slice a3 (L.length + R.length) c3)) from
            ⟨hko.from _, hbb, ⟨_, hv4, by rw [HSN.out, List.length_append, List.map_append]; exact hr4, trivial⟩, hB.trans hbb⟩)
          clear hko hbb hv4 hr4 hown3 hgr3 hnw hrow2 v2d c2d
          go_simp
          refine wpAnyIn_done (by kernel_rfl) ?_ _
          gi_wp2
          exact HFIN.out
        · go_simp
          refine ⟨trivial, (CallsIn.inRound l (callsIn_wide.2 (KA.out d bd))).mono ?_⟩
          rintro e W2 ⟨v2, rfl, hr2, b2⟩
          dsimp only
          obtain ⟨ao, c2, rfl, hnw⟩ := pk_news hr2
          have hB2 : Below W.heap.size W W2 := bd.trans (b2.mono bd.size)
          have v2d : Boxed W2 (w.heap.size + 1) 81 (.slice va L.length vc) := vd.kept (bel_grown b2 none) (by simp)
          have c2d := v2d.cell
          have hrow2 : W2.ownsRow w.heap.size 84 1 (.slice va L.length vc) L.length (L.map (pK G)) := ownsRow_from hrow (From.of_below hB2)
          have hn0 : w.heap.size ≤ W2.heap.size := Nat.le_trans hB.size hB2.size
          refine anyIn_1 0 rfl (by kernel_rfl) rfl ?_
          refine oIn_value (r := .slice va L.length vc) (w' := W2) rfl (by intro c h; cases h) (by have hq := c2d; go_simp <;> with_reducible rfl) ?_
          simp only [Act.put, List.setIfInBounds_toArray, List.set_cons_succ, List.set_cons_zero]
          refine anyIn_1 3 rfl (by kernel_rfl) rfl ?_
          refine oIn_append_any (Operand.tmp 12) (Operand.tmp 14) 81 rfl w.heap.size 84 i0 (.pointer none) 1 8 Try.underlying81 hi hz0 hz1 hz2 rfl (by decide) (.slice va L.length vc) L.length (L.map (pK G)) rfl hrow2 ao R.length c2 (R.map (pK G)) rfl (by simp) hnw (pk_one G R) (by unfold maxLen; omega) (by omega) hn0 ?_
          intro v3 W3 hown3 hgr3
          obtain ⟨a3, c3, rfl⟩ := own_form hown3
          simp only [Act.put, List.setIfInBounds_toArray, List.set_cons_succ, List.set_cons_zero]
          refine anyIn_1 4 rfl (by kernel_rfl) rfl ?_
          have v3d : Boxed W3 (w.heap.size + 1) 81 (.slice va L.length vc) := v2d.kept hgr3 (v2d.not_row (by decide) hrow2)
          have c3d := v3d.cell
          have f3d := v3d.frozen
          have hko := ((KeepsOthers.of_grownBy (bel_grown hB2 none) (fun j o e => by cases e)).trans (KeepsOthers.of_grownBy hgr3 (fun j o ej hj => by
            rcases hrow2.2 with ⟨e, _⟩ | ⟨g, cap, cur, e, _, hgb, _⟩
            · rw [e] at ej; simp [Value.ownBlock] at ej
            · rw [e] at ej
              simp [Value.ownBlock] at ej
              subst ej
              rw [hgb] at hj
              cases hj
              rfl))).trans (KeepsOthers.setCell W3 ⟨w.heap.size + 1, 0, none⟩ (.slice a3 (L.length + R.length) c3))
          have hbb : Below w.heap.size W (W3.setCell ⟨w.heap.size + 1, 0, none⟩ (.slice a3 (L.length + R.length) c3)) := ((hB2.mono hB.size).grown hgr3 hn0 (fun k hk => (hrow2.lt k hk).1)).setCell (p := ⟨w.heap.size + 1, 0, none⟩) (by show w.heap.size ≤ w.heap.size + 1; omega) _
          have hv4 := v3d.set (.slice a3 (L.length + R.length) c3)
          have hr4 := hown3.kept (grownBy_setCell' W3 (w.heap.size + 1) (.slice a3 (L.length + R.length) c3)) (.inr (v3d.not_row (by decide) hown3).symm)
          have HFIN := Lib.hid (show KeepsFrom w3.heap.size W (W3.setCell ⟨w.heap.size + 1, 0, none⟩ (.slice a3 (L.length + R.length) c3)) ∧ Below w.heap.size W (W3.setCell ⟨w.heap.size + 1, 0, none⟩ (.slice a3 (L.length + R.length) c3)) ∧ (∃ v, Boxed (W3.setCell ⟨w.heap.size + 1, 0, none⟩ (.slice a3 (L.length + R.length) c3)) (w.heap.size + 1) 81 v ∧ (W3.setCell ⟨w.heap.size + 1, 0, none⟩ (.slice a3 (L.length + R.length) c3)).ownsRow w.heap.size 84 1 v (z :: (kV (pre ++ [x])).flatMap (auF ns f)).length ((z :: (kV (pre ++ [x])).flatMap (auF ns f)).map (pK G)) ∧ True) ∧ Below w.heap.size w (W3.setCell ⟨w.heap.size + 1, 0, none⟩ (.slice a3 (L.length + R.length) c3)) from
            ⟨hko.from _, hbb, ⟨_, hv4, by rw [HSN.out, List.length_append, List.map_append]; exact hr4, trivial⟩, hB.trans hbb⟩)
          clear hko hbb hv4 hr4 hown3 hgr3 hnw hrow2 v2d c2d
          go_simp
          refine wpAnyIn_done (by kernel_rfl) ?_ _
          gi_wp2
          exact HFIN.out
    case done =>
      rintro D ys W hD rfl ⟨⟨v, hv, hrow, _⟩, hB⟩ hK
      have hc := hv.cell
      gi_wp2
      refine ⟨by simp, .inl ⟨_, _, rfl, run_takeDeferred hK, ?_⟩⟩
      refine ⟨_, results_tmp rfl _ _ _, v, rfl, ?_, ?_⟩
      · have h := ownsRow_putObj hrow (.deferred none) hK rfl
        have e : kV (kidsZ ns z).attach = kidsZ ns z := by simp
        rw [e] at h
        exact h
      · exact hB.trans (belowK_b (w := w) (Nat.le_refl _) W D _ _ (by omega) hK rfl rfl)
    case stop =>
      rintro D c pre W _ _ h _
      exact h.elim
set_option maxHeartbeats 1000000 in
theorem iallunder (a : Option Addr) (cap : Nat) (ns : List PN) (z0 : Int) (w : World) (hz : Nds w a ns) (hl : szS ns ≤ 1048576) (hz0 : I64 z0) :
    Calls Try.prog 40 #[.agg #[.slice a ns.length cap], .int .i64 z0] w (OutPost (auV ns z0) w) := by
  have B0 := bel_alloc w (.cells #[.slice a ns.length cap] 26)
  obtain ⟨u, eu⟩ : ∃ u, u = w.alloc (.cells #[.slice a ns.length cap] 26) := ⟨_, rfl⟩
  rw [← eu] at B0
  have EU := Lib.hid eu
  have HZ := Lib.hid (hz.below B0)
  have HB := Lib.hid B0
  have KN := Lib.hid (inodeof a cap ns z0 u HZ.out hl hz0)
  have h0 := hp_new w (.cells #[.slice a ns.length cap] 26)
  rw [← eu] at h0
  have c0 := Go.Joins.cell_of_block h0 0
  simp at c0
  clear B0 hz eu h0
  by_cases hh : (nIn ns.length z0 && treeB ns) = true
  · have hv : auV ns z0 = auF ns 4 z0 := by unfold auV; rw [if_pos hh]
    have h1 : nIn ns.length z0 = true ∧ treeB ns = true := by simpa using hh
    have HV := Lib.hid hv
    have HT := Lib.hid h1.2
    have HIN := Lib.hid h1.1
    have HH := Lib.hid hh
    clear hv h1 hh
    go_enter Try.func40, Try.ntmps40
    go_wp2_with (rw [← EU.out])
    refine KN.out.mono ?_
    rintro e w1 ⟨b1, h1⟩
    rw [if_pos HH.out] at h1
    obtain ⟨G, b, off, s0, rfl, ha, _, hL, hp⟩ := h1
    have heq0 : (binOp .eql 84 (.pointer (some ⟨s0, 0, none⟩)) (.pointer none)).run Try.prog w1 = .ok (.bool false) w1 := by kernel_rfl
    have HL := Lib.hid hL
    have HP := Lib.hid hp
    have HZ1 := Lib.hid (HZ.out.below b1)
    have HB1 := Lib.hid (HB.out.trans (b1.mono HB.out.size))
    clear b1 hL hp c0
    dsimp only
    go_wp2_with (fail)
    refine (iunder G b off a ns ha HT.out 4 (Nat.le_refl _) z0 s0 w1 HL.out HZ1.out HP.out HIN.out (au_ok HT.out HIN.out)).mono ?_
    rintro e w2 ⟨v, rfl, hrow, b2⟩
    obtain ⟨va, vc, rfl, hn⟩ := hrow.num (HL.out.below b2) (fun k hk => auF_in HT.out 4 z0 HIN.out k hk)
    have HN := Lib.hid hn
    have HB2 := Lib.hid (HB1.out.trans (b2.mono HB1.out.size))
    have hkt := auF_len HT.out 4 z0
    clear hrow b2 hn heq0
    generalize auF ns 4 z0 = ks at *
    have hkt' : ks.length ≤ 1048576 := by omega
    clear hkt
    dsimp only
    go_wp2_with (fail)
    refine (inumbersof va vc ks w2 hkt' HN.out).mono ?_
    rintro e w3 ⟨v, rfl, ho, b3⟩
    have HO := Lib.hid ho
    have HB3 := Lib.hid (HB2.out.trans (b3.mono HB2.out.size))
    have hs := HB2.out.size
    clear ho b3
    dsimp only
    go_wp2_with (fail)
    go_ret
    exact ⟨_, rfl, by rw [HV.out]; exact ownsRow_le HO.out hs, HB3.out⟩
  · have hv : auV ns z0 = [] := by unfold auV; rw [if_neg hh]
    have HV := Lib.hid hv
    have HH := Lib.hid hh
    clear hv hh
    go_enter Try.func40, Try.ntmps40
    go_wp2_with (rw [← EU.out])
    refine KN.out.mono ?_
    rintro e w1 ⟨b1, h1⟩
    rw [if_neg HH.out] at h1
    subst h1
    have HB1 := Lib.hid (HB.out.trans (b1.mono HB.out.size))
    clear b1 c0
    dsimp only
    go_wp2_with (fail)
    go_ret
    exact ⟨_, rfl, by rw [HV.out]; exact World.ownsRow_nil _ _ _ _, HB1.out⟩
end Go.Proofs.Ytiogjbdaaplhpaa
end

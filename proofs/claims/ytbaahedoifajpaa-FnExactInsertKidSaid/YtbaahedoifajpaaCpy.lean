/-
  Copies of slices, nodes and trees: slices.Clone, tableCopy, nodeCopy, treeCopy and the model's l10Copy. Conditions: no list of more than 1048576.
-/
import Derived.Test.YtbaahedoifajpaaNdA
import Derived.Test.YtbaahedoifajpaaDep
import Derived.Deep.Upon
import Derived.Deep.AppendLies
namespace Go.Proofs.Ytbaahedoifajpaa
open Go.ChangeShapes Go.WideShapes Go.ChangeAt Go.RowKit
set_option linter.unusedVariables false
set_option linter.unusedSimpArgs false
set_option maxRecDepth 8000

section
variable {P : Program} {w : World}
/-- 'append(own, x...)', x a slice that may be nil. -/
theorem run_append_any (t ty : TypeId) (base : Nat) (e : TypeId) (i : TypeInfo) (z : Value) (size bytes : Nat) (ht : P.underlying t = some (.slice e)) (hi : P.info? e = some i) (hz : i.zero = some z)
    (hsize : i.size = size) (hby : i.bytes = bytes) (hzs : z.cells.size = size) (hsz : 0 < size)
    (v : Value) (n : Nat) (xs : List Value) (hown : w.ownsRow base e size v n xs)
    (ao : Option Addr) (m c : Nat) (news : List Value) (hl : news.length = m * size) (hn : (ao = none ∧ m = 0) ∨ ∃ ad, ao = some ad ∧ ∀ j u, news[j]? = some u → w.cell? (ad.add j) = some u) (h1 : ∀ u ∈ news, u.oneCell' = true)
    (h63 : n + m ≤ maxLen) (hbytes : (n + m) * bytes ≤ 140737488355328) (hbase : base ≤ w.heap.size) :
    ∃ v' w', (Builtin.append_ #[t, t] ty #[v, .slice ao m c]).run P w = .ok v' w' ∧ w'.ownsRow base e size v' (n + m) (xs ++ news) ∧ w.grownBy w' v.ownBlock ∧ (v'.ownBlock = v.ownBlock ∨ v'.ownBlock = some w.heap.size) := by
  rcases hn with ⟨rfl, rfl⟩ | ⟨ad, rfl, hnews⟩
  · have hnil : news = [] := List.length_eq_zero_iff.1 (by simpa using hl)
    subst hnil
    refine ⟨v, w, ?_, by simpa using hown, ⟨rfl, rfl, rfl, Nat.le_refl _, fun _ _ _ => rfl⟩, Or.inl rfl⟩
    rcases hown.2 with ⟨rfl, rfl⟩ | ⟨g, cap, cur, rfl, _, _, hle, _⟩
    · exact run_append_nothing w t t ty e i ht hi none 0 0 (Nat.le_refl _) _ (hsize ▸ Src.ofNil w ht c)
    · exact run_append_nothing w t t ty e i ht hi (some ⟨g, 0, none⟩) n cap hle _ (hsize ▸ Src.ofNil w ht c)
  · obtain ⟨v', w', hr, h2, h3, _, h5⟩ := run_append_own_at (P := P) w base t ty e i z size bytes ht hi hz hsize hby hzs hsz v n xs hown ad m c news hl hnews h1 h63 hbytes hbase
    exact ⟨v', w', hr, h2, h3, h5⟩
theorem wp_append_any {o : Oper} {a : Act} {K : Act → World → Prop} {Q : Exit → Act → World → Prop} (s x : Operand) (t : TypeId)
    (ho : o.op = .call { callee := .builtin .append, args := #[s, x], argTypes := #[t, t] })
    (base : Nat) (e : TypeId) (i : TypeInfo) (z : Value) (size bytes : Nat) (ht : P.underlying t = some (.slice e)) (hi : P.info? e = some i) (hz : i.zero = some z)
    (hsize : i.size = size) (hby : i.bytes = bytes) (hzs : z.cells.size = size) (hsz : 0 < size)
    (v : Value) (n : Nat) (xs : List Value) (hs : a.eval s = v) (hown : w.ownsRow base e size v n xs)
    (ao : Option Addr) (m c : Nat) (news : List Value) (hx : a.eval x = .slice ao m c) (hl : news.length = m * size) (hn : (ao = none ∧ m = 0) ∨ ∃ ad, ao = some ad ∧ ∀ j u, news[j]? = some u → w.cell? (ad.add j) = some u) (h1 : ∀ u ∈ news, u.oneCell' = true)
    (h63 : n + m ≤ maxLen) (hbytes : (n + m) * bytes ≤ 140737488355328) (hbase : base ≤ w.heap.size)
    (h : ∀ v' w', w'.ownsRow base e size v' (n + m) (xs ++ news) → w.grownBy w' v.ownBlock → (v'.ownBlock = v.ownBlock ∨ v'.ownBlock = some w.heap.size) → K (a.put o.dst v') w') : o.wp P a w K Q := by
  obtain ⟨v', w', hr, h2, h3, h4⟩ := run_append_any (P := P) t o.type base e i z size bytes ht hi hz hsize hby hzs hsz v n xs hown ao m c news hl hn h1 h63 hbytes hbase
  unfold Oper.wp execOp
  simp only [ho, resolve, invoke, builtin, Sem.run_bind, Sem.run_pure, Result.andThen_ok, List.map_toArray, List.map_cons, List.map_nil, hs, hx, hr]
  exact h v' w' h2 h3 h4
theorem list_append_any {ops : Array Oper} {rest : List Oper} {o : Oper} {a : Act} {Q : Exit → Act → World → Prop} (hgd : o.guard = none) (s x : Operand) (t : TypeId)
    (ho : o.op = .call { callee := .builtin .append, args := #[s, x], argTypes := #[t, t] })
    (base : Nat) (e : TypeId) (i : TypeInfo) (z : Value) (size bytes : Nat) (ht : P.underlying t = some (.slice e)) (hi : P.info? e = some i) (hz : i.zero = some z)
    (hsize : i.size = size) (hby : i.bytes = bytes) (hzs : z.cells.size = size) (hsz : 0 < size)
    (v : Value) (n : Nat) (xs : List Value) (hs : a.eval s = v) (hown : w.ownsRow base e size v n xs)
    (ao : Option Addr) (m c : Nat) (news : List Value) (hx : a.eval x = .slice ao m c) (hl : news.length = m * size) (hn : (ao = none ∧ m = 0) ∨ ∃ ad, ao = some ad ∧ ∀ j u, news[j]? = some u → w.cell? (ad.add j) = some u) (h1 : ∀ u ∈ news, u.oneCell' = true)
    (h63 : n + m ≤ maxLen) (hbytes : (n + m) * bytes ≤ 140737488355328) (hbase : base ≤ w.heap.size)
    (h : ∀ v' w', w'.ownsRow base e size v' (n + m) (xs ++ news) → w.grownBy w' v.ownBlock → (v'.ownBlock = v.ownBlock ∨ v'.ownBlock = some w.heap.size) → wpList P ops Q rest (a.put o.dst v') w') : wpList P ops Q (o :: rest) a w :=
  wpList_plain hgd fun _ hK => wp_append_any s x t ho base e i z size bytes ht hi hz hsize hby hzs hsz v n xs hs hown ao m c news hx hl hn h1 h63 hbytes hbase fun v' w' h2 h3 h4 => hK _ _ (h v' w' h2 h3 h4)
end
/-- A value with the row of its length. -/
theorem own_form {w : World} {base n size : Nat} {e : TypeId} {v : Value} {xs : List Value} (h : w.ownsRow base e size v n xs) : ∃ a c, v = .slice a n c := by
  rcases h.2 with ⟨rfl, rfl⟩ | ⟨g, cap, cur, rfl, _⟩
  · exact ⟨none, 0, rfl⟩
  · exact ⟨_, cap, rfl⟩
/-- The ints of a slice, to be appended. -/
theorem ints_news {w : World} {a : Option Addr} {zs : List Int} (h : Ints w a zs.length zs) : (a = none ∧ zs.length = 0) ∨ ∃ ad, a = some ad ∧ ∀ j u, (zs.map (Value.int .i64))[j]? = some u → w.cell? (ad.add j) = some u := by
  rcases h.2.2 with h0 | ⟨b, off, rfl, _, hc⟩
  · cases a with
    | none => exact Or.inl ⟨rfl, h0⟩
    | some ad =>
      refine Or.inr ⟨ad, rfl, fun j u hu => ?_⟩
      rw [List.length_eq_zero_iff.1 h0] at hu
      simp at hu
  · refine Or.inr ⟨_, rfl, fun j u hu => ?_⟩
    have hj : j < zs.length := by have := (List.getElem?_eq_some_iff.1 hu).1; simpa using this
    rw [Addr.add_mid, hc j hj]
    rw [List.getElem?_map, List.getElem?_eq_getElem hj] at hu
    simp at hu
    rw [← hu, List.getD_eq_getElem?_getD, List.getElem?_eq_getElem hj]; rfl
theorem rls_news {w : World} {a : Option Addr} {len : Nat} {zs : List Int} (h : Rls w a len zs) : (a = none ∧ len = 0) ∨ ∃ ad, a = some ad ∧ ∀ j u, (zs.map (Value.int .i64))[j]? = some u → w.cell? (ad.add j) = some u := by
  have hl := h.1
  rcases h.2.2 with h0 | ⟨b, off, rfl, _, hc⟩
  · cases a with
    | none => exact Or.inl ⟨rfl, h0⟩
    | some ad =>
      refine Or.inr ⟨ad, rfl, fun j u hu => ?_⟩
      rw [List.length_eq_zero_iff.1 (by omega : zs.length = 0)] at hu
      simp at hu
  · refine Or.inr ⟨_, rfl, fun j u hu => ?_⟩
    have hj : j < zs.length := by have := (List.getElem?_eq_some_iff.1 hu).1; simpa using this
    rw [Addr.add_mid, hc j (by omega)]
    rw [List.getElem?_map, List.getElem?_eq_getElem hj] at hu
    simp at hu
    rw [← hu, List.getD_eq_getElem?_getD, List.getElem?_eq_getElem hj]; rfl
theorem ints_one' (zs : List Int) : ∀ u ∈ zs.map (Value.int .i64), u.oneCell' = true := fun u hu => by
  obtain ⟨z, _, rfl⟩ := List.mem_map.1 hu
  rfl
theorem info_intC : (Try.prog.info? 3).map (fun i => (i.zero, i.size, i.bytes)) = some (some (.int .i64 0), 1, 8) := by kernel_rfl
theorem eql_nil {t e : TypeId} (w : World) (a : Option Addr) (l c : Nat) (h : Try.prog.underlying t = some (.slice e)) : (binOp .eql t (.slice a l c) (.slice none 0 0)).run Try.prog w = .ok (.bool a.isNone) w := by
  have hh : ∀ d : Nat, (Op.equalIn (d + 1) t (.slice a l c) (.slice none 0 0)).run Try.prog w = .ok a.isNone w := fun d => by
    cases a <;> simp [Op.equalIn, run_underlying h]
  simp only [binOp]
  simp [Op.equal, Op.maxDepth, hh 9999]
/-- slices.Clone of ints -/
theorem iclone_i (a : Option Addr) (c : Nat) (zs : List Int) (w : World) (hz : Ints w a zs.length zs) (hl : zs.length ≤ 1048576) :
    Calls Try.prog 110 #[.slice a zs.length c] w fun e w' => ∃ v, e = .returned v ∧ KRow w.heap.size v zs w' ∧ Below w.heap.size w w' := by
  obtain ⟨i0, hi, hz0, hz1, hz2⟩ := info_parts info_intC
  cases a with
  | none =>
    have h0 : zs.length = 0 := by
      rcases hz.2.2 with h0 | ⟨b, off, e, _⟩
      · exact h0
      · cases e
    have hnil : zs = [] := List.length_eq_zero_iff.1 h0
    subst hnil
    have heq := eql_nil w none 0 c Try.underlying59
    go_enter Try.func110, Try.ntmps110
    go_wp2
    go_ret
    exact ⟨_, rfl, ⟨none, 0, rfl, Or.inl rfl⟩, Below.refl _ _⟩
  | some ad =>
    have hn := ints_news hz
    have hown : (w.alloc (.cells #[] 3)).ownsRow w.heap.size 3 1 (.slice (some ⟨w.heap.size, 0, none⟩) 0 0) 0 [] := World.ownsRow_lit w #[] 0 (Nat.le_refl _) (by unfold maxLen; omega) rfl
    have b1 := Go.Joins.below_alloc1 w (.cells #[] 3)
    have hn1 := ints_news (hz.below b1)
    have HO := Lib.hid hown
    have HN := Lib.hid hn1
    have heq := eql_nil w (some ad) zs.length c Try.underlying59
    clear hz hn hown hn1
    go_enter Try.func110, Try.ntmps110
    go_wp2_with (first
      | (at_builtin; refine list_append_any rfl _ _ 59 rfl w.heap.size 3 i0 (.int .i64 0) 1 8 Try.underlying59 hi hz0 hz1 hz2 rfl (by decide) _ 0 [] rfl HO.out (some ad) zs.length c (zs.map (Value.int .i64)) rfl (by simp) HN.out (ints_one' zs) (by unfold maxLen; omega) (by omega) (by simp) ?_)
      | fail)
    intro v' w3 hown3 hgr _
    have hk : KRow w.heap.size v' zs w3 := by
      obtain ⟨a', c', e⟩ := own_form hown3
      refine ⟨a', c', by simpa using e, Or.inr ?_⟩
      unfold RowI
      simpa using hown3
    have hb : Below w.heap.size w w3 := ((b1).grown hgr b1.size (fun k hk => by simp [Value.ownBlock] at hk; omega))
    clear hown3 hgr HO HN b1
    go_wp2
    go_ret
    exact ⟨_, rfl, hk, hb⟩
/-- slices.Clone of rules -/
theorem iclone_r (a : Option Addr) (len c : Nat) (zs : List Int) (w : World) (hz : Rls w a len zs) (hl : len ≤ 1048576) :
    Calls Try.prog 101 #[.slice a len c] w fun e w' => ∃ v, e = .returned v ∧ TRow w.heap.size v len zs w' ∧ Below w.heap.size w w' := by
  obtain ⟨i0, hi, hz0, hz1, hz2⟩ := info_parts info_rule
  cases a with
  | none =>
    have h0 : len = 0 := by
      rcases hz.2.2 with h0 | ⟨b, off, e, _⟩
      · exact h0
      · cases e
    subst h0
    have heq := eql_nil w none 0 c Try.underlying49
    go_enter Try.func101, Try.ntmps101
    go_wp2
    go_ret
    exact ⟨_, rfl, ⟨none, 0, rfl, Or.inl rfl⟩, Below.refl _ _⟩
  | some ad =>
    have hn := rls_news hz
    have hzl := hz.1
    have hown : (w.alloc (.cells #[] 126)).ownsRow w.heap.size 126 3 (.slice (some ⟨w.heap.size, 0, none⟩) 0 0) 0 [] := World.ownsRow_lit w #[] 0 (Nat.le_refl _) (by unfold maxLen; omega) rfl
    have b1 := Go.Joins.below_alloc1 w (.cells #[] 126)
    have hn1 := rls_news (hz.below b1)
    have HO := Lib.hid hown
    have HN := Lib.hid hn1
    have heq := eql_nil w (some ad) len c Try.underlying49
    clear hz hn hown hn1
    go_enter Try.func101, Try.ntmps101
    go_wp2_with (first
      | (at_builtin; refine list_append_any rfl _ _ 49 rfl w.heap.size 126 i0 (.agg #[.int .i64 0, .int .i64 0, .int .i64 0]) 3 24 Try.underlying49 hi hz0 hz1 hz2 rfl (by decide) _ 0 [] rfl HO.out (some ad) len c (zs.map (Value.int .i64)) rfl (by simp; exact hzl) HN.out (ints_one' zs) (by unfold maxLen; omega) (by omega) (by simp) ?_)
      | fail)
    intro v' w3 hown3 hgr _
    have hk : TRow w.heap.size v' len zs w3 := by
      obtain ⟨a', c', e⟩ := own_form hown3
      refine ⟨a', c', by simpa using e, Or.inr ?_⟩
      unfold RowR
      simpa using hown3
    have hb : Below w.heap.size w w3 := ((b1).grown hgr b1.size (fun k hk => by simp [Value.ownBlock] at hk; omega))
    clear hown3 hgr HO HN b1
    go_wp2
    go_ret
    exact ⟨_, rfl, hk, hb⟩
/-- impl.tableCopy -/
theorem itcopy (a : Option Addr) (len c : Nat) (zs : List Int) (w : World) (hz : Rls w a len zs) (hl : len ≤ 1048576) :
    Calls Try.prog 67 #[.agg #[.slice a len c]] w fun e w' => ∃ v, e = .returned (.agg #[v]) ∧ TRow w.heap.size v len zs w' ∧ Below w.heap.size w w' := by
  have bb := Go.Joins.below_alloc2 w (.cells #[.slice a len c] 51) (.cells #[.slice none 0 0] 51)
  have h2 := hp_new (w.alloc (.cells #[.slice a len c] 51)) (.cells #[.slice none 0 0] 51)
  have hsz : ((w.alloc (.cells #[.slice a len c] 51)).alloc (.cells #[.slice none 0 0] 51)).heap.size = w.heap.size + 1 + 1 := by simp
  simp only [World.size_alloc] at h2
  have HZ := Lib.hid (hz.below bb)
  clear hz
  go_enter Try.func67, Try.ntmps67
  go_wp2_with (fail)
  generalize ((w.alloc (.cells #[.slice a len c] 51)).alloc (.cells #[.slice none 0 0] 51)) = u at *
  refine (iclone_r a len c zs u HZ.out hl).mono ?_
  rintro e w1 ⟨v, rfl, ht, b1⟩
  have ht' := ht
  obtain ⟨a', c', rfl, _⟩ := ht'
  have g2 := hp_below h2 b1
  have z2 : w1.cell? ⟨w.heap.size + 1, 0, none⟩ = some (.slice none 0 0) := (Go.Joins.cell_of_block g2 0).trans rfl
  have F2 := Go.Joins.unfrozen_of_block g2 0
  have B1 := bb.trans (b1.mono bb.size)
  have T2 := Lib.hid ((ht.lower (lo' := w.heap.size + 2) (by omega)).kept (from_set (g := w.heap.size + 1) (by omega) 0 (.slice a' len c')))
  have B2 := Lib.hid (bl_set B1 (g := w.heap.size + 1) 0 (by omega) (.slice a' len c'))
  have g3 := Go.Joins.block_setCell (i := 0) g2 (.slice a' len c')
  have z3 := Go.Joins.cell_of_block g3 0
  simp at z3
  clear ht b1 g2 h2 bb B1 HZ g3 hsz
  dsimp only
  go_wp2
  refine bodyPost_ret (v := .agg #[.slice a' len c']) (by simp [results, Try.results67, go_sem, z3]) rfl ⟨_, rfl, T2.out.lower (by omega), B2.out⟩
set_option maxHeartbeats 2000000 in
/-- impl.nodeCopy -/
theorem indcopy (n : PN) (ka : Option Addr) (kc : Nat) (ta : Option Addr) (tc : Nat) (w : World) (hok : n.ok) (hk : Ints w ka n.kids.length n.kids) (ht : Rls w ta n.rl n.rules) (hk1 : n.kids.length ≤ 1048576) (ht1 : n.rl ≤ 1048576) :
    Calls Try.prog 78 #[.agg (nA n.up (.slice ka n.kids.length kc) n.sty n.meas (.slice ta n.rl tc))] w (ToNPost n w) := by
  obtain ⟨u, ks, f, m, rl, rs⟩ := n
  simp only at hk ht hk1 ht1 ⊢
  obtain ⟨u0, eu0⟩ : ∃ u0, u0 = w.alloc (.cells (nA u (.slice ka ks.length kc) f m (.slice ta rl tc)) 61) := ⟨_, rfl⟩
  obtain ⟨u1, eu1⟩ : ∃ u1, u1 = u0.alloc (.cells nZ 61) := ⟨_, rfl⟩
  have s0 : u0.heap.size = w.heap.size + 1 := by rw [eu0]; simp
  have s1 : u1.heap.size = w.heap.size + 1 + 1 := by rw [eu1]; simp [s0]
  have H0 : u1.heap[w.heap.size]? = some (.cells (nA u (.slice ka ks.length kc) f m (.slice ta rl tc)) 61) := by rw [eu1, eu0]; exact hp_on (hp_new w _) _
  have H1 : u1.heap[w.heap.size + 1]? = some (.cells nZ 61) := by rw [eu1, ← s0]; exact hp_new u0 _
  have BB : Below w.heap.size w u1 := by rw [eu1, eu0]; exact Go.Joins.below_alloc2 ..
  have c1 : u1.cell? ⟨w.heap.size, 1, none⟩ = some (.slice ka ks.length kc) := (Go.Joins.cell_of_block H0 1).trans rfl
  have HK := Lib.hid (hk.below BB)
  have HT := Lib.hid ht
  have A0 := Lib.hid H0
  have A1 := Lib.hid H1
  have AB := Lib.hid BB
  have EU0 := Lib.hid eu0
  have EU1 := Lib.hid eu1
  have S1 := Lib.hid s1
  have HOK := Lib.hid hok
  clear eu0 eu1 H0 H1 BB hk ht hok s0 s1
  go_enter Try.func78, Try.ntmps78
  go_wp2_with (first
    | ((with_reducible apply list_alloc_nd); exact rfl; exact rfl; simp only [World.size_alloc, Act.put, List.setIfInBounds_toArray, List.set_cons_succ, List.set_cons_zero])
    | (rw [← EU0.out])
    | (rw [← EU1.out])
    | fail)
  refine (iclone_i ka kc ks _ HK.out hk1).mono ?_
  rintro e w1 ⟨kv, rfl, rk, b1⟩
  have sw1 : w.heap.size + 1 + 1 ≤ w1.heap.size := by rw [← S1.out]; exact b1.size
  have hkb : ∀ b, blk kv ks.length = some b → w.heap.size + 1 + 1 ≤ b ∧ b < w1.heap.size := fun b hb => by
    obtain ⟨a', c', e', hr⟩ := rk
    unfold blk at hb
    split at hb
    · cases hb
    · rcases hr with h0 | hr
      · rename_i hne; rw [h0] at hne; exact absurd rfl hne
      · have := World.ownsRow.lt hr b hb
        rw [S1.out] at this
        exact this
  have rk1 : KRow (w.heap.size + 1 + 1) kv ks w1 := by rw [← S1.out]; exact rk
  obtain ⟨ka', kc', rfl, _⟩ := rk
  have H0 := hp_below A0.out b1
  have H1 := hp_below A1.out b1
  have BB := AB.out.trans (b1.mono AB.out.size)
  have z1 : w1.cell? ⟨w.heap.size, 1, none⟩ = some (.slice ka ks.length kc) := (Go.Joins.cell_of_block H0 1).trans rfl
  have f1 := Go.Joins.unfrozen_of_block H0 1
  obtain ⟨u4, eu4⟩ : ∃ u4, u4 = w1.setCell ⟨w.heap.size, 1, none⟩ (.slice ka' ks.length kc') := ⟨_, rfl⟩
  have F4 : From (w.heap.size + 1 + 1) w1 u4 := by rw [eu4]; exact from_set (by omega) _ _
  have s4 : u4.heap.size = w1.heap.size := by rw [eu4]; simp
  replace H1 := hp_set (g' := w.heap.size) H1 (by omega) 1 (.slice ka' ks.length kc')
  replace H0 := Go.Joins.block_setCell (i := 1) H0 (.slice ka' ks.length kc')
  rw [nA_put1] at H0
  replace BB := bl_set BB (g := w.heap.size) 1 (Nat.le_refl _) (.slice ka' ks.length kc')
  rw [← eu4] at H0 H1 BB
  have c63 : u4.cell? ⟨w.heap.size, 63, none⟩ = some (.slice ta rl tc) := (Go.Joins.cell_of_block H0 63).trans (by rw [nA, List.getElem?_toArray]; exact nL_tab)
  have ht4 := HT.out.below BB
  have EU4 := Lib.hid eu4
  have K0 := Lib.hid H0
  have K1 := Lib.hid H1
  have KB := Lib.hid BB
  have KT := Lib.hid ht4
  have KK := Lib.hid (rk1.kept F4)
  have HKB := Lib.hid hkb
  clear A0 A1 AB c1 H0 H1 BB ht4 rk1 eu4 F4 hkb b1 HT HK
  dsimp only
  go_wp2_with (first
    | (rw [← EU4.out])
    | fail)
  refine (itcopy ta rl tc rs u4 KT.out ht1).mono ?_
  rintro e w3 ⟨tv, rfl, rt, b3⟩
  have sw3 := b3.size
  have htb : ∀ b, blk tv rl = some b → w1.heap.size ≤ b := fun b hb => by
    obtain ⟨a', c', e', hr⟩ := rt
    unfold blk at hb
    split at hb
    · cases hb
    · rcases hr with h0 | hr
      · rename_i hne; exact absurd h0 hne
      · have := (World.ownsRow.lt hr b hb).1
        rw [s4] at this
        exact this
  have rt1 : TRow (w.heap.size + 1 + 1) tv rl rs w3 := rt.lower (by omega)
  obtain ⟨ta', tc', rfl, _⟩ := rt
  have H0 := hp_below K0.out b3
  have H1 := hp_below K1.out b3
  have BB := KB.out.trans (b3.mono (by omega))
  have rk := KK.out.kept (From.of_below b3)
  have z63 : w3.cell? ⟨w.heap.size, 63, none⟩ = some (.slice ta rl tc) := (Go.Joins.cell_of_block H0 63).trans (by rw [nA, List.getElem?_toArray]; exact nL_tab)
  have f63 := Go.Joins.unfrozen_of_block H0 63
  obtain ⟨u7, eu7⟩ : ∃ u7, u7 = w3.setCell ⟨w.heap.size, 63, none⟩ (.slice ta' rl tc') := ⟨_, rfl⟩
  have F7 : From (w.heap.size + 1 + 1) w3 u7 := by rw [eu7]; exact from_set (by omega) _ _
  replace H1 := hp_set (g' := w.heap.size) H1 (by omega) 63 (.slice ta' rl tc')
  replace H0 := Go.Joins.block_setCell (i := 63) H0 (.slice ta' rl tc')
  rw [nA_put63] at H0
  replace BB := bl_set BB (g := w.heap.size) 63 (Nat.le_refl _) (.slice ta' rl tc')
  rw [← eu7] at H0 H1 BB
  have RG1 : u7.rangeAt w.heap.size 0 (nL u (.slice ka' ks.length kc') f m (.slice ta' rl tc')) := range_block H0
  have RG := Lib.hid RG1
  have T1 := Lib.hid (there_block H1 0 64 (by show 0 + 64 ≤ nZ.size; rw [nZ, nA_size]; decide))
  obtain ⟨u8, eu8⟩ : ∃ u8, u8 = u7.setCells (w.heap.size + 1) 0 (nL u (.slice ka' ks.length kc') f m (.slice ta' rl tc')) := ⟨_, rfl⟩
  have F8 : From (w.heap.size + 1 + 1) u7 u8 := by rw [eu8]; exact from_cells (by omega) _ _ _
  replace H1 := hp_puts (nL u (.slice ka' ks.length kc') f m (.slice ta' rl tc')) 0 _ u7 H1
  rw [putA_all _ _ (by rw [nL_len]; exact (nA_size ..).symm)] at H1
  replace BB := below_cells (g := w.heap.size + 1) (by omega) (nL u (.slice ka' ks.length kc') f m (.slice ta' rl tc')) 0 u7 BB
  rw [← eu8] at H1 BB
  have H1 : u8.heap[w.heap.size + 1]? = some (.cells (nA u (.slice ka' ks.length kc') f m (.slice ta' rl tc')) 61) := H1
  have rk8 := Lib.hid (((rk.kept F7).kept F8).lower (show w.heap.size ≤ _ by omega))
  have rt8 := Lib.hid (((rt1.kept F7).kept F8).lower (show w.heap.size ≤ _ by omega))
  have EU7 := Lib.hid eu7
  have EU8 := Lib.hid eu8
  have G1 := Lib.hid H1
  have GB := Lib.hid BB
  have HTB := Lib.hid htb
  have hk1 : (Value.slice ka' ks.length kc').oneCell' = true := rfl
  have ht1' : (Value.slice ta' rl tc').oneCell' = true := rfl
  clear K0 K1 KB KT KK H0 H1 BB rk rt1 eu7 eu8 F7 F8 b3 c63 htb RG1 z1 f1 EU4
  dsimp only
  go_wp2_with (first
    | (rw [← EU7.out])
    | ((with_reducible apply list_load_nd); exact rfl; exact rfl; exact rfl; (with_reducible exact RG.out); simp only [Act.put, List.setIfInBounds_toArray, List.set_cons_succ, List.set_cons_zero])
    | ((with_reducible apply list_store_nd); exact rfl; exact rfl; exact rfl; exact rfl; (with_reducible exact T1.out); (with_reducible exact hk1); (with_reducible exact ht1'); simp only [Act.put, List.setIfInBounds_toArray, List.set_cons_succ, List.set_cons_zero])
    | (rw [← EU8.out])
    | fail)
  refine bodyPost_ret (results_nd rfl rfl G1.out) rfl ⟨(⟨⟨u, ks, f, m, rl, rs⟩, (.slice ka' ks.length kc'), (.slice ta' rl tc')⟩ : ND), rfl, rfl, ⟨HOK.out, rk8.out, rt8.out⟩, fun b hb hb' => ?_, GB.out⟩
  have h1 := (HKB.out b hb).2
  have h2 := HTB.out b hb'
  omega
/-- A node more. -/
theorem OwnN.push {lo : Nat} {v v' : Value} {ms : List ND} {m : ND} {w w' : World} (h : OwnN lo v ms w) (hm : m.own lo w)
    (hap : ∀ s b, m.comp s = some b → v.ownBlock ≠ some b ∧ b < w.heap.size ∧ ∀ mj ∈ ms, ∀ t, mj.comp t ≠ some b) (hin : ∀ b, m.comp true = some b → m.comp false ≠ some b)
    (hrow : w'.ownsRow lo 61 64 v' (ms.length + 1) (cellsN ms ++ m.cells)) (hg : w.grownBy w' v.ownBlock) (hb : v'.ownBlock = v.ownBlock ∨ v'.ownBlock = some w.heap.size) : OwnN lo v' (ms ++ [m]) w' := by
  have hlt : ∀ mj ∈ ms, ∀ t b, mj.comp t = some b → b < w.heap.size := fun mj hj t b hc => ((h.2.1 mj hj).1.lt t b hc).2
  have rowK : ∀ {e : TypeId} {size n : Nat} {x : Value} {xs : List Value}, w.ownsRow lo e size x n xs → (∀ b, x.ownBlock = some b → v.ownBlock ≠ some b) → w'.ownsRow lo e size x n xs := by
    intro e size n x xs hr hne
    refine World.ownsRow.kept hr hg ?_
    cases hx : x.ownBlock with
    | none => exact Or.inl rfl
    | some b => exact Or.inr fun e => hne b hx e.symm
  have ownK : ∀ q : ND, q.own lo w → (∀ s b, q.comp s = some b → v.ownBlock ≠ some b) → q.own lo w' := by
    intro q ⟨h1, ⟨a, c, e, hk⟩, ⟨a', c', e', ht⟩⟩ hne
    refine ⟨h1, ⟨a, c, e, ?_⟩, ⟨a', c', e', ?_⟩⟩
    · by_cases h0 : q.n.kids = []
      · exact Or.inl h0
      · exact Or.inr (rowK (hk.resolve_left h0) fun b hb => hne true b (by
          unfold ND.comp blk
          rw [if_pos rfl, if_neg (by simpa using h0)]; exact hb))
    · by_cases h0 : q.n.rl = 0
      · exact Or.inl h0
      · exact Or.inr (rowK (ht.resolve_left h0) fun b hb => hne false b (by
          unfold ND.comp blk
          rw [if_neg (by decide), if_neg h0]; exact hb))
  have newB : ∀ b, b < w.heap.size → v.ownBlock ≠ some b → v'.ownBlock ≠ some b := fun b h1 h2 => by
    rcases hb with e | e
    · rw [e]; exact h2
    · rw [e]; intro e'; simp at e'; omega
  refine ⟨by rw [List.length_append, cellsN_push]; exact hrow, fun q hq => ?_, fun i j mi mj s t b hi hj hs ht => ?_⟩
  · rcases List.mem_append.1 hq with hq | hq
    · exact ⟨ownK q (h.2.1 q hq).1 (h.2.1 q hq).2, fun s b hb => newB b (hlt q hq s b hb) ((h.2.1 q hq).2 s b hb)⟩
    · simp at hq
      subst hq
      exact ⟨ownK _ hm fun s b hb => (hap s b hb).1, fun s b hb => newB b (hap s b hb).2.1 (hap s b hb).1⟩
  · by_cases ei : i < ms.length
    · rw [List.getElem?_append_left ei] at hi
      by_cases ej : j < ms.length
      · rw [List.getElem?_append_left ej] at hj
        exact h.2.2 i j mi mj s t b hi hj hs ht
      · rw [List.getElem?_append_right (by omega)] at hj
        have hj0 : j - ms.length = 0 := by have := (List.getElem?_eq_some_iff.1 hj).1; simp at this; omega
        rw [hj0] at hj
        simp at hj
        subst hj
        exact absurd hs ((hap t b ht).2.2 mi (List.mem_of_getElem? hi) s)
    · rw [List.getElem?_append_right (by omega)] at hi
      have hi0 : i - ms.length = 0 := by have := (List.getElem?_eq_some_iff.1 hi).1; simp at this; omega
      rw [hi0] at hi
      simp at hi
      subst hi
      by_cases ej : j < ms.length
      · rw [List.getElem?_append_left ej] at hj
        exact absurd ht ((hap s b hs).2.2 mj (List.mem_of_getElem? hj) t)
      · rw [List.getElem?_append_right (by omega)] at hj
        have hj0 : j - ms.length = 0 := by have := (List.getElem?_eq_some_iff.1 hj).1; simp at this; omega
        rw [hj0] at hj
        simp at hj
        subst hj
        refine ⟨by omega, ?_⟩
        cases s <;> cases t
        · rfl
        · exact absurd hs (hin b ht)
        · exact absurd ht (hin b hs)
        · rfl
end Go.Proofs.Ytbaahedoifajpaa

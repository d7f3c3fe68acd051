/-
  An argument of type Tree opened: its nodes. Conditions: none.
-/
import Derived.Test.YtjlgcnhjifdgfaaNdM
namespace Go.Proofs.Ytjlgcnhjifdgfaa
open Go.ChangeShapes Go.WideShapes Go.ChangeAt Go.RowKit
set_option linter.unusedVariables false
set_option maxRecDepth 8000

def Leaf (b : Bool) (v : Value) : Prop := if b = true then ∃ z, v = .bool z else ∃ z, v = .int .i64 z ∧ I64 z
section
variable {H : Type} {enc : TypeId × Value → H} {W : World} {base : Nat} {sp : Nat → Bool} {held : Bool}
/-- Each cell of the type is an int or a Bool, as ks says. -/
def GoodT (enc : TypeId × Value → H) (W : World) (base : Nat) (sp : Nat → Bool) (held : Bool) (t : TypeId) (ks : List Bool) : Prop :=
  ∀ (fuel : Nat) (cs : List Value) (x : DataW H × List MemPlace), DataW.trod enc Try.prog W base sp held fuel t cs = some x → ∀ (j : Nat) (k : Bool), ks[j]? = some k → ∃ v, cs[j]? = some v ∧ Leaf k v
theorem good_int : GoodT enc W base sp held 3 [false] := fun fuel cs x h j k hk => by
  obtain ⟨z, rfl, _, hw⟩ := DataW.trod_int Try.underlying3 h
  match j, hk with
  | 0, hk => simp at hk; subst hk; exact ⟨_, rfl, z, rfl, bounds_i64 hw⟩
theorem good_bool : GoodT enc W base sp held 4 [true] := fun fuel cs x h j k hk => by
  obtain ⟨z, rfl, _⟩ := DataW.trod_bool Try.underlying4 h
  match j, hk with
  | 0, hk => simp at hk; subst hk; exact ⟨_, rfl, z, rfl⟩
theorem good_struct {t : TypeId} {fs : Array Field} {ks : List Bool} (ht : Try.prog.underlying t = some (.struct fs)) (kt : TypeId → List Bool) (hk : ∀ u, GoodT enc W base sp held u (kt u))
    (hloc : ((List.range ks.length).all fun j => (List.range fs.size).any fun i => match fs[i]? with
      | some f => decide (f.offset ≤ j) && decide (j - f.offset < Try.prog.cellsOf f.type) && ((kt f.type)[j - f.offset]? == ks[j]?)
      | none => false) = true) : GoodT enc W base sp held t ks := fun fuel cs x h j k hj => by
  obtain ⟨xs, n, _, _, _, hxl, hfd⟩ := DataW.trod_struct ht h
  have hjl : j < ks.length := (List.getElem?_eq_some_iff.1 hj).1
  have h1 := List.all_eq_true.1 hloc j (List.mem_range.2 hjl)
  obtain ⟨i, hi, h2⟩ := List.any_eq_true.1 h1
  cases hf : fs[i]? with
  | none => rw [hf] at h2; simp at h2
  | some f =>
    rw [hf] at h2
    simp only [Bool.and_eq_true, decide_eq_true_eq, beq_iff_eq] at h2
    obtain ⟨⟨h3, h4⟩, h5⟩ := h2
    have g0 := hfd i f hf
    have hsz : i < xs.length := by rw [hxl]; exact (Array.getElem?_eq_some_iff.1 hf).1
    rw [List.getElem?_eq_getElem hsz] at g0
    obtain ⟨v, hv, hl⟩ := hk f.type n _ _ g0 (j - f.offset) k (by rw [h5, hj])
    refine ⟨v, ?_, hl⟩
    rw [List.getElem?_take, if_pos h4, List.getElem?_drop, show f.offset + (j - f.offset) = j by omega] at hv
    exact hv
def kt0 (t : TypeId) : List Bool := if t = 3 then [false] else if t = 4 then [true] else []
theorem good0 (t : TypeId) : GoodT enc W base sp held t (kt0 t) := by
  unfold kt0
  split
  · subst_vars; exact good_int
  · split
    · subst_vars; exact good_bool
    · exact fun fuel cs x h j k hk => by simp at hk
def kt1 (t : TypeId) : List Bool := if t = 69 then [false, false] else if t = 72 then [false, false, false, false] else kt0 t
theorem good1 (t : TypeId) : GoodT enc W base sp held t (kt1 t) := by
  unfold kt1
  split
  · subst_vars; exact good_struct (fs := Try.prog.fieldsOf 69) (by kernel_rfl) kt0 good0 (by kernel_rfl)
  · split
    · subst_vars; exact good_struct (fs := Try.prog.fieldsOf 72) (by kernel_rfl) kt0 good0 (by kernel_rfl)
    · exact good0 t
def kt2 (t : TypeId) : List Bool := if t = 71 then List.replicate 12 false else kt1 t
theorem good2 (t : TypeId) : GoodT enc W base sp held t (kt2 t) := by
  unfold kt2
  split
  · subst_vars; exact good_struct (fs := Try.prog.fieldsOf 71) (by kernel_rfl) kt1 good1 (by kernel_rfl)
  · exact good1 t
def styKs : List Bool := (List.range 60).map fun i => i == 6 || i == 7
theorem good_sty : GoodT enc W base sp held 74 styKs := good_struct (fs := Try.prog.fieldsOf 74) (by kernel_rfl) kt2 good2 (by kernel_rfl)
theorem sty_of {fuel : Nat} {cs : List Value} {x : DataW H × List MemPlace} (h : DataW.trod enc Try.prog W base sp held fuel 74 cs = some x) :
    ∃ f : Nat → Int, InR f ∧ ∀ j, j < 60 → cs[j]? = some (sCell j (f j)) := by
  have key : ∀ j, j < 60 → ∃ z : Int, cs[j]? = some (sCell j z) ∧ I64 z := fun j hj => by
    obtain ⟨v, hv, hl⟩ := good_sty fuel cs x h j (j == 6 || j == 7) (by simp [styKs, hj])
    by_cases e : j = 6 ∨ j = 7
    · have hb : (j == 6 || j == 7) = true := by simpa using e
      rw [hb] at hl
      obtain ⟨z, rfl⟩ : ∃ z, v = .bool z := hl
      refine ⟨if z then 1 else 0, ?_, ?_⟩
      · rw [hv, sCell, if_pos e]; cases z <;> rfl
      · cases z <;> (unfold I64; simp)
    · have hb : (j == 6 || j == 7) = false := by simpa using e
      rw [hb] at hl
      obtain ⟨z, rfl, hz⟩ : ∃ z, v = .int .i64 z ∧ I64 z := hl
      exact ⟨z, by rw [hv, sCell, if_neg e], hz⟩
  obtain ⟨f, hf⟩ := Go.Deep.choose_lt key
  refine ⟨fun i => if i < 60 then f i else 0, fun i => ?_, fun j hj => by simp only [hj, if_true]; exact (hf j hj).1⟩
  by_cases hi : i < 60
  · simp only [hi, if_true]; exact (hf i hi).2
  · simp only [hi, if_false]; omega
theorem kids_of {fuel : Nat} {cs : List Value} {x : DataW H × List MemPlace} (h : DataW.trod enc Try.prog W base sp held fuel 59 cs = some x) :
    ∃ k zs, cs = [k] ∧ KAt W k zs ∧ AllI zs ∧ zs.length ≤ 9223372036854775807 := by
  rcases Go.ChangeShapes.open_ints Try.underlying59 Try.underlying3 (by kernel_rfl) h with ⟨rfl, _⟩ | ⟨a, len, cap, zs, rfl, _⟩
  · exact ⟨_, [], rfl, ⟨none, 0, rfl, rfl, (fun z hz => by cases hz), Or.inl rfl⟩, (fun z hz => by cases hz), by simp⟩
  · obtain ⟨zs', hz, hl⟩ := ints_of (a := some a) (len := len) (cap := cap) (d := x.1) (p := x.2) ⟨fuel, h⟩
    have e : zs'.length = len := hz.1
    exact ⟨_, zs', rfl, ⟨some a, cap, by rw [e], by rw [e]; exact hz⟩, hz.2.1, by omega⟩
theorem rule_flds (i : Nat) (hi : i < 3) : ∃ f, (Try.prog.fieldsOf 164)[i]? = some f ∧ f.offset = i ∧ f.type = 3 := by
  match i, hi with
  | 0, _ => exact ⟨_, rfl, rfl, rfl⟩
  | 1, _ => exact ⟨_, rfl, rfl, rfl⟩
  | 2, _ => exact ⟨_, rfl, rfl, rfl⟩
theorem rules_of {fuel : Nat} {cs : List Value} {x : DataW H × List MemPlace} (hl1 : cs.length = 1) (h : DataW.trod enc Try.prog W base sp held fuel 82 cs = some x) :
    ∃ t rl zs, cs = [t] ∧ TAt W t rl zs ∧ AllI zs ∧ zs.length = rl * 3 ∧ rl ≤ 9223372036854775807 := by
  obtain ⟨xs, n, _, _, _, hxl, hfd⟩ := DataW.trod_struct Try.underlying82 h
  have g0 := hfd 0 _ rfl
  have h0x : 0 < xs.length := by rw [hxl]; decide
  rw [List.getElem?_eq_getElem h0x] at g0
  have g0' : DataW.trod enc Try.prog W base sp held n 80 ((cs.drop 0).take (Try.prog.cellsOf 80)) = some xs[0] := g0
  rw [show Try.prog.cellsOf 80 = 1 by kernel_rfl] at g0'
  obtain ⟨a, len, cap, zs, hcs, hz, hl⟩ := rls_of (fs := Try.prog.fieldsOf 164) Try.underlying80 (by kernel_rfl) (by kernel_rfl) rule_flds g0'
  refine ⟨.slice a len cap, len, zs, ?_, ⟨a, cap, rfl, hz⟩, hz.2.1, hz.1, hl⟩
  match cs, hl1 with
  | [y], _ => simpa using hcs
/-- A node whose cells lie somewhere. -/
theorem node_of {fuel : Nat} {cs : List Value} {x : DataW H × List MemPlace} (hl : cs.length = 64) (h : DataW.trod enc Try.prog W base sp held fuel 161 cs = some x) :
    ∃ (n : PN) (k t : Value), cs = nL n.up k n.sty n.meas t ∧ KAt W k n.kids ∧ TAt W t n.rl n.rules ∧ n.ok ∧ n.fit := by
  obtain ⟨xs, m, _, _, _, hxl, hfd⟩ := DataW.trod_struct Try.underlying161 h
  have sub : ∀ (o c : Nat) (vs : List Value), (cs.drop o).take c = vs → ∀ j v, vs[j]? = some v → cs[o + j]? = some v := fun o c vs e j v hv => by
    subst e
    rw [List.getElem?_take] at hv
    split at hv
    · rwa [List.getElem?_drop] at hv
    · cases hv
  have at0 : ∀ i (hi : i < xs.length), xs[i]? = some xs[i] := fun i hi => List.getElem?_eq_getElem hi
  have hxl5 : xs.length = 5 := by rw [hxl]; rfl
  have g0 := hfd 0 _ rfl
  have g1 := hfd 1 _ rfl
  have g2 := hfd 2 _ rfl
  have g3 := hfd 3 _ rfl
  have g4 := hfd 4 _ rfl
  rw [at0 0 (by omega)] at g0
  rw [at0 1 (by omega)] at g1
  rw [at0 2 (by omega)] at g2
  rw [at0 3 (by omega)] at g3
  rw [at0 4 (by omega)] at g4
  have g0' : DataW.trod enc Try.prog W base sp held m 3 ((cs.drop 0).take (Try.prog.cellsOf 3)) = some xs[0] := g0
  have g1' : DataW.trod enc Try.prog W base sp held m 59 ((cs.drop 1).take (Try.prog.cellsOf 59)) = some xs[1] := g1
  have g2' : DataW.trod enc Try.prog W base sp held m 74 ((cs.drop 2).take (Try.prog.cellsOf 74)) = some xs[2] := g2
  have g3' : DataW.trod enc Try.prog W base sp held m 4 ((cs.drop 62).take (Try.prog.cellsOf 4)) = some xs[3] := g3
  have g4' : DataW.trod enc Try.prog W base sp held m 82 ((cs.drop 63).take (Try.prog.cellsOf 82)) = some xs[4] := g4
  clear g0 g1 g2 g3 g4 hfd
  obtain ⟨u, e0, _, hu⟩ := DataW.trod_int Try.underlying3 g0'
  obtain ⟨k, ks, e1, hk, hki, hkl⟩ := kids_of g1'
  obtain ⟨f, hf, e2⟩ := sty_of g2'
  obtain ⟨mb, e3, _⟩ := DataW.trod_bool Try.underlying4 g3'
  rw [show Try.prog.cellsOf 82 = 1 by kernel_rfl] at g4'
  obtain ⟨t, rl, rs, e4, ht, hri, hrl, hr63⟩ := rules_of (by rw [List.length_take, List.length_drop, hl]; rfl) g4'
  refine ⟨⟨u, ks, f, mb, rl, rs⟩, k, t, nL_ext hl ?_ ?_ (fun j hj => ?_) ?_ ?_, hk, ht, ⟨bounds_i64 hu, hki, hf, hri, hrl⟩, hkl, hr63⟩
  · exact sub 0 _ _ e0 0 _ rfl
  · exact sub 1 _ _ e1 0 _ rfl
  · exact sub 2 _ _ rfl j _ (e2 j hj)
  · exact sub 62 _ _ e3 0 _ rfl
  · exact sub 63 _ _ e4 0 _ rfl
/-- An argument of type Tree. -/
theorem tree_of {base' : Nat} {r : Reach} {v : Value} {d : DataW H} {p : List MemPlace}
    (hv : Value.okWide Try.prog W r base' 64 v) (h : DataW.Trod enc Try.prog W base sp held 64 v d p) : ∃ a cap ns, v = .agg #[.slice a ns.length cap] ∧ Nds W a ns ∧ ns.length ≤ 9223372036854775807 ∧ ∀ n ∈ ns, n.fit := by
  obtain ⟨fuel, hf⟩ := h
  unfold Value.okWide at hv
  rw [Try.underlying64] at hv
  obtain ⟨cs, rfl, hsz, _⟩ := hv
  have hf' : DataW.trod enc Try.prog W base sp held fuel 64 cs.toList = some (d, p) := hf
  obtain ⟨xs, n, _, _, _, hxl, hfd⟩ := DataW.trod_struct Try.underlying64 hf'
  have hn : Try.prog.cellsOf 64 = 1 := by kernel_rfl
  rw [hn] at hsz
  have g0 := hfd 0 _ rfl
  have h0x : 0 < xs.length := by rw [hxl]; decide
  rw [List.getElem?_eq_getElem h0x] at g0
  have g0' : DataW.trod enc Try.prog W base sp held n 62 ((cs.toList.drop 0).take (Try.prog.cellsOf 62)) = some xs[0] := g0
  rw [show Try.prog.cellsOf 62 = 1 by kernel_rfl] at g0'
  have hcl : ∃ y, cs.toList = [y] := by
    match hq : cs.toList, (show cs.toList.length = 1 by simpa using hsz) with
    | [y], _ => exact ⟨y, rfl⟩
  obtain ⟨y, hy⟩ := hcl
  have hcs : cs = #[y] := by rw [← Array.toArray_toList (xs := cs), hy]
  subst hcs
  rcases Go.Deep.open_slice Try.underlying62 g0' with ⟨e, _⟩ | ⟨a, len, cap, m, q, D, Pl, e, hb, hl, hm, hmm, _, hx⟩
  · simp at e
    subst e
    exact ⟨none, 0, [], rfl, ⟨fun n hn => by simp at hn, Or.inl rfl⟩, by simp, fun n hn => by simp at hn⟩
  · simp at e
    subst e
    unfold maxLen at hm
    have hlm : len ≤ m := by rw [hmm]; split <;> omega
    have key : ∀ j, j < m → ∃ n : PN, (∃ k t, (∀ i v, (nL n.up k n.sty n.meas t)[i]? = some v → W.cell? ((a.add (j * 64)).add i) = some v) ∧ KAt W k n.kids ∧ TAt W t n.rl n.rules) ∧ n.ok ∧ n.fit := by
      intro j hj
      obtain ⟨cs', h1, h2⟩ := hx j hj
      have h64 : Try.prog.cellsOf 161 = 64 := by kernel_rfl
      rw [h64] at h1
      obtain ⟨_, hlen, hcell⟩ := World.cells?_some h1
      obtain ⟨n, k, t, e, hk, ht, hok, hfit⟩ := node_of hlen h2
      refine ⟨n, ⟨k, t, fun i v hv => ?_, hk, ht⟩, hok, hfit⟩
      rw [← e] at hv
      have := (List.getElem?_eq_some_iff.1 hv).1
      rw [hcell i (by omega), hv]
    obtain ⟨f, hff⟩ := Go.Deep.choose_lt key
    have hl' : ((List.range len).map f).length = len := by simp
    refine ⟨some a, cap, (List.range len).map f, by rw [hl'], ⟨fun n hn => ?_, ?_⟩, by rw [hl']; omega, fun n hn => ?_⟩
    · obtain ⟨j, hj, rfl⟩ := List.mem_map.1 hn
      exact (hff j (by have := List.mem_range.1 hj; omega)).2.1
    · by_cases h0 : len = 0
      · subst h0; exact Or.inl rfl
      · obtain ⟨b, off, spot⟩ := a
        obtain ⟨k, t, hc, _⟩ := (hff 0 (by omega)).1
        have hc0 := hc 0 _ nL_up
        have hspot : spot = none := by simpa [Addr.add] using World.cell?_spot hc0
        subst hspot
        refine Or.inr ⟨b, off, rfl, ?_, fun i n hi => ?_⟩
        · have := World.block_lt_of_cell? W _ hc0
          simpa [Addr.add] using this
        · have hil : i < len := by have := (List.getElem?_eq_some_iff.1 hi).1; rwa [hl'] at this
          rw [List.getElem?_map, List.getElem?_range hil] at hi
          simp at hi
          subst hi
          obtain ⟨k, t, hc, hk, ht⟩ := (hff i (by omega)).1
          refine ⟨k, t, fun j v hv => ?_, hk, ht⟩
          rw [← hc j v hv]
          rw [Addr.add_mid, Addr.add_mid, Nat.add_assoc]
    · obtain ⟨j, hj, rfl⟩ := List.mem_map.1 hn
      exact (hff j (by have := List.mem_range.1 hj; omega)).2.2
end
end Go.Proofs.Ytjlgcnhjifdgfaa

/-
  For every string, laws.FnExactPartsOf returns true and its argument reads as before. Conditions: none.
-/
import Derived.Test.YtddgghghilfdcaaPartI
namespace Go.Proofs.Ytddgghghilfdcaa.fnExactPartsOf
open Go.ChangeShapes Go.WideShapes Go.ChangeAt Go.RowKit
open Go.ChangeMaps (open_string shut_string)

set_option maxHeartbeats 1000000 in
theorem walk (s : ByteArray) (w : World) (hs : s.size ≤ maxLen) :
    Calls Try.prog 6 #[.string s] w fun e w' => e = .returned (.bool true) ∧ Below w.heap.size w w' := by
  have hs' := hs
  unfold maxLen at hs
  by_cases hbig : 1048576 < s.size
  · go_enter Try.func6, Try.ntmps6
    go_wp2
    go_ret
    exact ⟨rfl, Below.refl _ _⟩
  · have hn := Nums.paL_len s
    go_enter Try.func6, Try.ntmps6
    go_wp2_with (fail)
    refine (spa_any s w hs').mono ?_
    rintro e w1 ⟨v0, rfl, o0, b1⟩
    go_wp2_with (fail)
    refine (ipa_any s w1 hs').mono ?_
    rintro e w2 ⟨v1, rfl, o1, b2⟩
    have o0b := own_below o0 b2
    have l0 := fun g hg => (World.ownsRow.lt o0 g hg).2
    have l1 := fun g hg => (World.ownsRow.lt o1 g hg).1
    go_wp2_with (fail)
    refine (eqS_any _ _ _ _ _ _ _ (by omega) o1 o0b).mono ?_
    rintro e w3 ⟨rfl, b3⟩
    have o0c := own_below o0b b3
    have o1c := own_below o1 b3
    go_wp2_with (fail)
    refine (markS_one _ _ _ _ _ (by omega) o1c).mono ?_
    rintro e w4 ⟨rfl, o1d, g4⟩
    have o0d := World.ownsRow.kept o0c g4 (by
      cases h0 : v0.ownBlock with
      | none => exact Or.inl rfl
      | some g =>
        refine Or.inr fun h => ?_
        have := l0 g h0
        have := l1 g h.symm
        omega)
    go_wp2_with (fail)
    refine (heldS_one _ _ _ _ (by omega) o1d).mono ?_
    rintro e w5 ⟨rfl, b5⟩
    have o0e := own_below o0d b5
    have o1e := own_below o1d b5
    go_wp2_with (fail)
    refine (ipa_any s w5 hs').mono ?_
    rintro e w6 ⟨v2, rfl, o2, b6⟩
    have o0f := own_below o0e b6
    have o1f := own_below o1e b6
    go_wp2_with (fail)
    refine (eqS_any _ _ _ _ _ _ _ (by omega) o2 o0f).mono ?_
    rintro e w7 ⟨rfl, b7⟩
    have o1g := own_below o1f b7
    go_wp2_with (fail)
    refine (heldS_one _ _ _ _ (by omega) o1g).mono ?_
    rintro e w8 ⟨rfl, b8⟩
    go_wp2
    go_ret
    refine ⟨rfl, ?_⟩
    have c2 := b1.trans (b2.mono b1.size)
    have c3 := c2.trans (b3.mono c2.size)
    have c4 := c3.grown g4 c3.size (fun g hg => Nat.le_trans b1.size (l1 g hg))
    have c5 := c4.trans (b5.mono c4.size)
    have c6 := c5.trans (b6.mono c5.size)
    have c7 := c6.trans (b7.mono c6.size)
    exact c7.trans (b8.mono c7.size)

set_option maxRecDepth 100000 in
theorem lifted (os : Os) (started : os.Started) (H : Type) (enc : TypeId × Value → H) :
    ReturnsInHanded {} Try.checked os 6 .any (Rows.fnExactPartsOfSpec.pre6 enc Try.prog Try.f6 Rows.fnExactPartsOfRow.domain false) (Rows.fnExactPartsOfSpec.post enc Try.prog Try.f6 false true false false) := by
  refine returnsInHanded_of_change (C := Try.checked) own started (by kernel_rfl) Try.func6
    (ChangeSpec.witness6 (enc := enc) (C := Try.checked) false ⟨#[], #[.string ⟨#[]⟩], []⟩ 8 (by kernel_rfl) (by kernel_rfl) (by kernel_rfl) (by kernel_rfl)) ?_
  intro W base args ds gs before hval0 hW hcnd _
  have hval : ∀ (j : Nat) t v, Try.f6.params[j]? = some t → args[j]? = some v → Value.okWide Try.prog W .any base t v := hval0
  have hW' := hW
  obtain ⟨p, q, hA0, hV, rfl, hfz, hnd⟩ := hW
  have hA : DataW.TrodAll enc Try.prog W 0 (fun _ => true) true Try.f6.params.toList args.toList ds p := hA0
  rw [Try.params6] at hA hval
  obtain ⟨v0, vs0, d0, ds0, p0, q0, hargs, rfl, rfl, h0, r0⟩ := trodAll_cons hA
  obtain ⟨rfl, rfl, rfl⟩ := trodAll_nil r0
  obtain rfl : args = #[v0] := by cases args; simp_all
  obtain ⟨rfl, rfl⟩ := trodVars_none hV
  obtain ⟨s, rfl, rfl, rfl, ws⟩ := open_string Try.underlying9 (hval 0 9 v0 rfl rfl) h0
  clear hA0 hval0
  simp only [List.append_nil] at hW'
  refine (walk s W ws).mono fun e W' ⟨he, hb⟩ => ?_
  subst he
  exact ⟨_, rfl, law_post (pa := []) (pv := []) hW' (trodAll_cons_mk (shut_bool Try.underlying4 _) trodAll_mk0) (trodAll_cons_mk (shut_string Try.underlying9 ws) trodAll_mk0) rfl rfl hb⟩

theorem over : Rows.fnExactPartsOfRow.holds Try.pinned (OpenSpec.ofChange Rows.fnExactPartsOfSpec) :=
  OpenClaim.holds_of_wide 6 Try.f6 rfl rfl rfl rfl rfl rfl rfl ⟨rfl, rfl, rfl, rfl, rfl⟩ rfl rfl rfl rfl rfl (by kernel_rfl) Try.func6 (by kernel_rfl)
    (of_decide_eq_true (by kernel_rfl)) (by unfold Func.isWrapper; first | (rw [if_pos (by decide +kernel)]; kernel_rfl) | (rw [if_neg (by decide +kernel)]; exact ⟨rfl, rfl⟩))
    (fun os started H enc _ => lifted os started H enc)

/-- The given statement. -/
theorem proved : Rows.FnExactPartsOfSaid :=
  over
#print axioms proved
end Go.Proofs.Ytddgghghilfdcaa.fnExactPartsOf

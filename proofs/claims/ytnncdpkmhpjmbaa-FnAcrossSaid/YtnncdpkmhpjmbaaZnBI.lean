import Derived.Test.YtnncdpkmhpjmbaaZnAI
import Derived.Test.YtnncdpkmhpjmbaaZnBH
section
namespace Go.Proofs.Ytnncdpkmhpjmbaa
open Go.ChangeShapes Go.WideShapes Go.ChangeAt Go.RowKit
set_option linter.unusedVariables false
set_option linter.unusedSimpArgs false
set_option maxRecDepth 8000

theorem its_news {w : World} {a : Option Addr} {xs : List It} (h : Its w a xs) : (a = none ∧ xs.length = 0) ∨ ∃ ad, a = some ad ∧ ∀ j u, (cellsI xs)[j]? = some u → w.cell? (ad.add j) = some u := by
  rcases h.2 with h0 | ⟨b, off, rfl, _, hc⟩
  · subst h0
    cases a with
    | none => exact Or.inl ⟨rfl, rfl⟩
    | some ad => exact Or.inr ⟨ad, rfl, fun j u hu => by simp [cellsI] at hu⟩
  · refine Or.inr ⟨_, rfl, fun j u hu => ?_⟩
    have hj : j < xs.length * 9 := by have := (List.getElem?_eq_some_iff.1 hu).1; rwa [cellsI_len] at this
    have hq : j / 9 * 9 + j % 9 = j := by omega
    have h9 : j % 9 < 9 := Nat.mod_lt _ (by decide)
    have e1 := cellsI_at xs (j / 9) (j % 9) h9
    rw [hq, hu, List.getElem?_eq_getElem (by omega), Option.bind_some] at e1
    rw [Addr.add_mid, ← hc (j / 9) _ (List.getElem?_eq_getElem (by omega)) (j % 9) u e1.symm]
    congr 2
    omega
theorem cellsI_one {xs : List It} : ∀ u ∈ cellsI xs, u.oneCell' = true := fun u hu => by
  obtain ⟨x, _, hx⟩ := List.mem_flatMap.1 hu
  exact x.L_one u hx
theorem iclone_t (a : Option Addr) (c : Nat) (xs : List It) (w : World) (hz : Its w a xs) (hl : xs.length ≤ 1048576) :
    Calls Try.prog 89 #[.slice a xs.length c] w fun e w' => ∃ v, e = .returned v ∧ RowT w.heap.size v xs w' ∧ Below w.heap.size w w' := by
  obtain ⟨i0, hi, hz0, hz1, hz2⟩ := info_parts info_item
  cases a with
  | none =>
    have h0 : xs = [] := by
      rcases hz.2 with h0 | ⟨b, off, e, _⟩
      · exact h0
      · cases e
    subst h0
    have heq := eql_nil w none 0 c Try.underlying34
    go_enter Try.func89, Try.ntmps89
    go_wp2
    go_ret
    exact ⟨_, rfl, World.ownsRow_nil _ _ _ _, Below.refl _ _⟩
  | some ad =>
    have hown : (w.alloc (.cells #[] 40)).ownsRow w.heap.size 40 9 (.slice (some ⟨w.heap.size, 0, none⟩) 0 0) 0 [] := World.ownsRow_lit w #[] 0 (Nat.le_refl _) (by unfold maxLen; omega) rfl
    have b1 := Go.Joins.below_alloc1 w (.cells #[] 40)
    have hn1 := its_news (hz.below b1)
    have HO := Lib.hid hown
    have HN := Lib.hid hn1
    have HLEN := Lib.hid (cellsI_len xs)
    have heq := eql_nil w (some ad) xs.length c Try.underlying34
    clear hz hown hn1
    go_enter Try.func89, Try.ntmps89
    go_wp2_with (first
      | (at_builtin; refine list_append_any rfl _ _ 34 rfl w.heap.size 40 i0 _ 9 64 Try.underlying34 hi hz0 hz1 hz2 rfl (by decide) _ 0 [] rfl HO.out (some ad) xs.length c (cellsI xs) rfl HLEN.out HN.out cellsI_one (by unfold maxLen; omega) (by omega) (by simp) ?_)
      | fail)
    intro v' w3 hown3 hgr _
    have hk : RowT w.heap.size v' xs w3 := by unfold RowT; simpa using hown3
    have hb : Below w.heap.size w w3 := ((b1).grown hgr b1.size (fun k hk => by simp [Value.ownBlock] at hk; omega))
    clear hown3 hgr HO HN b1
    go_wp2
    go_ret
    exact ⟨_, rfl, hk, hb⟩
end Go.Proofs.Ytnncdpkmhpjmbaa
end

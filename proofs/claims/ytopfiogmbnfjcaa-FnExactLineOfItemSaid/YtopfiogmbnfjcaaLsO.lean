/-
  A slice of slices of ints that came in. Conditions: none.
-/
import Derived.Test.YtopfiogmbnfjcaaSsA
namespace Go.Proofs.Ytopfiogmbnfjcaa
open Go.ChangeShapes Go.WideShapes Go.ChangeAt Go.RowKit
set_option linter.unusedVariables false
set_option maxRecDepth 8000
section
variable {H : Type} {enc : TypeId × Value → H} {W : World} {base : Nat} {sp : Nat → Bool} {held : Bool}
theorem intsC {fuel : Nat} {cs : List Value} {x : DataW H × List MemPlace} (hf : DataW.trod enc Try.prog W base sp held fuel 27 cs = some x) : ∃ a len cap zs, cs = [.slice a len cap] ∧ Ints W a len zs ∧ len ≤ 9223372036854775807 := by
  rcases Go.ChangeShapes.open_ints Try.underlying27 Try.underlying3 (by kernel_rfl) hf with ⟨hcs, _⟩ | ⟨x, l, c, zs, hcs, _, hl, hm, hz, _, hcell, hwz⟩
  · exact ⟨none, 0, 0, [], hcs, ⟨rfl, (fun z hz => by cases hz), Or.inl rfl⟩, by omega⟩
  · unfold maxLen at hm
    have hlz : l ≤ zs.length := by rw [hz]; split <;> omega
    refine ⟨some x, l, c, zs.take l, hcs, ⟨by simp; omega, fun z hz' => bounds_i64 (hwz z (List.mem_of_mem_take hz')), ?_⟩, by omega⟩
    by_cases h0 : l = 0
    · exact Or.inl h0
    · obtain ⟨b, off, spot⟩ := x
      have hc := hcell 0 (by omega)
      have hspot : spot = none := by simpa [Addr.add] using World.cell?_spot hc
      subst hspot
      refine Or.inr ⟨b, off, rfl, ?_, fun i hi => ?_⟩
      · have := World.block_lt_of_cell? W _ hc
        simpa [Addr.add] using this
      · have hci := hcell i (by omega)
        rw [show (zs.take l).getD i 0 = zs.getD i 0 by simp [List.getD, hi], ← hci]
        congr 1; simp [Addr.add]
theorem lists_of {t0 : Option Addr} {len cap : Nat} {d : DataW H} {p : List MemPlace} (h : DataW.Trod enc Try.prog W base sp held 40 (.slice t0 len cap) d p) : ∃ L : List (List Int), len = L.length ∧ Ss W t0 L ∧ len ≤ 9223372036854775807 ∧ ∀ l ∈ L, l.length ≤ 9223372036854775807 := by
  obtain ⟨fuel, hf⟩ := h
  rcases Go.Deep.open_slice Try.underlying40 hf with ⟨hcs, _⟩ | ⟨a, len', cap', m, n, D, Pl, hcs, hb, hl, hm, hmm, _, hx⟩
  · simp [Value.cells] at hcs
    obtain ⟨rfl, rfl, rfl⟩ := hcs
    exact ⟨[], rfl, ⟨(fun z hz => by cases hz), Or.inl rfl⟩, by omega, fun l hl => by cases hl⟩
  · simp [Value.cells] at hcs
    obtain ⟨rfl, rfl, rfl⟩ := hcs
    unfold maxLen at hm
    have hlm : len ≤ m := by rw [hmm]; split <;> omega
    have key : ∀ k, k < len → ∃ y : Option Addr × Nat × List Int, W.cell? (a.add k) = some (.slice y.1 y.2.2.length y.2.1) ∧ Ints W y.1 y.2.2.length y.2.2 ∧ y.2.2.length ≤ 9223372036854775807 := by
      intro k hk
      obtain ⟨cs', h1, h2⟩ := hx k (by omega)
      rw [show Try.prog.cellsOf 27 = 1 by kernel_rfl] at h1
      obtain ⟨_, hlen, hcell⟩ := World.cells?_some h1
      obtain ⟨ak, ln, ck, zs, e, hz, hlm⟩ := intsC h2
      have hzl : zs.length = ln := hz.1
      subst hzl
      have hc := hcell 0 (by omega)
      rw [e] at hc
      refine ⟨(ak, ck, zs), ?_, hz, hlm⟩
      rw [Nat.mul_one, Go.Deep.add_add] at hc
      simpa using hc
    obtain ⟨f, hff⟩ := Go.Deep.choose_lt key
    refine ⟨(List.range len).map fun k => (f k).2.2, by simp, ⟨fun l hl => ?_, ?_⟩, by omega, fun l hl => ?_⟩
    · obtain ⟨j, hj, rfl⟩ := List.mem_map.1 hl
      exact (hff j (List.mem_range.1 hj)).2.1.2.1
    · by_cases h0 : len = 0
      · exact Or.inl (by simp [h0])
      · obtain ⟨b, off, spot⟩ := a
        have hc := (hff 0 (by omega)).1
        have hspot : spot = none := by simpa [Addr.add] using World.cell?_spot hc
        subst hspot
        refine Or.inr ⟨b, off, rfl, ?_, fun k l hk => ?_⟩
        · have := World.block_lt_of_cell? W _ hc
          simpa [Addr.add] using this
        · have hkl : k < len := by have := (List.getElem?_eq_some_iff.1 hk).1; simpa using this
          have e : l = (f k).2.2 := by
            rw [List.getElem?_map, List.getElem?_range hkl] at hk
            simpa using hk.symm
          subst e
          have hci := hff k hkl
          refine ⟨(f k).1, (f k).2.1, ?_, hci.2.1⟩
          rw [← hci.1]
          congr 1
          cases k <;> simp [Addr.add]
    · obtain ⟨j, hj, rfl⟩ := List.mem_map.1 hl
      exact (hff j (List.mem_range.1 hj)).2.2
end
end Go.Proofs.Ytopfiogmbnfjcaa

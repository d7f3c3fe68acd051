/-
  The laws' helper szTree: how much the tree holds, if it is not too much. Conditions: at most 1048576 are left.
-/
import Derived.Test.YtjlgcnhjifdgfaaNdM
import Derived.OwnWalk
import Derived.Deep.QuietTactic
import Derived.BigQuiet
namespace Go.Proofs.Ytjlgcnhjifdgfaa
open Go.ChangeShapes Go.WideShapes Go.ChangeAt Go.RowKit
set_option linter.unusedVariables false
set_option maxRecDepth 8000
set_option linter.unusedSimpArgs false

/-- What is left. -/
def lfV (left : Int) (n : Nat) : Int := if (n : Int) ≤ left then left - n else -1
theorem sz_of {n : Nat} {left : Int} (h : (n : Int) ≤ left) : lfV left n = left - n := by rw [lfV, if_pos h]
theorem sz_no {n : Nat} {left : Int} (h : left < (n : Int)) : lfV left n = -1 := by rw [lfV, if_neg (by omega)]
theorem szi_any (a : Option Addr) (len cap : Nat) (left : Int) (w : World) (h0 : 0 ≤ left) (h1 : left ≤ 1048576) (hl : len ≤ 9223372036854775807) :
    Calls Try.prog 139 #[.slice a len cap, .int .i64 left] w fun e w' => e = .returned (.int .i64 (lfV left len)) ∧ Below w.heap.size w w' := by
  by_cases h : (len : Int) ≤ left
  · rw [sz_of h]
    go_enter Try.func139, Try.ntmps139
    go_wp2
    go_ret
    exact ⟨rfl, Below.refl _ _⟩
  · rw [sz_no (by omega)]
    go_enter Try.func139, Try.ntmps139
    go_wp2
    go_ret
    exact ⟨rfl, Below.refl _ _⟩
theorem szu_any (a : Option Addr) (len cap : Nat) (left : Int) (w : World) (h0 : 0 ≤ left) (h1 : left ≤ 1048576) (hl : len ≤ 9223372036854775807) :
    Calls Try.prog 88 #[.slice a len cap, .int .i64 left] w fun e w' => e = .returned (.int .i64 (lfV left len)) ∧ Below w.heap.size w w' := by
  by_cases h : (len : Int) ≤ left
  · rw [sz_of h]
    go_enter Try.func88, Try.ntmps88
    go_wp2
    go_ret
    exact ⟨rfl, Below.refl _ _⟩
  · rw [sz_no (by omega)]
    go_enter Try.func88, Try.ntmps88
    go_wp2
    go_ret
    exact ⟨rfl, Below.refl _ _⟩
theorem szta_any (a : Option Addr) (len cap : Nat) (left : Int) (w : World) (h0 : 0 ≤ left) (h1 : left ≤ 1048576) (hl : len ≤ 9223372036854775807) :
    Calls Try.prog 42 #[.agg #[.slice a len cap], .int .i64 left] w fun e w' => e = .returned (.int .i64 (lfV left len)) ∧ Below w.heap.size w w' := by
  go_enter Try.func42, Try.ntmps42
  go_wp2_with (fail)
  refine (szu_any a len cap left _ h0 h1 hl).mono ?_
  rintro e w1 ⟨rfl, b1⟩
  have B := (Go.Joins.below_alloc1 w (.cells #[.slice a len cap] 82)).trans (b1.mono (Go.Joins.below_alloc1 w _).size)
  by_cases h : (len : Int) ≤ left
  · rw [sz_of h]
    go_wp2
    go_ret
    exact ⟨by rw [sz_of h]; rfl, B⟩
  · rw [sz_no (by omega)]
    go_wp2
    go_ret
    exact ⟨by rw [sz_no (by omega)]; rfl, B⟩
set_option maxHeartbeats 1000000 in
theorem szn_any (u : Int) (ka : Option Addr) (kl kc : Nat) (f : Nat → Int) (m : Bool) (ta : Option Addr) (tl tc : Nat) (left : Int) (w : World) (h0 : 0 ≤ left) (h1 : left ≤ 1048576) (hk : kl ≤ 9223372036854775807) (ht : tl ≤ 9223372036854775807) :
    Calls Try.prog 121 #[.agg (nA u (.slice ka kl kc) f m (.slice ta tl tc)), .int .i64 left] w fun e w' => e = .returned (.int .i64 (lfV left (kl + tl))) ∧ Below w.heap.size w w' := by
  have H0 := hp_new w (.cells (nA u (.slice ka kl kc) f m (.slice ta tl tc)) 161)
  have BB := Go.Joins.below_alloc1 w (.cells (nA u (.slice ka kl kc) f m (.slice ta tl tc)) 161)
  obtain ⟨v, ev⟩ : ∃ v, v = w.alloc (.cells (nA u (.slice ka kl kc) f m (.slice ta tl tc)) 161) := ⟨_, rfl⟩
  rw [← ev] at H0 BB
  have EV := Lib.hid ev
  have c1 : v.cell? ⟨w.heap.size, 1, none⟩ = some (.slice ka kl kc) := (Go.Joins.cell_of_block H0 1).trans (by rw [nA, List.getElem?_toArray]; exact nL_kids)
  have HH := Lib.hid H0
  clear ev H0
  go_enter Try.func121, Try.ntmps121
  go_wp2_with (rw [← EV.out])
  refine (szi_any ka kl kc left _ h0 h1 hk).mono ?_
  rintro e w1 ⟨rfl, b1⟩
  have H1 := hp_below HH.out b1
  have c63 : w1.cell? ⟨w.heap.size, 63, none⟩ = some (.slice ta tl tc) := (Go.Joins.cell_of_block H1 63).trans (by rw [nA, List.getElem?_toArray]; exact nL_tab)
  have BB := BB.trans (b1.mono BB.size)
  clear c1 HH H1
  by_cases h : (kl : Int) ≤ left
  · rw [sz_of h]
    go_wp2_with (fail)
    refine (szta_any ta tl tc (left - kl) _ (by omega) (by omega) ht).mono ?_
    rintro e w2 ⟨rfl, b2⟩
    have BB := BB.trans (b2.mono BB.size)
    by_cases h2 : (tl : Int) ≤ left - kl
    · rw [sz_of h2]
      have h3 : 0 ≤ left - (kl : Int) - tl := by omega
      go_wp2
      go_ret
      exact ⟨by rw [sz_of (by omega), show left - ((kl + tl : Nat) : Int) = left - kl - tl by omega]; rfl, BB⟩
    · rw [sz_no (by omega)]
      go_wp2
      go_ret
      exact ⟨by rw [sz_no (by omega)]; rfl, BB⟩
  · rw [sz_no (by omega)]
    go_wp2
    go_ret
    exact ⟨by rw [sz_no (by omega)]; rfl, BB⟩
def SzRel (ns : List PN) (left : Int) (w : World) (l i : Value) (wr : World) : Prop :=
  ∃ (k : Nat) (ll : Int), k ≤ ns.length ∧ i = .int .i64 k ∧ 0 ≤ ll ∧ l = .int .i64 ll ∧ ll = left - ((ns.length + szL (ns.take k) : Nat) : Int) ∧ Below w.heap.size w wr
set_option maxHeartbeats 1000000 in
theorem szs_any (a : Option Addr) (cap : Nat) (ns : List PN) (left : Int) (w : World) (hz : Nds w a ns) (h0 : 0 ≤ left) (h1 : left ≤ 1048576) (hl : ns.length ≤ 9223372036854775807) (hf : ∀ n ∈ ns, n.fit) :
    Calls Try.prog 80 #[.slice a ns.length cap, .int .i64 left] w fun e w' => e = .returned (.int .i64 (lfV left (szS ns))) ∧ Below w.heap.size w w' := by
  by_cases h : (ns.length : Int) ≤ left
  · have HZ := Lib.hid hz
    have HF := Lib.hid hf
    have hl0 : (0 : Int) ≤ left - ns.length := by omega
    clear hz hf
    go_enter Try.func80, Try.ntmps80
    go_wp2
    go_loopw [1, 5] (SzRel ns left w) (fun _ i _ => ns.length - (intOf i).toNat)
    case atStart => exact ⟨0, left - ns.length, Nat.zero_le _, rfl, hl0, rfl, by simp [szL], Below.refl _ _⟩
    case round =>
      obtain ⟨k, ll, hk, rfl, hle, rfl, hll, hb⟩ := hrel
      have hll1 : ll ≤ 1048576 := by omega
      have HL := Lib.hid hll
      clear hll
      by_cases hlt : k < ns.length
      · obtain ⟨b, off, rfl, hbl, ⟨kv, tv, hrg, ⟨ka, kc, rfl, _⟩, ⟨ta, tc, rfl, _⟩⟩⟩ := (HZ.out.below hb).look hlt
        have HR := Lib.hid hrg
        have hfit := HF.out ns[k] (List.getElem_mem hlt)
        have hs := szL_take hlt
        have hlo : (0 : Int) ≤ (k : Int) := Int.natCast_nonneg _
        have hhi : (k : Int) < (ns.length : Int) := by omega
        clear hrg
        obtain ⟨hf1, hf2⟩ := hfit
        unfold szK at hs
        have hsl : szL (ns.take k) ≤ szL ns := szL_take_le ns k
        have hss : szL (ns.take (k + 1)) ≤ szL ns := szL_take_le ns (k + 1)
        have hS : szS ns = ns.length + szL ns := rfl
        generalize ns[k] = n at *
        have HSS := Lib.hid hs
        clear hs hsl hss hS
        go_wp2_with (first
          | ((with_reducible apply list_load_lnd); exact rfl; exact rfl; exact rfl; (with_reducible exact HR.out); simp only [World.size_alloc, Act.put, List.setIfInBounds_toArray, List.set_cons_succ, List.set_cons_zero])
          | fail)
        refine (szn_any n.up ka n.kids.length kc n.sty n.meas ta n.rl tc ll _ hle hll1 hf1 hf2).mono ?_
        rintro e w1 ⟨rfl, b1⟩
        have B := hb.trans (b1.mono hb.size)
        by_cases hq : ((n.kids.length + n.rl : Nat) : Int) ≤ ll
        · rw [sz_of hq]
          have hq2 : (0 : Int) ≤ ll - ((n.kids.length + n.rl : Nat) : Int) := by omega
          have hq3 : ll - ((n.kids.length + n.rl : Nat) : Int) = left - ((ns.length + szL (ns.take (k + 1)) : Nat) : Int) := by have := HL.out; have := HSS.out; omega
          have HQ := Lib.hid hq3
          clear hq3
          generalize ll - ((n.kids.length + n.rl : Nat) : Int) = q at *
          go_wp2
          go_roundw
          case rel => exact ⟨k + 1, q, by omega, by go_num, hq2, rfl, HQ.out, B⟩
          case measure => simp [intOf]; omega
        · rw [sz_no (by omega)]
          go_wp2
          go_ret
          exact ⟨by rw [sz_no (by have := HL.out; have := HSS.out; have := szL_take_le ns (k + 1); unfold szS; omega)]; rfl, B⟩
      · obtain rfl : k = ns.length := by omega
        have e : lfV left (szS ns) = ll := by
          have h1 := HL.out
          rw [List.take_length] at h1
          rw [sz_of (by unfold szS; omega)]
          unfold szS; omega
        have E := Lib.hid e
        clear e
        go_wp2
        go_ret
        exact ⟨by rw [E.out]; rfl, hb⟩
  · have e := sz_no (left := left) (n := szS ns) (by unfold szS; omega)
    have hneg : left - (ns.length : Int) < 0 := by omega
    clear hz hf
    go_enter Try.func80, Try.ntmps80
    go_wp2
    go_ret
    exact ⟨rfl, Below.refl _ _⟩
theorem sztr_any (a : Option Addr) (cap : Nat) (ns : List PN) (left : Int) (w : World) (hz : Nds w a ns) (h0 : 0 ≤ left) (h1 : left ≤ 1048576) (hl : ns.length ≤ 9223372036854775807) (hf : ∀ n ∈ ns, n.fit) :
    Calls Try.prog 35 #[.agg #[.slice a ns.length cap], .int .i64 left] w fun e w' => e = .returned (.int .i64 (lfV left (szS ns))) ∧ Below w.heap.size w w' := by
  have HZ := Lib.hid (hz.below (Go.Joins.below_alloc1 w (.cells #[.slice a ns.length cap] 64)))
  have HF := Lib.hid hf
  clear hz hf
  go_enter Try.func35, Try.ntmps35
  go_wp2_with (fail)
  refine (szs_any a cap ns left _ HZ.out h0 h1 hl HF.out).mono ?_
  rintro e w1 ⟨rfl, b1⟩
  have B := (Go.Joins.below_alloc1 w (.cells #[.slice a ns.length cap] 64)).trans (b1.mono (Go.Joins.below_alloc1 w _).size)
  by_cases h : (szS ns : Int) ≤ left
  · rw [sz_of h]
    go_wp2
    go_ret
    exact ⟨by rw [sz_of h]; rfl, B⟩
  · rw [sz_no (by omega)]
    go_wp2
    go_ret
    exact ⟨by rw [sz_no (by omega)]; rfl, B⟩
end Go.Proofs.Ytjlgcnhjifdgfaa

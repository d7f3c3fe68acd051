/-
  The first line that holds an index (LineOfItem of program and model; slices.Index, Contains, IndexFunc, l10Has). Conditions: lists of at most 1048576.
-/
import Derived.Test.YtcnmchcleghcgaaSsA
namespace Go.Proofs.Ytcnmchcleghcgaa
open Go.ChangeShapes Go.WideShapes Go.ChangeAt Go.RowKit
set_option linter.unusedVariables false
set_option linter.unusedSimpArgs false
set_option maxRecDepth 8000

/-- The first list that holds x, or -1. -/
def loV (L : List (List Int)) (x : Int) : Int := if L.findIdx (fun l => decide (x ∈ l)) < L.length then ((L.findIdx fun l => decide (x ∈ l) : Nat) : Int) else -1
theorem lo_hit {L : List (List Int)} {x : Int} {k : Nat} (hk : k < L.length) (hx : x ∈ lnD L k) (hb : ∀ j, j < k → x ∉ lnD L j) : loV L x = k := by
  have e : L.findIdx (fun l => decide (x ∈ l)) = k := by
    rw [List.findIdx_eq hk]
    have hg : ∀ j (h : j < L.length), L[j] = lnD L j := fun j h => by simp [lnD, List.getD, h]
    refine ⟨by rw [hg k hk]; exact decide_eq_true hx, fun j hj => ?_⟩
    rw [hg j (by omega)]
    exact decide_eq_false (hb j hj)
  unfold loV
  rw [e, if_pos hk]
theorem lo_miss {L : List (List Int)} {x : Int} (hb : ∀ j, j < L.length → x ∉ lnD L j) : loV L x = -1 := by
  unfold loV
  rw [if_neg]
  intro h
  have := List.findIdx_getElem (p := fun l => decide (x ∈ l)) (w := h)
  have h2 := of_decide_eq_true this
  refine hb _ h ?_
  have hg : L[L.findIdx (fun l => decide (x ∈ l))] = lnD L (L.findIdx fun l => decide (x ∈ l)) := by simp [lnD, List.getD, h]
  rw [← hg]; exact h2
theorem lo_in (L : List (List Int)) (x : Int) (h : L.length ≤ 1048576) : -1 ≤ loV L x ∧ loV L x ≤ 1048576 := by
  unfold loV; split <;> omega
theorem mem_take {zs : List Int} {k : Nat} {x : Int} (h : k < zs.length) : x ∈ zs.take (k + 1) ↔ x ∈ zs.take k ∨ zs.getD k 0 = x := by
  rw [take_snoc h, List.mem_append, List.mem_singleton]
  exact ⟨fun h => h.imp id (fun e => e.symm), fun h => h.imp id (fun e => e.symm)⟩
set_option maxHeartbeats 1000000 in
theorem iidx_any (a : Option Addr) (n cap : Nat) (zs : List Int) (x : Int) (w : World) (hz : Ints w a n zs) (hl : n ≤ 1048576) :
    Calls Try.prog 95 #[.slice a n cap, .int .i64 x] w fun e w' => (∃ m : Int, e = .returned (.int .i64 m) ∧ (0 ≤ m ↔ x ∈ zs)) ∧ w' = w := by
  have hn : zs.length = n := hz.1
  subst hn
  have HZ := Lib.hid hz
  clear hz
  go_enter Try.func95, Try.ntmps95
  go_wp2_with (fail)
  go_loopw [8] (fun j wr => ∃ k : Nat, k ≤ zs.length ∧ j = .int .i64 k ∧ x ∉ zs.take k ∧ wr = w) (fun j _ => zs.length - (intOf j).toNat)
  case atStart => exact ⟨0, Nat.zero_le _, rfl, by simp, rfl⟩
  case round =>
    obtain ⟨k, hk, rfl, hmem, rfl⟩ := hrel
    by_cases hlt : k < zs.length
    · obtain ⟨b, off, rfl, _, cc⟩ := HZ.out.look hlt
      have HMT := Lib.hid (mem_take (x := x) hlt)
      have HMEM := Lib.hid hmem
      have hlo : (0 : Int) ≤ (k : Int) := Int.natCast_nonneg _
      have hhi : (k : Int) < (zs.length : Int) := by omega
      have hin : zs.getD k 0 ∈ zs := by simp [List.getD, hlt]
      have HIN := Lib.hid hin
      clear hmem hin
      generalize zs.getD k 0 = z at *
      by_cases he : x = z
      · have HI2 := Lib.hid (show x ∈ zs by rw [he]; exact HIN.out)
        subst he
        go_wp2
        go_ret
        exact ⟨⟨_, rfl, ⟨fun _ => HI2.out, fun _ => hlo⟩⟩, rfl⟩
      · have HT := Lib.hid (show x ∉ zs.take (k + 1) from fun h => (HMT.out.1 h).elim HMEM.out (fun e => he e.symm))
        go_wp2
        go_roundw
        case rel => exact ⟨k + 1, by omega, by go_num, HT.out, (by first | trivial | rfl)⟩
        case measure => simp [intOf]; omega
    · obtain rfl : k = zs.length := by omega
      rw [List.take_length] at hmem
      have HM := Lib.hid hmem
      clear hmem
      go_wp2
      go_ret
      exact ⟨⟨-1, rfl, ⟨fun h => by omega, fun h => absurd h HM.out⟩⟩, rfl⟩
theorem icontains (a : Option Addr) (n cap : Nat) (zs : List Int) (x : Int) (w : World) (hz : Ints w a n zs) (hl : n ≤ 1048576) :
    Calls Try.prog 74 #[.slice a n cap, .int .i64 x] w fun e w' => e = .returned (.bool (decide (x ∈ zs))) ∧ w' = w := by
  have HK := Lib.hid (iidx_any a n cap zs x w hz hl)
  clear hz
  go_enter Try.func74, Try.ntmps74
  go_wp2_with (fail)
  refine HK.out.mono ?_
  rintro e w1 ⟨⟨m, rfl, hm⟩, rfl⟩
  have HM := Lib.hid hm
  clear HK hm
  by_cases h0 : 0 ≤ m
  · have HI := Lib.hid (decide_eq_true (HM.out.1 h0))
    go_wp2
    go_ret
    exact ⟨by rw [HI.out]; rfl, rfl⟩
  · have HI := Lib.hid (decide_eq_false (fun h => h0 (HM.out.2 h)))
    go_wp2
    go_ret
    exact ⟨congrArg (fun t => Ending.returned (.bool t)) (by rw [HI.out]; exact decide_eq_false (by omega)), rfl⟩
theorem icls (p : Nat) (a : Option Addr) (n cap : Nat) (zs : List Int) (x : Int) (w : World) (hp : w.cell? ⟨p, 0, none⟩ = some (.int .i64 x)) (hz : Ints w a n zs) (hl : n ≤ 1048576) :
    Calls Try.prog 73 #[.slice a n cap, .pointer (some ⟨p, 0, none⟩)] w fun e w' => e = .returned (.bool (decide (x ∈ zs))) ∧ w' = w := by
  have HK := Lib.hid (icontains a n cap zs x w hz hl)
  clear hz
  generalize decide (x ∈ zs) = q at *
  go_enter Try.func73, Try.ntmps73
  go_wp2_with (fail)
  refine HK.out.mono ?_
  rintro e w1 ⟨rfl, rfl⟩
  clear HK
  go_wp2
  go_ret
  exact ⟨rfl, rfl⟩
set_option maxHeartbeats 1000000 in
theorem iidxf (p : Nat) (a : Option Addr) (cap : Nat) (L : List (List Int)) (x : Int) (w : World) (hp : w.cell? ⟨p, 0, none⟩ = some (.int .i64 x)) (hz : Ss w a L) (hl : L.length ≤ 1048576) (hb : ∀ l ∈ L, l.length ≤ 1048576) :
    Calls Try.prog 72 #[.slice a L.length cap, .func (.func 73) #[] #[.pointer (some ⟨p, 0, none⟩)]] w fun e w' => e = .returned (.int .i64 (loV L x)) ∧ w' = w := by
  have HZ := Lib.hid hz
  have HB := Lib.hid hb
  have HP := Lib.hid hp
  clear hz hb hp
  go_enter Try.func72, Try.ntmps72
  go_wp2_with (fail)
  go_loopw [8] (fun j wr => ∃ k : Nat, k ≤ L.length ∧ j = .int .i64 k ∧ (∀ i, i < k → x ∉ lnD L i) ∧ wr = w) (fun j _ => L.length - (intOf j).toNat)
  case atStart => exact ⟨0, Nat.zero_le _, rfl, fun i hi => by omega, rfl⟩
  case round =>
    obtain ⟨k, hk, rfl, hno, rfl⟩ := hrel
    have HNO := Lib.hid hno
    clear hno
    by_cases hlt : k < L.length
    · have hlo : (0 : Int) ≤ (k : Int) := Int.natCast_nonneg _
      have hhi : (k : Int) < (L.length : Int) := by omega
      obtain ⟨b, off, ak, ck, rfl, _, hcell, hi⟩ := HZ.out.look hlt
      have kk := icls p ak (lnD L k).length ck (lnD L k) x wr HP.out hi (HB.out _ (lnD_mem hlt))
      obtain ⟨l, el⟩ : ∃ q, q = lnD L k := ⟨_, rfl⟩
      rw [← el] at kk hcell
      have EL := Lib.hid el
      generalize l.length = n at *
      have KK := Lib.hid kk
      clear kk hi el
      have HM := Lib.hid (show ∀ q, q = decide (x ∈ l) → (q = true ↔ x ∈ lnD L k) from fun q e => by rw [e, decide_eq_true_iff, EL.out])
      obtain ⟨q, eq⟩ : ∃ q, q = decide (x ∈ l) := ⟨_, rfl⟩
      have HQ := Lib.hid (HM.out q eq)
      rw [← eq] at KK
      clear eq HM
      go_wp2_with (fail)
      refine KK.out.mono ?_
      rintro e w1 ⟨rfl, rfl⟩
      clear KK hcell
      cases q with
      | true =>
        have HV := Lib.hid (lo_hit hlt (HQ.out.1 rfl) HNO.out)
        (try dsimp only)
        go_wp2
        go_ret
        exact ⟨by rw [HV.out]; rfl, rfl⟩
      | false =>
        have HN2 := Lib.hid (show ∀ i, i < k + 1 → x ∉ lnD L i from fun i hi => by
          by_cases h : i < k
          · exact HNO.out i h
          · obtain rfl : i = k := by omega
            exact fun h => by have := HQ.out.2 h; cases this)
        (try dsimp only)
        go_wp2
        go_roundw
        case rel => exact ⟨k + 1, by omega, by go_num, HN2.out, (by first | trivial | rfl)⟩
        case measure => simp [intOf]; omega
    · obtain rfl : k = L.length := by omega
      have HV := Lib.hid (lo_miss HNO.out)
      go_wp2
      go_ret
      exact ⟨by rw [HV.out]; rfl, rfl⟩
set_option maxHeartbeats 1000000 in
theorem ilineof (a : Option Addr) (cap : Nat) (L : List (List Int)) (x : Int) (w : World) (hz : Ss w a L) (hl : L.length ≤ 1048576) (hb : ∀ l ∈ L, l.length ≤ 1048576) :
    Calls Try.prog 39 #[.slice a L.length cap, .int .i64 x] w fun e w' => e = .returned (.int .i64 (loV L x)) ∧ Below w.heap.size w w' := by
  have bb := Go.Joins.below_alloc1 w (.cells #[.int .i64 x] 3)
  have hc : (w.alloc (.cells #[.int .i64 x] 3)).cell? ⟨w.heap.size, 0, none⟩ = some (.int .i64 x) := Go.Joins.cell_of_block ((MapKept.heap_alloc w (.cells #[.int .i64 x] 3)).1) 0
  have kk := iidxf w.heap.size a cap L x _ hc (hz.below bb) hl hb
  have KK := Lib.hid kk
  have BB := Lib.hid bb
  clear hz hb hc kk bb
  go_enter Try.func39, Try.ntmps39
  go_wp2_with (fail)
  refine KK.out.mono ?_
  rintro e w1 ⟨rfl, rfl⟩
  clear KK
  go_wp2
  go_ret
  exact ⟨rfl, BB.out⟩
end Go.Proofs.Ytcnmchcleghcgaa

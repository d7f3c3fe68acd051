import Derived.Test.YtnncdpkmhpjmbaaZnAZ
section
namespace Go.Proofs.Ytnncdpkmhpjmbaa
open Go.ChangeShapes Go.WideShapes Go.ChangeAt Go.RowKit
set_option linter.unusedVariables false
set_option linter.unusedSimpArgs false
set_option maxRecDepth 8000

theorem auN_next (xs : List It) (k : Nat) : auN xs (k + 1) = auN xs k + ((if (itD xs k).ab = true then 1 else 0) + (if (itD xs k).ah = true then 1 else 0)) := rfl
set_option maxHeartbeats 2000000 in
theorem iautos (a : Option Addr) (cap : Nat) (xs : List It) (w : World) (hz : Its w a xs) (hl : xs.length ≤ 1048576) :
    Calls Try.prog 74 #[.slice a xs.length cap] w fun e w' => e = .returned (.int .i64 (auN xs xs.length)) ∧ Below w.heap.size w w' := by
  have HZ := Lib.hid hz
  clear hz
  go_enter Try.func74, Try.ntmps74
  go_wp2
  go_loopw [3, 8] (fun t i wr => ∃ k : Nat, k ≤ xs.length ∧ t = .int .i64 (auN xs k) ∧ i = .int .i64 k ∧ Below w.heap.size w wr) (fun _ i _ => xs.length - (intOf i).toNat)
  case atStart => exact ⟨0, Nat.zero_le _, rfl, rfl, Below.refl _ _⟩
  case round =>
    obtain ⟨k, hk, rfl, rfl, hb⟩ := hrel
    by_cases hlt : k < xs.length
    · obtain ⟨b, off, rfl, hbl, hrg⟩ := (HZ.out.below hb).look hlt
      have hlo : (0 : Int) ≤ (k : Int) := Int.natCast_nonneg _
      have hhi : (k : Int) < (xs.length : Int) := by omega
      have hmost := auN_le xs k
      have HNX := Lib.hid (auN_next xs k)
      generalize itD xs k = x at *
      generalize auN xs k = n at *
      have hn0 : (0 : Int) ≤ (n : Int) := Int.natCast_nonneg _
      have RG := Lib.hid hrg
      clear hrg
      have HBV := Lib.hid (hb.alloc hb.size (.cells #[.int .i64 x.base, .int .i64 x.least, .int .i64 x.most, .int .i64 x.grow, .int .i64 x.shrink, .int .i64 x.before, .int .i64 x.behind, .bool x.ab, .bool x.ah] 40))
      clear hb
      rcases Bool.eq_false_or_eq_true x.ab with hab | hab <;> rcases Bool.eq_false_or_eq_true x.ah with hah | hah <;>
        (have HN2 := Lib.hid (by have h := HNX.out; rw [hab, hah] at h; exact h)
         go_wp2_with (first
           | ((with_reducible apply list_load_it); exact rfl; exact rfl; exact rfl; (with_reducible exact RG.out); simp only [Act.put, List.setIfInBounds_toArray, List.set_cons_succ, List.set_cons_zero])
           | fail)
         go_roundw
         case rel => exact ⟨k + 1, by omega, by rw [HN2.out]; go_num, by go_num, (by have h := HBV.out; rw [hab, hah] at h; exact h)⟩
         case measure => simp [intOf]; omega)
    · obtain rfl : k = xs.length := by omega
      go_wp2
      go_ret
      exact ⟨rfl, hb⟩
theorem ifree (a : Option Addr) (cap : Nat) (xs : List It) (b : Option Addr) (len cap2 : Nat) (zs : List Int) (gap inner : Int) (w : World) (hz : Its w a xs) (hl : xs.length ≤ 1048576) (hs : Ints w b len zs) (hsl : len ≤ 1048576) :
    Calls Try.prog 73 #[.slice a xs.length cap, .slice b len cap2, .int .i64 gap, .int .i64 inner] w fun e w' => e = .returned (.int .i64 (frA xs zs gap inner)) ∧ Below w.heap.size w w' := by
  have KK := Lib.hid (iouter_any a cap xs b len cap2 zs gap w hz hl hs hsl)
  clear hz hs
  have HE := Lib.hid (show wrap64 (inner - ouV xs zs gap) = frA xs zs gap inner from rfl)
  generalize frA xs zs gap inner = r at *
  generalize ouV xs zs gap = o at *
  go_enter Try.func73, Try.ntmps73
  go_wp2_with (fail)
  refine KK.out.mono ?_
  rintro e w1 ⟨rfl, b1⟩
  have B1 := Lib.hid b1
  clear KK b1
  go_wp2
  go_ret
  exact ⟨ret_int HE.out, B1.out⟩
/-- A list's numbers may be read. -/
def Lk (w : World) (a : Option Addr) (zs : List Int) : Prop := ∀ k, k < zs.length → ∃ b off, a = some ⟨b, off, none⟩ ∧ b < w.heap.size ∧ w.cell? ⟨b, off + k, none⟩ = some (.int .i64 (zs.getD k 0))
theorem lk_two (w : World) (x y : Int) : Lk (w.alloc (.cells #[.int .i64 x, .int .i64 y] 3)) (some ⟨w.heap.size, 0, none⟩) [x, y] := fun k hk => by
  refine ⟨w.heap.size, 0, rfl, by simp, ?_⟩
  have h := (MapKept.heap_alloc w (.cells #[.int .i64 x, .int .i64 y] 3)).1
  have hk2 : k < 2 := hk
  match k, hk2 with
  | 0, _ => simp only [World.cell?, h]; rfl
  | 1, _ => simp only [World.cell?, h]; rfl
theorem ls_two (x y : Int) : lsOk [x, y] = (rnB x 0 1048576 && rnB y 0 1048576) := by
  unfold lsOk rnB
  rw [← Bool.decide_and]
  apply decide_eq_decide.2
  constructor
  · intro h; exact ⟨h 0 (by simp), h 1 (by simp)⟩
  · rintro ⟨h0, h1⟩ j hj
    match j, hj with
    | 0, _ => exact h0
    | 1, _ => exact h1
set_option maxHeartbeats 1000000 in
theorem ilensC (a : Option Addr) (cap : Nat) (zs : List Int) (w : World) (hz : Lk w a zs) (hl : zs.length ≤ 1048576) :
    Calls Try.prog 50 #[.slice a zs.length cap] w fun e w' => e = .returned (.bool (lsOk zs)) ∧ w' = w := by
  have HZ := Lib.hid hz
  clear hz
  go_enter Try.func50, Try.ntmps50
  go_wp2
  go_loopw [7] (fun i wr => ∃ k : Nat, k ≤ zs.length ∧ i = .int .i64 k ∧ (∀ j, j < k → rnB (zs.getD j 0) 0 1048576 = true) ∧ wr = w) (fun i _ => zs.length - (intOf i).toNat)
  case atStart => exact ⟨0, Nat.zero_le _, rfl, fun j hj => absurd hj (Nat.not_lt_zero _), rfl⟩
  case round =>
    obtain ⟨k, hk, rfl, hm, rfl⟩ := hrel
    by_cases hlt : k < zs.length
    · obtain ⟨b, off, rfl, hbl, hc⟩ := HZ.out k hlt
      have hlo : (0 : Int) ≤ (k : Int) := Int.natCast_nonneg _
      have hhi : (k : Int) < (zs.length : Int) := by omega
      have HBAD := Lib.hid (fun h => ls_bad hlt h)
      have HGOOD := Lib.hid (show rnB (zs.getD k 0) 0 1048576 = true → ∀ j, j < k + 1 → rnB (zs.getD j 0) 0 1048576 = true from fun h j hj => by
        by_cases e : j = k
        · rw [e]; exact h
        · exact hm j (by omega))
      generalize zs.getD k 0 = z at *
      have KR := Lib.hid (irng z 0 1048576 wr)
      generalize rnB z 0 1048576 = q at *
      clear hm
      go_wp2_with (fail)
      refine KR.out.mono ?_
      rintro e w1 ⟨rfl, rfl⟩
      clear KR
      cases q with
      | false =>
        (try dsimp only)
        go_wp2
        go_ret
        exact ⟨congrArg (fun t => Ending.returned (.bool t)) (HBAD.out (by simp)).symm, rfl⟩
      | true =>
        (try dsimp only)
        go_wp2
        go_roundw
        case rel => exact ⟨k + 1, by omega, by go_num, HGOOD.out (by simp), (by first | trivial | rfl)⟩
        case measure => simp [intOf]; omega
    · obtain rfl : k = zs.length := by omega
      have HM := Lib.hid (ls_all hm)
      clear hm
      go_wp2
      go_ret
      exact ⟨congrArg (fun t => Ending.returned (.bool t)) HM.out.symm, rfl⟩
theorem ilens (a : Option Addr) (len cap : Nat) (zs : List Int) (w : World) (hz : Ints w a len zs) (hl : len ≤ 1048576) :
    Calls Try.prog 50 #[.slice a len cap] w fun e w' => e = .returned (.bool (lsOk zs)) ∧ w' = w := by
  have hzl : zs.length = len := hz.1
  subst hzl
  exact ilensC a cap zs w (fun k hk => hz.look hk) hl
theorem ilens_two (x y : Int) (w : World) :
    Calls Try.prog 50 #[.slice (some ⟨w.heap.size, 0, none⟩) 2 2] (w.alloc (.cells #[.int .i64 x, .int .i64 y] 3)) fun e w' => e = .returned (.bool (rnB x 0 1048576 && rnB y 0 1048576)) ∧ Below w.heap.size w w' := by
  rw [← ls_two]
  refine (ilensC (some ⟨w.heap.size, 0, none⟩) 2 [x, y] _ (lk_two w x y) (by simp)).mono ?_
  rintro e w' ⟨rfl, rfl⟩
  exact ⟨rfl, Go.Joins.below_alloc1 w _⟩
set_option maxHeartbeats 2000000 in
theorem ialok (a : Option Addr) (cap : Nat) (xs : List It) (b : Option Addr) (len cap2 : Nat) (zs : List Int) (gap inner : Int) (w : World) (hz : Its w a xs) (hl : xs.length ≤ 1048576) (hs : Ints w b len zs) (hsl : len ≤ 1048576) :
    Calls Try.prog 72 #[.slice a xs.length cap, .slice b len cap2, .int .i64 gap, .int .i64 inner] w fun e w' => e = .returned (.bool (alOk xs zs gap inner)) ∧ Below w.heap.size w w' := by
  have hzl : zs.length = len := hs.1
  subst hzl
  have KI := Lib.hid (iitsok a cap xs w hz (by omega))
  have KL := Lib.hid (fun w' (h : Below w.heap.size w w') => ilens b zs.length cap2 zs w' (hs.below h) hsl)
  have KG := Lib.hid (fun w' => ilens_two gap inner w')
  have hdef : alOk xs zs gap inner = (itsOk xs && decide (xs.length = zs.length) && lsOk zs && (rnB gap 0 1048576 && rnB inner 0 1048576)) := by unfold alOk; rw [Bool.and_assoc]
  rw [hdef]
  clear hdef hz hs
  generalize itsOk xs = q1 at *
  generalize lsOk zs = q3 at *
  generalize (rnB gap 0 1048576 && rnB inner 0 1048576) = q4 at *
  generalize xs.length = n at *
  generalize zs.length = m at *
  cases q1 with
  | false =>
    go_enter Try.func72, Try.ntmps72
    go_wp2_with (fail)
    refine KI.out.mono ?_
    rintro e w1 ⟨rfl, b1⟩
    have B1 := Lib.hid b1
    clear b1
    (try dsimp only)
    go_wp2
    go_ret
    exact ⟨by simp, B1.out⟩
  | true =>
    by_cases hnm : (n : Int) = (m : Int)
    · cases q3 with
      | false =>
        go_enter Try.func72, Try.ntmps72
        go_wp2_with (fail)
        refine KI.out.mono ?_
        rintro e w1 ⟨rfl, b1⟩
        have B1 := Lib.hid b1
        clear b1
        (try dsimp only)
        go_wp2_with (fail)
        refine (KL.out w1 B1.out).mono ?_
        rintro e w2 ⟨rfl, rfl⟩
        (try dsimp only)
        go_wp2
        go_ret
        exact ⟨by simp, B1.out⟩
      | true =>
        go_enter Try.func72, Try.ntmps72
        go_wp2_with (fail)
        refine KI.out.mono ?_
        rintro e w1 ⟨rfl, b1⟩
        have B1 := Lib.hid b1
        clear b1
        (try dsimp only)
        go_wp2_with (fail)
        refine (KL.out w1 B1.out).mono ?_
        rintro e w2 ⟨rfl, rfl⟩
        (try dsimp only)
        go_wp2_with (fail)
        refine (KG.out _).mono ?_
        rintro e w3 ⟨rfl, b3⟩
        have B3 := Lib.hid (B1.out.trans (b3.mono B1.out.size))
        clear b3
        (try dsimp only)
        go_wp2
        go_ret
        exact ⟨by simp; omega, B3.out⟩
    · have hnm2 : ¬ n = m := by omega
      go_enter Try.func72, Try.ntmps72
      go_wp2_with (fail)
      refine KI.out.mono ?_
      rintro e w1 ⟨rfl, b1⟩
      have B1 := Lib.hid b1
      clear b1
      (try dsimp only)
      go_wp2
      go_ret
      exact ⟨by simp [hnm2], B1.out⟩
end Go.Proofs.Ytnncdpkmhpjmbaa
end

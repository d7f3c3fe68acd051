/-
  The contract of spec.SideOf: the value that applies at a side. Conditions: none.
-/
import Derived.Test.YtafemgkkibjopaaSidM
namespace Go.Proofs.Ytafemgkkibjopaa
open Go.ChangeShapes Go.WideShapes Go.ChangeAt Go.RowKit

theorem raws (w : World) (A Z X Y : Obj) : Below w.heap.size w ((((w.alloc A).alloc Z).alloc X).alloc Y) ∧ True :=
  ⟨(Go.Joins.below_alloc3 w A Z X).alloc (by simp; omega) Y, trivial⟩
set_option maxHeartbeats 1000000 in
theorem ssideof (lk ln tk tn rk rn bk bn sk sn ek en side : Int) (rtl : Bool) (w : World) :
    Calls Try.prog 15 #[.agg #[.int .i64 lk, .int .i64 ln, .int .i64 tk, .int .i64 tn, .int .i64 rk, .int .i64 rn, .int .i64 bk, .int .i64 bn, .int .i64 sk, .int .i64 sn, .int .i64 ek, .int .i64 en], .int .i64 side, .bool rtl] w fun e w' => e = .returned (.agg #[.int .i64 (sdK lk tk rk bk sk ek side rtl), .int .i64 (sdN ln tn rn bn sk sn ek en side rtl)]) ∧ Below w.heap.size w w' := by
  cases rtl
  · by_cases h0 : side = 0
    · subst h0
      by_cases hk : sk = 0
      · have hkb : (sk != 0) = false := by simp [hk]
        go_enter Try.func15, Try.ntmps15
        go_wp2
        exact bodyPost_ret (v := .agg #[.int .i64 lk, .int .i64 ln]) (by simp [results, Try.results15, go_sem]) rfl ⟨by simp [sdK, sdN, orK, orN, hk], Go.Joins.below_le (raws w _ _ _ _).1 (Nat.le_refl _)⟩
      · have hkb : (sk != 0) = true := by simp [hk]
        go_enter Try.func15, Try.ntmps15
        go_wp2
        exact bodyPost_ret (v := .agg #[.int .i64 sk, .int .i64 sn]) (by simp [results, Try.results15, go_sem]) rfl ⟨by simp [sdK, sdN, orK, orN, hk], Go.Joins.below_le (raws w _ _ _ _).1 (Nat.le_refl _)⟩
    by_cases h1 : side = 1
    · subst h1
      go_enter Try.func15, Try.ntmps15
      go_wp2
      exact bodyPost_ret (v := .agg #[.int .i64 tk, .int .i64 tn]) (by simp [results, Try.results15, go_sem]) rfl ⟨by simp [sdK, sdN], Go.Joins.below_le (raws w _ _ _ _).1 (Nat.le_refl _)⟩
    by_cases h2 : side = 2
    · subst h2
      by_cases hk : ek = 0
      · have hkb : (ek != 0) = false := by simp [hk]
        go_enter Try.func15, Try.ntmps15
        go_wp2
        exact bodyPost_ret (v := .agg #[.int .i64 rk, .int .i64 rn]) (by simp [results, Try.results15, go_sem]) rfl ⟨by simp [sdK, sdN, orK, orN, hk], Go.Joins.below_le (raws w _ _ _ _).1 (Nat.le_refl _)⟩
      · have hkb : (ek != 0) = true := by simp [hk]
        go_enter Try.func15, Try.ntmps15
        go_wp2
        exact bodyPost_ret (v := .agg #[.int .i64 ek, .int .i64 en]) (by simp [results, Try.results15, go_sem]) rfl ⟨by simp [sdK, sdN, orK, orN, hk], Go.Joins.below_le (raws w _ _ _ _).1 (Nat.le_refl _)⟩
    by_cases h3 : side = 3
    · subst h3
      go_enter Try.func15, Try.ntmps15
      go_wp2
      exact bodyPost_ret (v := .agg #[.int .i64 bk, .int .i64 bn]) (by simp [results, Try.results15, go_sem]) rfl ⟨by simp [sdK, sdN], Go.Joins.below_le (raws w _ _ _ _).1 (Nat.le_refl _)⟩
    · have e0 : (side == 0) = false := by simp [h0]
      have e1 : (side == 1) = false := by simp [h1]
      have e2 : (side == 2) = false := by simp [h2]
      have e3 : (side == 3) = false := by simp [h3]
      go_enter Try.func15, Try.ntmps15
      go_wp2
      exact bodyPost_ret (v := .agg #[.int .i64 0, .int .i64 0]) (by simp [results, Try.results15, go_sem]) rfl ⟨by simp [sdK, sdN, h0, h1, h2, h3], Go.Joins.below_le (raws w _ _ _ _).1 (Nat.le_refl _)⟩
  · by_cases h0 : side = 0
    · subst h0
      by_cases hk : ek = 0
      · have hkb : (ek != 0) = false := by simp [hk]
        go_enter Try.func15, Try.ntmps15
        go_wp2
        exact bodyPost_ret (v := .agg #[.int .i64 lk, .int .i64 ln]) (by simp [results, Try.results15, go_sem]) rfl ⟨by simp [sdK, sdN, orK, orN, hk], Go.Joins.below_le (raws w _ _ _ _).1 (Nat.le_refl _)⟩
      · have hkb : (ek != 0) = true := by simp [hk]
        go_enter Try.func15, Try.ntmps15
        go_wp2
        exact bodyPost_ret (v := .agg #[.int .i64 ek, .int .i64 en]) (by simp [results, Try.results15, go_sem]) rfl ⟨by simp [sdK, sdN, orK, orN, hk], Go.Joins.below_le (raws w _ _ _ _).1 (Nat.le_refl _)⟩
    by_cases h1 : side = 1
    · subst h1
      go_enter Try.func15, Try.ntmps15
      go_wp2
      exact bodyPost_ret (v := .agg #[.int .i64 tk, .int .i64 tn]) (by simp [results, Try.results15, go_sem]) rfl ⟨by simp [sdK, sdN], Go.Joins.below_le (raws w _ _ _ _).1 (Nat.le_refl _)⟩
    by_cases h2 : side = 2
    · subst h2
      by_cases hk : sk = 0
      · have hkb : (sk != 0) = false := by simp [hk]
        go_enter Try.func15, Try.ntmps15
        go_wp2
        exact bodyPost_ret (v := .agg #[.int .i64 rk, .int .i64 rn]) (by simp [results, Try.results15, go_sem]) rfl ⟨by simp [sdK, sdN, orK, orN, hk], Go.Joins.below_le (raws w _ _ _ _).1 (Nat.le_refl _)⟩
      · have hkb : (sk != 0) = true := by simp [hk]
        go_enter Try.func15, Try.ntmps15
        go_wp2
        exact bodyPost_ret (v := .agg #[.int .i64 sk, .int .i64 sn]) (by simp [results, Try.results15, go_sem]) rfl ⟨by simp [sdK, sdN, orK, orN, hk], Go.Joins.below_le (raws w _ _ _ _).1 (Nat.le_refl _)⟩
    by_cases h3 : side = 3
    · subst h3
      go_enter Try.func15, Try.ntmps15
      go_wp2
      exact bodyPost_ret (v := .agg #[.int .i64 bk, .int .i64 bn]) (by simp [results, Try.results15, go_sem]) rfl ⟨by simp [sdK, sdN], Go.Joins.below_le (raws w _ _ _ _).1 (Nat.le_refl _)⟩
    · have e0 : (side == 0) = false := by simp [h0]
      have e1 : (side == 1) = false := by simp [h1]
      have e2 : (side == 2) = false := by simp [h2]
      have e3 : (side == 3) = false := by simp [h3]
      go_enter Try.func15, Try.ntmps15
      go_wp2
      exact bodyPost_ret (v := .agg #[.int .i64 0, .int .i64 0]) (by simp [results, Try.results15, go_sem]) rfl ⟨by simp [sdK, sdN, h0, h1, h2, h3], Go.Joins.below_le (raws w _ _ _ _).1 (Nat.le_refl _)⟩
end Go.Proofs.Ytafemgkkibjopaa

import Derived.Test.YtnncdpkmhpjmbaaZnBI
import Derived.Test.YtnncdpkmhpjmbaaZnBN
import Derived.Test.YtnncdpkmhpjmbaaZnBS
import Derived.Test.YtnncdpkmhpjmbaaZnBT
section
namespace Go.Proofs.Ytnncdpkmhpjmbaa
open Go.ChangeShapes Go.WideShapes Go.ChangeAt Go.RowKit
set_option linter.unusedVariables false
set_option linter.unusedSimpArgs false
set_option maxRecDepth 8000

theorem RowI.form {lo : Nat} {v : Value} {xs : List Int} {w : World} (h : RowI lo v xs w) : (v = .slice none 0 0 ∧ xs = []) ∨ ∃ g c, v = .slice (some ⟨g, 0, none⟩) xs.length c := by
  rcases h.2 with ⟨h1, h2⟩ | ⟨g, cap, cur, h1, _⟩
  · exact Or.inl ⟨h1, List.length_eq_zero_iff.1 h2⟩
  · exact Or.inr ⟨g, cap, h1⟩
theorem info_intK : (Try.prog.info? 3).map (fun i => (i.zero, i.size, i.bytes)) = some (some (.int .i64 0), 1, 8) := by kernel_rfl
/-- slices.Clone of ints: a row of the call's own. -/
theorem iclone_o (a : Option Addr) (len c : Nat) (zs : List Int) (w : World) (hz : Ints w a len zs) (hl : len ≤ 1048576) :
    Calls Try.prog 40 #[.slice a len c] w (OutPost zs w) := by
  have hzl : zs.length = len := hz.1
  subst hzl
  obtain ⟨i0, hi, hz0, hz1, hz2⟩ := info_parts info_intK
  cases a with
  | none =>
    have h0 : zs.length = 0 := by
      rcases hz.2.2 with h0 | ⟨b, off, e, _⟩
      · exact h0
      · cases e
    have hnil : zs = [] := List.length_eq_zero_iff.1 h0
    subst hnil
    have heq := eql_nil w none 0 c Try.underlying24
    go_enter Try.func40, Try.ntmps40
    go_wp2
    go_ret
    exact ⟨_, rfl, World.ownsRow_nil _ _ _ _, Below.refl _ _⟩
  | some ad =>
    have hown : (w.alloc (.cells #[] 3)).ownsRow w.heap.size 3 1 (.slice (some ⟨w.heap.size, 0, none⟩) 0 0) 0 [] := World.ownsRow_lit w #[] 0 (Nat.le_refl _) (by unfold maxLen; omega) rfl
    have b1 := Go.Joins.below_alloc1 w (.cells #[] 3)
    have hn1 := ints_news (hz.below b1)
    have HO := Lib.hid hown
    have HN := Lib.hid hn1
    have heq := eql_nil w (some ad) zs.length c Try.underlying24
    clear hz hown hn1
    go_enter Try.func40, Try.ntmps40
    go_wp2_with (first
      | (at_builtin; refine list_append_any rfl _ _ 24 rfl w.heap.size 3 i0 (.int .i64 0) 1 8 Try.underlying24 hi hz0 hz1 hz2 rfl (by decide) _ 0 [] rfl HO.out (some ad) zs.length c (zs.map (Value.int .i64)) rfl (by simp) HN.out (ints_one' zs) (by unfold maxLen; omega) (by omega) (by simp) ?_)
      | fail)
    intro v' w3 hown3 hgr _
    have hk : RowI w.heap.size v' zs w3 := by unfold RowI; simpa using hown3
    have hb : Below w.heap.size w w3 := ((b1).grown hgr b1.size (fun k hk => by simp [Value.ownBlock] at hk; omega))
    clear hown3 hgr HO HN b1
    go_wp2
    go_ret
    exact ⟨_, rfl, hk, hb⟩
def StRel (w w2 : World) (zs G : List Int) (g c : Nat) (i : Value) (wr : World) : Prop :=
  ∃ k : Nat, k ≤ zs.length ∧ i = .int .i64 k ∧ RowI w.heap.size (.slice (some ⟨g, 0, none⟩) zs.length c) (adK zs G k ++ zs.drop k) wr ∧ w2.grownBy wr (some g) ∧ Below w.heap.size w wr
set_option maxHeartbeats 2000000 in
theorem istretched (a : Option Addr) (len c0 : Nat) (zs : List Int) (free : Int) (w : World) (hz : Ints w a len zs) (hl : len ≤ 12) (hls : ∀ j, 0 ≤ zs.getD j 0 ∧ zs.getD j 0 ≤ 1048576) (hf0 : -9223372036854775808 ≤ free) (hf1 : free ≤ 9223372036854775807) :
    Calls Try.prog 41 #[.int .i64 free, .slice a len c0] w (OutPost (adK zs (evnL (if free < 0 then 0 else free) zs.length) zs.length) w) := by
  have hzl : zs.length = len := hz.1
  subst hzl
  have hrz := hz.2.1
  have KC := Lib.hid (iclone_o a zs.length c0 zs w hz (by omega))
  have hgl := evn_len (n := if free < 0 then 0 else free) (k := zs.length) (by omega)
  have hgb := evn_bd (if free < 0 then 0 else free) zs.length
  have hga := evn_all (if free < 0 then 0 else free) zs.length
  have KE := Lib.hid (fun w' => iev_any (if free < 0 then 0 else free) zs.length w')
  obtain ⟨G, eG⟩ : ∃ G, G = evnL (if free < 0 then 0 else free) zs.length := ⟨_, rfl⟩
  rw [← eG] at KE hgl hgb hga ⊢
  clear hz
  by_cases hneg : free < 0
  · rw [if_pos hneg] at KE
    clear eG
    go_enter Try.func41, Try.ntmps41
    go_wp2_with (fail)
    refine KC.out.mono ?_
    rintro e w1 ⟨v, rfl, r1, b1⟩
    have R1 := Lib.hid r1
    have B1 := Lib.hid b1
    rcases r1.form with ⟨rfl, hnil⟩ | ⟨g, c, rfl⟩
    · have hn0 : zs.length = 0 := by rw [hnil]; rfl
      have hG0 : G = [] := List.length_eq_zero_iff.1 (by rw [hgl, hn0])
      clear r1 b1 KC
      rw [hn0] at KE
      subst hG0
      subst hnil
      (try dsimp only)
      go_wp2_with (fail)
      refine (KE.out w1).mono ?_
      rintro e w2 ⟨v2, rfl, r2, b2⟩
      obtain ⟨a2, c2, rfl, hi2⟩ := r2.slice hga
      have R2 := Lib.hid (R1.out.below b2)
      have B2 := Lib.hid (B1.out.trans (b2.mono B1.out.size))
      clear b2 r2 hi2 KE
      (try dsimp only)
      go_wp2
      go_loopw [16] (fun i wr => i = .int .i64 0 ∧ wr = w2) (fun i _ => 0)
      case atStart => exact ⟨rfl, rfl⟩
      case round =>
        obtain ⟨rfl, rfl⟩ := hrel
        go_wp2
        go_ret
        exact ⟨_, rfl, R2.out, B2.out⟩
    · have hgw := (World.ownsRow.lt R1.out g rfl).2
      clear r1 b1 KC
      (try dsimp only)
      go_wp2_with (fail)
      refine (KE.out w1).mono ?_
      rintro e w2 ⟨v2, rfl, r2, b2⟩
      obtain ⟨a2, c2, rfl, hi2⟩ := r2.slice hga
      rw [hgl]
      have HI2 := Lib.hid r2
      have R2 := Lib.hid (show RowI w.heap.size (.slice (some ⟨g, 0, none⟩) zs.length c) (adK zs G 0 ++ zs.drop 0) w2 from R1.out.below b2)
      have B2 := Lib.hid (B1.out.trans (b2.mono B1.out.size))
      have hap : ∀ k, (Value.slice a2 G.length c2).ownBlock = some k → w1.heap.size ≤ k := fun k hk => (World.ownsRow.lt r2 k hk).1
      have hne : (Value.slice a2 G.length c2).ownBlock = none ∨ (Value.slice a2 G.length c2).ownBlock ≠ some g := by
        cases hv : (Value.slice a2 G.length c2).ownBlock with
        | none => exact Or.inl rfl
        | some q => exact Or.inr (fun e => by injection e with e; have := hap q hv; omega)
      have HNE := Lib.hid hne
      clear b2 r2 hi2 KE hap hne
      (try dsimp only)
      go_wp2
      go_loopw [16] (StRel w w2 zs G g c) (fun i _ => zs.length - (intOf i).toNat)
      case atStart => exact ⟨0, Nat.zero_le _, rfl, R2.out, World.grownBy.refl _ _, B2.out⟩
      case round =>
        clear R2 B2
        obtain ⟨k, hk, rfl, ho, hg, hb⟩ := hrel
        by_cases hlt : k < zs.length
        · have hlo : (0 : Int) ≤ (k : Int) := Int.natCast_nonneg _
          have hhi : (k : Int) < (zs.length : Int) := by omega
          have hll : (adK zs G k ++ zs.drop k).length = zs.length := by rw [List.length_append, adK_len, List.length_drop]; omega
          have hr2 := RowI.kept HI2.out hg HNE.out
          obtain ⟨a3, c3, e3, hi3⟩ := hr2.slice hga
          injection e3 with e31 e32 e33
          subst e31
          obtain ⟨bg, og, rfl, hbg, hcg⟩ := hi3.look (k := k) (by omega)
          have hcz := ho.cell hll hlt
          rw [adK_get hlt] at hcz
          have hz1 := hls k
          have hg1 := hgb k
          obtain ⟨hq, fq, hput⟩ := ho.put hll hlt (zs.getD k 0 + G.getD k 0)
          rw [adK_set hlt] at hput
          have hgr := gr_setC wr g k (.int .i64 (zs.getD k 0 + G.getD k 0))
          have hge := (World.ownsRow.lt ho g rfl).1
          have R3 := Lib.hid hput
          have G3 := Lib.hid (hg.trans hgr)
          have B3 := Lib.hid (bl_set hb (g := g) k hge (.int .i64 (zs.getD k 0 + G.getD k 0)))
          have HO := Lib.hid ho
          clear hq hr2 hi3 hput hgr hg hb ho e32 e33
          generalize zs.getD k 0 = z at *
          generalize G.getD k 0 = y at *
          have hwr : IntKind.i64.wrap (z + y) = z + y := IntWalk.i64_in _ (by omega)
          go_wp2
          go_roundw
          case rel => exact ⟨k + 1, by omega, by go_num, R3.out, G3.out, B3.out⟩
          case measure => simp [intOf]; omega
        · obtain rfl : k = zs.length := by omega
          have R3 := Lib.hid (show RowI w.heap.size (.slice (some ⟨g, 0, none⟩) zs.length c) (adK zs G zs.length) wr by
            rw [List.drop_length, List.append_nil] at ho; exact ho)
          have B3 := Lib.hid hb
          clear ho hg hb
          go_wp2
          go_ret
          exact ⟨_, rfl, R3.out, B3.out⟩
  · rw [if_neg hneg] at KE
    clear eG
    go_enter Try.func41, Try.ntmps41
    go_wp2_with (fail)
    refine KC.out.mono ?_
    rintro e w1 ⟨v, rfl, r1, b1⟩
    have R1 := Lib.hid r1
    have B1 := Lib.hid b1
    rcases r1.form with ⟨rfl, hnil⟩ | ⟨g, c, rfl⟩
    · have hn0 : zs.length = 0 := by rw [hnil]; rfl
      have hG0 : G = [] := List.length_eq_zero_iff.1 (by rw [hgl, hn0])
      clear r1 b1 KC
      rw [hn0] at KE
      subst hG0
      subst hnil
      (try dsimp only)
      go_wp2_with (fail)
      refine (KE.out w1).mono ?_
      rintro e w2 ⟨v2, rfl, r2, b2⟩
      obtain ⟨a2, c2, rfl, hi2⟩ := r2.slice hga
      have R2 := Lib.hid (R1.out.below b2)
      have B2 := Lib.hid (B1.out.trans (b2.mono B1.out.size))
      clear b2 r2 hi2 KE
      (try dsimp only)
      go_wp2
      go_loopw [16] (fun i wr => i = .int .i64 0 ∧ wr = w2) (fun i _ => 0)
      case atStart => exact ⟨rfl, rfl⟩
      case round =>
        obtain ⟨rfl, rfl⟩ := hrel
        go_wp2
        go_ret
        exact ⟨_, rfl, R2.out, B2.out⟩
    · have hgw := (World.ownsRow.lt R1.out g rfl).2
      clear r1 b1 KC
      (try dsimp only)
      go_wp2_with (fail)
      refine (KE.out w1).mono ?_
      rintro e w2 ⟨v2, rfl, r2, b2⟩
      obtain ⟨a2, c2, rfl, hi2⟩ := r2.slice hga
      rw [hgl]
      have HI2 := Lib.hid r2
      have R2 := Lib.hid (show RowI w.heap.size (.slice (some ⟨g, 0, none⟩) zs.length c) (adK zs G 0 ++ zs.drop 0) w2 from R1.out.below b2)
      have B2 := Lib.hid (B1.out.trans (b2.mono B1.out.size))
      have hap : ∀ k, (Value.slice a2 G.length c2).ownBlock = some k → w1.heap.size ≤ k := fun k hk => (World.ownsRow.lt r2 k hk).1
      have hne : (Value.slice a2 G.length c2).ownBlock = none ∨ (Value.slice a2 G.length c2).ownBlock ≠ some g := by
        cases hv : (Value.slice a2 G.length c2).ownBlock with
        | none => exact Or.inl rfl
        | some q => exact Or.inr (fun e => by injection e with e; have := hap q hv; omega)
      have HNE := Lib.hid hne
      clear b2 r2 hi2 KE hap hne
      (try dsimp only)
      go_wp2
      go_loopw [16] (StRel w w2 zs G g c) (fun i _ => zs.length - (intOf i).toNat)
      case atStart => exact ⟨0, Nat.zero_le _, rfl, R2.out, World.grownBy.refl _ _, B2.out⟩
      case round =>
        clear R2 B2
        obtain ⟨k, hk, rfl, ho, hg, hb⟩ := hrel
        by_cases hlt : k < zs.length
        · have hlo : (0 : Int) ≤ (k : Int) := Int.natCast_nonneg _
          have hhi : (k : Int) < (zs.length : Int) := by omega
          have hll : (adK zs G k ++ zs.drop k).length = zs.length := by rw [List.length_append, adK_len, List.length_drop]; omega
          have hr2 := RowI.kept HI2.out hg HNE.out
          obtain ⟨a3, c3, e3, hi3⟩ := hr2.slice hga
          injection e3 with e31 e32 e33
          subst e31
          obtain ⟨bg, og, rfl, hbg, hcg⟩ := hi3.look (k := k) (by omega)
          have hcz := ho.cell hll hlt
          rw [adK_get hlt] at hcz
          have hz1 := hls k
          have hg1 := hgb k
          obtain ⟨hq, fq, hput⟩ := ho.put hll hlt (zs.getD k 0 + G.getD k 0)
          rw [adK_set hlt] at hput
          have hgr := gr_setC wr g k (.int .i64 (zs.getD k 0 + G.getD k 0))
          have hge := (World.ownsRow.lt ho g rfl).1
          have R3 := Lib.hid hput
          have G3 := Lib.hid (hg.trans hgr)
          have B3 := Lib.hid (bl_set hb (g := g) k hge (.int .i64 (zs.getD k 0 + G.getD k 0)))
          have HO := Lib.hid ho
          clear hq hr2 hi3 hput hgr hg hb ho e32 e33
          generalize zs.getD k 0 = z at *
          generalize G.getD k 0 = y at *
          have hwr : IntKind.i64.wrap (z + y) = z + y := IntWalk.i64_in _ (by omega)
          go_wp2
          go_roundw
          case rel => exact ⟨k + 1, by omega, by go_num, R3.out, G3.out, B3.out⟩
          case measure => simp [intOf]; omega
        · obtain rfl : k = zs.length := by omega
          have R3 := Lib.hid (show RowI w.heap.size (.slice (some ⟨g, 0, none⟩) zs.length c) (adK zs G zs.length) wr by
            rw [List.drop_length, List.append_nil] at ho; exact ho)
          have B3 := Lib.hid hb
          clear ho hg hb
          go_wp2
          go_ret
          exact ⟨_, rfl, R3.out, B3.out⟩
set_option maxHeartbeats 1000000 in
theorem istretch (b : Option Addr) (len cap2 : Nat) (zs : List Int) (gap inner ct : Int) (w : World) (hs : Ints w b len zs) (hsl : len ≤ 1048576) :
    Calls Try.prog 14 #[.slice b len cap2, .int .i64 gap, .int .i64 inner, .int .i64 ct] w (OutPost (stV16 zs gap inner ct) w) := by
  have HS := Lib.hid hs
  have KC := Lib.hid (fun w' (h : Below w.heap.size w w') => iclone_o b len cap2 zs w' (hs.below h) hsl)
  have KO := Lib.hid (iacok b len cap2 zs gap inner w hs hsl)
  clear hs
  by_cases hc : ct = 1
  · subst hc
    cases hok : acOk zs gap inner with
    | false =>
      have hv : stV16 zs gap inner 1 = zs := by unfold stV16; rw [if_neg (by rw [hok]; decide)]
      rw [hv]
      rw [hok] at KO
      clear hv
      go_enter Try.func14, Try.ntmps14
      go_wp2_with (fail)
      refine KO.out.mono ?_
      rintro e w1 ⟨rfl, b1⟩
      have B1 := Lib.hid b1
      clear b1 KO
      (try dsimp only)
      go_wp2_with (fail)
      refine (KC.out w1 B1.out).mono ?_
      rintro e w2 ⟨v, rfl, r2, b2⟩
      have R2 := Lib.hid (lowI r2 B1.out.size)
      have B2 := Lib.hid (B1.out.trans (b2.mono B1.out.size))
      clear b2 r2
      (try dsimp only)
      go_wp2
      go_ret
      exact ⟨_, rfl, R2.out, B2.out⟩
    | true =>
      have hF := ac_of hok
      have hv : stV16 zs gap inner 1 = adK zs (crG zs gap inner) zs.length := by unfold stV16; rw [if_pos ⟨rfl, hok⟩]
      rw [hv]
      rw [hok] at KO
      clear hv
      have hcb := cr_bd hF
      have hib := hF.inner
      have hzl : zs.length = len := HS.out.1
      have KX := Lib.hid (fun w' (h : Below w.heap.size w w') => icrtot b len cap2 zs gap w' (HS.out.below h) hsl)
      have KS := Lib.hid (fun w' (h : Below w.heap.size w w') => istretched b len cap2 zs (inner - crV zs gap) w' (HS.out.below h) (by have := hF.n12; omega) hF.ls (by omega) (by omega))
      have hG : evnL (if inner - crV zs gap < 0 then 0 else inner - crV zs gap) zs.length = crG zs gap inner := rfl
      rw [hG] at KS
      generalize crG zs gap inner = G at *
      generalize crV zs gap = X at *
      have hw1 : IntKind.i64.wrap (inner - X) = inner - X := IntWalk.i64_in _ (by omega)
      clear hG hF
      go_enter Try.func14, Try.ntmps14
      go_wp2_with (fail)
      refine KO.out.mono ?_
      rintro e w1 ⟨rfl, b1⟩
      have B1 := Lib.hid b1
      clear b1 KO
      (try dsimp only)
      go_wp2_with (fail)
      refine (KX.out w1 B1.out).mono ?_
      rintro e w2 ⟨rfl, b2⟩
      have B2 := Lib.hid (B1.out.trans (b2.mono B1.out.size))
      clear b2
      (try dsimp only)
      go_wp2_with (fail)
      refine (KS.out w2 B2.out).mono ?_
      rintro e w3 ⟨v, rfl, r3, b3⟩
      have R3 := Lib.hid (lowI r3 B2.out.size)
      have B3 := Lib.hid (B2.out.trans (b3.mono B2.out.size))
      clear b3 r3
      (try dsimp only)
      go_wp2
      go_ret
      exact ⟨_, rfl, R3.out, B3.out⟩
  · have hv : stV16 zs gap inner ct = zs := by unfold stV16; rw [if_neg (fun h => hc h.1)]
    rw [hv]
    clear hv KO
    go_enter Try.func14, Try.ntmps14
    go_wp2_with (fail)
    refine (KC.out w (Below.refl _ _)).mono ?_
    rintro e w2 ⟨v, rfl, r2, b2⟩
    have R2 := Lib.hid r2
    have B2 := Lib.hid b2
    clear b2 r2
    (try dsimp only)
    go_wp2
    go_ret
    exact ⟨_, rfl, R2.out, B2.out⟩
theorem ijust16 (ct : Int) (w : World) : Calls Try.prog 42 #[.int .i64 ct] w fun e w' => e = .returned (.int .i64 (jsV ct)) ∧ w' = w := by
  by_cases h3 : ct = 3 <;> by_cases h4 : ct = 4 <;> by_cases h5 : ct = 5 <;> by_cases h6 : ct = 6 <;> (try omega) <;>
    (go_enter Try.func42, Try.ntmps42
     go_wp2
     go_ret
     exact ⟨ret_int (by unfold jsV; (repeat' split) <;> omega), rfl⟩)
set_option maxHeartbeats 4000000 in
theorem iplacelines (b : Option Addr) (len cap2 : Nat) (zs : List Int) (gap inner ct : Int) (w : World) (hs : Ints w b len zs) (hsl : len ≤ 1048576) :
    Calls Try.prog 15 #[.slice b len cap2, .int .i64 gap, .int .i64 inner, .int .i64 ct] w (OutPost (acV zs gap inner ct) w) := by
  obtain ⟨i0, hi, hz0, hz1, hz2⟩ := info_parts info_item
  have HZ := Lib.hid hs
  have KO := Lib.hid (iacok b len cap2 zs gap inner w hs hsl)
  clear hs
  cases hok : acOk zs gap inner with
  | false =>
    have hv : acV zs gap inner ct = [] := by unfold acV; rw [if_neg (by rw [hok]; decide)]
    rw [hv]
    rw [hok] at KO
    go_enter Try.func15, Try.ntmps15
    go_wp2_with (fail)
    refine KO.out.mono ?_
    rintro e w1 ⟨rfl, b1⟩
    have B1 := Lib.hid b1
    clear b1 KO
    (try dsimp only)
    go_wp2
    go_ret
    exact ⟨_, rfl, World.ownsRow_nil _ _ _ _, B1.out⟩
  | true =>
    have hF := ac_of hok
    have hv : acV zs gap inner ct = plV (zit zs.length) zs gap inner (jsV ct) := by unfold acV; rw [if_pos hok]
    rw [hv]
    rw [hok] at KO
    clear hv
    have hzl : zs.length = len := HZ.out.1
    have h12 := hF.n12
    rw [hzl] at h12 ⊢
    have KJ := Lib.hid (fun w' => ijust16 ct w')
    have KP := Lib.hid (fun g w' (h : Below w.heap.size w w') (hr : RowT w.heap.size (.slice (some ⟨g, 0, none⟩) len len) (zit len) w') => (by
      have hr2 : RowT w.heap.size (.slice (some ⟨g, 0, none⟩) (zit len).length len) (zit len) w' := by rw [zit_len]; exact hr
      have hit : Its w' (some ⟨g, 0, none⟩) (zit len) := hr2.its (zit_inr _)
      have := iplaces_along (some ⟨g, 0, none⟩) len (zit len) b len cap2 zs gap inner (jsV ct) w' hit (by rw [zit_len]; omega) (HZ.out.below h) hsl
      rw [zit_len] at this
      exact this : Calls Try.prog 28 #[.slice (some ⟨g, 0, none⟩) len len, .slice b len cap2, .int .i64 gap, .int .i64 inner, .int .i64 (jsV ct)] w' (OutPost (plV (zit len) zs gap inner (jsV ct)) w')))
    generalize plV (zit len) zs gap inner (jsV ct) = PL at *
    generalize jsV ct = J at *
    clear hF
    go_enter Try.func15, Try.ntmps15
    go_wp2_with (fail)
    refine KO.out.mono ?_
    rintro e w1 ⟨rfl, b1⟩
    have B1 := Lib.hid b1
    clear b1 KO
    (try dsimp only)
    go_wp2
    refine wp_region_held_drew (S := fun w' => Below w.heap.size w w') (by kernel_rfl) B1.out.drew (fun HS => ?_)
    refine wpAnyH_take (i := 0) (oi := ⟨some 14, Op.move (Operand.tmp 0), _, _, _, _⟩) (v := .slice b len cap2) rfl (by kernel_rfl) (by kernel_rfl) (by kernel_rfl) (fun _ _ _ h => h) (Or.inl ⟨by rfl, fun W hW => by rfl⟩) HS ?_
    simp only [World.size_alloc, Act.put, List.setIfInBounds_toArray, List.set_cons_succ, List.set_cons_zero]
    refine wpAnyH_take (i := 1) (oi := ⟨some 15, Op.call { callee := .builtin .len, args := #[Operand.tmp 14], argTypes := #[24] }, _, _, _, _⟩) (v := .int .i64 len) rfl (by kernel_rfl) (by kernel_rfl) (by kernel_rfl) (fun _ _ _ h => h) (Or.inl ⟨by rfl, fun W hW => by go_simp⟩) HS ?_
    simp only [World.size_alloc, Act.put, List.setIfInBounds_toArray, List.set_cons_succ, List.set_cons_zero]
    refine wpAnyH_take (i := 3) (oi := ⟨some 17, Op.move (Operand.tmp 0), _, _, _, _⟩) (v := .slice b len cap2) rfl (by kernel_rfl) (by kernel_rfl) (by kernel_rfl) (fun _ _ _ h => h) (Or.inl ⟨by rfl, fun W hW => by rfl⟩) HS ?_
    simp only [World.size_alloc, Act.put, List.setIfInBounds_toArray, List.set_cons_succ, List.set_cons_zero]
    refine wpAnyH_take (i := 4) (oi := ⟨some 18, Op.move (Operand.tmp 1), _, _, _, _⟩) (v := .int .i64 gap) rfl (by kernel_rfl) (by kernel_rfl) (by kernel_rfl) (fun _ _ _ h => h) (Or.inl ⟨by rfl, fun W hW => by rfl⟩) HS ?_
    simp only [World.size_alloc, Act.put, List.setIfInBounds_toArray, List.set_cons_succ, List.set_cons_zero]
    refine wpAnyH_take (i := 5) (oi := ⟨some 19, Op.move (Operand.tmp 2), _, _, _, _⟩) (v := .int .i64 inner) rfl (by kernel_rfl) (by kernel_rfl) (by kernel_rfl) (fun _ _ _ h => h) (Or.inl ⟨by rfl, fun W hW => by rfl⟩) HS ?_
    simp only [World.size_alloc, Act.put, List.setIfInBounds_toArray, List.set_cons_succ, List.set_cons_zero]
    refine wpAnyH_take (i := 6) (oi := ⟨some 20, Op.move (Operand.tmp 3), _, _, _, _⟩) (v := .int .i64 ct) rfl (by kernel_rfl) (by kernel_rfl) (by kernel_rfl) (fun _ _ _ h => h) (Or.inl ⟨by rfl, fun W hW => by rfl⟩) HS ?_
    simp only [World.size_alloc, Act.put, List.setIfInBounds_toArray, List.set_cons_succ, List.set_cons_zero]
    refine anyH_2 2 7 rfl rfl (by kernel_rfl) rfl rfl ?_ ?_
    · refine wp_make_full _ _ 34 rfl _ 40 i0 (.agg #[.int .i64 0, .int .i64 0, .int .i64 0, .int .i64 0, .int .i64 0, .int .i64 0, .int .i64 0, .bool false, .bool false]) 9 Try.underlying34 hi hz0 hz1 .i64 .i64 _ _ len rfl rfl rfl rfl (by rw [hz2]; omega) (by unfold maxLen; omega) (Nat.le_refl _) ?_
      intro wm rm gq
      have bq := (Below.refl _ _).grown gq (Nat.le_refl _) (fun g hg => by cases hg)
      rw [made_it] at rm
      have nm := (World.ownsRow.lt rm _ rfl).1
      have RM := Lib.hid (RowT.lower (show RowT _ (.slice (some ⟨_, 0, none⟩) len len) (zit len) wm by unfold RowT; rw [zit_len]; exact rm) HS.size)
      (try dsimp only)
      replace HS := HS.trans (bq.mono HS.size)
      clear bq gq rm
      refine ⟨HS, ?_⟩
      simp only [World.size_alloc, Act.put, List.setIfInBounds_toArray, List.set_cons_succ, List.set_cons_zero]
      refine anyH_1 7 rfl (by kernel_rfl) rfl ?_
      go_wp2_with (fail)
      refine (KJ.out _).mono ?_
      rintro e wj ⟨rfl, rfl⟩
      (try dsimp only)
      refine ⟨HS, ?_⟩
      (try simp only [World.size_alloc, Act.put, List.setIfInBounds_toArray, List.set_cons_succ, List.set_cons_zero])
      refine anyH_1 8 rfl (by kernel_rfl) rfl ?_
      go_wp2_with (fail)
      refine (KP.out _ _ HS RM.out).mono ?_
      rintro e w5 ⟨v, rfl, r5, b5⟩
      have R5 := Lib.hid (lowI r5 HS.size)
      replace HS := HS.trans (b5.mono HS.size)
      clear b5 r5
      (try dsimp only)
      refine ⟨HS, ?_⟩
      (try simp only [World.size_alloc, Act.put, List.setIfInBounds_toArray, List.set_cons_succ, List.set_cons_zero])
      refine wpAnyH_take (i := 9) (oi := ⟨some 8, Op.assign (Operand.tmp 22), _, _, _, _⟩) (v := v) rfl (by kernel_rfl) (by kernel_rfl) (by kernel_rfl) (fun _ _ _ h => h) (Or.inl ⟨by rfl, fun W hW => by rfl⟩) HS ?_
      simp only [World.size_alloc, Act.put, List.setIfInBounds_toArray, List.set_cons_succ, List.set_cons_zero]
      refine wpAnyH_done (by kernel_rfl) ?_ _
      go_wp2
      go_ret
      exact ⟨_, rfl, R5.out, HS⟩
    · go_wp2_with (fail)
      refine (KJ.out _).mono ?_
      rintro e wj ⟨rfl, rfl⟩
      (try dsimp only)
      refine ⟨HS, ?_⟩
      (try simp only [World.size_alloc, Act.put, List.setIfInBounds_toArray, List.set_cons_succ, List.set_cons_zero])
      refine anyH_1 2 rfl (by kernel_rfl) rfl ?_
      refine wp_make_full _ _ 34 rfl _ 40 i0 (.agg #[.int .i64 0, .int .i64 0, .int .i64 0, .int .i64 0, .int .i64 0, .int .i64 0, .int .i64 0, .bool false, .bool false]) 9 Try.underlying34 hi hz0 hz1 .i64 .i64 _ _ len rfl rfl rfl rfl (by rw [hz2]; omega) (by unfold maxLen; omega) (Nat.le_refl _) ?_
      intro wm rm gq
      have bq := (Below.refl _ _).grown gq (Nat.le_refl _) (fun g hg => by cases hg)
      rw [made_it] at rm
      have nm := (World.ownsRow.lt rm _ rfl).1
      have RM := Lib.hid (RowT.lower (show RowT _ (.slice (some ⟨_, 0, none⟩) len len) (zit len) wm by unfold RowT; rw [zit_len]; exact rm) HS.size)
      (try dsimp only)
      replace HS := HS.trans (bq.mono HS.size)
      clear bq gq rm
      refine ⟨HS, ?_⟩
      simp only [World.size_alloc, Act.put, List.setIfInBounds_toArray, List.set_cons_succ, List.set_cons_zero]
      refine anyH_1 8 rfl (by kernel_rfl) rfl ?_
      go_wp2_with (fail)
      refine (KP.out _ _ HS RM.out).mono ?_
      rintro e w5 ⟨v, rfl, r5, b5⟩
      have R5 := Lib.hid (lowI r5 HS.size)
      replace HS := HS.trans (b5.mono HS.size)
      clear b5 r5
      (try dsimp only)
      refine ⟨HS, ?_⟩
      (try simp only [World.size_alloc, Act.put, List.setIfInBounds_toArray, List.set_cons_succ, List.set_cons_zero])
      refine wpAnyH_take (i := 9) (oi := ⟨some 8, Op.assign (Operand.tmp 22), _, _, _, _⟩) (v := v) rfl (by kernel_rfl) (by kernel_rfl) (by kernel_rfl) (fun _ _ _ h => h) (Or.inl ⟨by rfl, fun W hW => by rfl⟩) HS ?_
      simp only [World.size_alloc, Act.put, List.setIfInBounds_toArray, List.set_cons_succ, List.set_cons_zero]
      refine wpAnyH_done (by kernel_rfl) ?_ _
      go_wp2
      go_ret
      exact ⟨_, rfl, R5.out, HS⟩
end Go.Proofs.Ytnncdpkmhpjmbaa
end

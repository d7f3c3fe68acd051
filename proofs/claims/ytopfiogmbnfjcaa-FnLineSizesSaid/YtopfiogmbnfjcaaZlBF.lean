import Derived.Test.YtopfiogmbnfjcaaZlBE
section
namespace Go.Proofs.Ytopfiogmbnfjcaa
open Go.ChangeShapes Go.WideShapes Go.ChangeAt Go.RowKit
set_option linter.unusedVariables false
set_option linter.unusedSimpArgs false
set_option maxRecDepth 8000

def FlPost (xs : List It) (gap inner : Int) (a : Option Addr) (cap : Nat) (w : World) (e : Ending) (w' : World) : Prop :=
  ∃ fb zb wb ws, e = .returned (.pointer (some ⟨fb, 0, none⟩)) ∧ FxM w (fxOf xs gap inner) a cap fb zb wb (fxV xs gap inner).1 ws (fxV xs gap inner).2 w'
set_option maxHeartbeats 4000000 in
theorem iflexed (a : Option Addr) (cap : Nat) (xs : List It) (gap inner : Int) (w : World) (hz : Its w a xs) (hl : xs.length ≤ 1048576) :
    Calls Try.prog 61 #[.slice a xs.length cap, .int .i64 gap, .int .i64 inner] w (FlPost xs gap inner a cap w) := by
  have kg := irng gap 0 1048576
  have ki := irng inner 0 1048576
  have hv : fxV xs gap inner = if (itsOk xs && rnB gap 0 1048576 && rnB inner 0 1048576) = true then (fxOf xs gap inner).go xs.length (fxOf xs gap inner).h0 (fxOf xs gap inner).z0 0 else (hypL xs, 0) := rfl
  have hxx : (fxOf xs gap inner).xs = xs := rfl
  obtain ⟨f, ef⟩ : ∃ q, q = fxOf xs gap inner := ⟨_, rfl⟩
  have kn := inew a cap xs gap inner w hz hl
  rw [← ef] at kn hv hxx
  unfold FlPost
  rw [← ef]
  obtain ⟨R, eR⟩ : ∃ q, q = fxV xs gap inner := ⟨_, rfl⟩
  rw [← eR] at hv ⊢
  generalize rnB gap 0 1048576 = pg at *
  generalize rnB inner 0 1048576 = pi at *
  have KG := Lib.hid kg
  have KI := Lib.hid ki
  have HV := Lib.hid hv
  have HXX := Lib.hid hxx
  clear kg ki hv ef eR hxx
  go_enter Try.func61, Try.ntmps61
  go_wp2_with (fail)
  refine kn.mono ?_
  rintro e w1 ⟨fb, zb, wb, rfl, M⟩
  clear kn
  have HM := Lib.hid M
  have kk := iitsok a cap xs w1 (by have := M.itsN; rwa [HXX.out] at this) (by omega)
  obtain ⟨pk, epk⟩ : ∃ q, q = itsOk xs := ⟨_, rfl⟩
  rw [← epk] at kk
  have EPK := Lib.hid epk
  clear M epk
  go_wp2_with (fail)
  refine kk.mono ?_
  rintro e w2 ⟨rfl, b2⟩
  clear kk
  have HM2 := Lib.hid (HM.out.below b2)
  have HEND := Lib.hid (fun (h : (pk && pg && pi) = false) => (by have := HV.out; rw [← EPK.out, if_neg (by rw [h]; simp)] at this; exact this : R = (hypL xs, 0)))
  have hbad : ∀ W, FxM w f a cap fb zb wb (hypL xs) (List.replicate xs.length 0) 0 W → (pk && pg && pi) = false → ∃ fb' zb wb ws, (Ending.returned (.pointer (some ⟨fb, 0, none⟩)) : Ending) = .returned (.pointer (some ⟨fb', 0, none⟩)) ∧ FxM w f a cap fb' zb wb R.1 ws R.2 W := by
    intro W M h
    rw [HEND.out h]
    exact ⟨fb, zb, wb, _, rfl, M⟩
  have HBAD := Lib.hid hbad
  clear b2 hbad
  cases pk with
  | false =>
    dsimp only
    go_wp2
    go_ret
    exact HBAD.out _ HM2.out rfl
  | true =>
    dsimp only
    go_wp2_with (fail)
    refine (KG.out _).mono ?_
    rintro e w3 ⟨rfl, rfl⟩
    cases pg with
    | false =>
      dsimp only
      go_wp2
      go_ret
      exact HBAD.out _ HM2.out rfl
    | true =>
      dsimp only
      go_wp2_with (fail)
      refine (KI.out _).mono ?_
      rintro e w4 ⟨rfl, rfl⟩
      cases pi with
      | false =>
        dsimp only
        go_wp2
        go_ret
        exact HBAD.out _ HM2.out rfl
      | true =>
        have hR : R = f.go xs.length f.h0 f.z0 0 := by have := HV.out; rw [← EPK.out, if_pos (show (true && true && true) = true from rfl)] at this; exact this
        have hok : itsOk f.xs = true := by rw [HXX.out]; exact EPK.out.symm
        have kl := iloosen w f a cap fb zb wb w4 hok (by have := HM2.out; rw [HXX.out]; exact this)
        have ks := fun W M => isettle w f a cap fb zb wb f.h0 f.z0 W hok (Fx.st0 hok) M
        have HR := Lib.hid (show R = f.go f.xs.length f.h0 f.z0 0 by rw [HXX.out]; exact hR)
        clear hR
        dsimp only
        go_wp2_with (fail)
        refine kl.mono ?_
        rintro e w5 ⟨rfl, M5⟩
        clear kl
        dsimp only
        go_wp2_with (fail)
        refine (ks w5 M5).mono ?_
        rintro e w6 ⟨rfl, ws6, M6⟩
        have HM6 := Lib.hid M6
        clear ks M5 M6
        dsimp only
        go_wp2
        go_ret
        exact ⟨fb, zb, wb, ws6, rfl, by rw [HR.out]; exact HM6.out⟩
theorem iflexline (a : Option Addr) (cap : Nat) (xs : List It) (gap inner : Int) (w : World) (hz : Its w a xs) (hl : xs.length ≤ 1048576) :
    Calls Try.prog 17 #[.slice a xs.length cap, .int .i64 gap, .int .i64 inner] w (OutPost (fxV xs gap inner).1 w) := by
  have k := iflexed a cap xs gap inner w hz hl
  go_enter Try.func17, Try.ntmps17
  go_wp2_with (fail)
  refine k.mono ?_
  rintro e w1 ⟨fb, zb, wb, ws, rfl, M⟩
  have HM := Lib.hid M
  have c4 := M.cells.2.2.2.2.1
  clear k M
  go_wp2
  go_ret
  exact ⟨_, rfl, HM.out.rz, HM.out.hb⟩
end Go.Proofs.Ytopfiogmbnfjcaa
end

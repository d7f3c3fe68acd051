/-
  Whether a style is valid, as a Bool over its cells. Conditions: none.
-/
import Derived.Test.YtfnnfjpbplbjmaaStyW
import Derived.Test.YtfnnfjpbplbjmaaSidM
import Derived.Test.YtfnnfjpbplbjmaaEdgM
namespace Go.Proofs.Ytfnnfjpbplbjmaa
open Go.ChangeShapes Go.WideShapes Go.ChangeAt Go.RowKit
set_option linter.unusedSimpArgs false
set_option linter.unusedVariables false

def inB (x a b : Int) : Bool := decide (a ≤ x ∧ x ≤ b)
def sSzV (k n : Int) : Bool := okV k n && decide (0 ≤ n)
def sChV (f : Nat → Int) : Bool := inB (f 0) 1 4 && inB (f 1) 1 3 && inB (f 2) 1 6 && inB (f 3) 1 5 && inB (f 4) 0 5 && inB (f 5) 1 6
def sNmV (f : Nat → Int) : Bool := inB (f 8) (-1000) 1000 && inB (f 9) 0 1000 && inB (f 10) 0 1000 && inB (f 25) 0 6400
def sGpV (f : Nat → Int) : Bool := inB (f 58) 0 1048576 && inB (f 59) 0 1048576
def sSiV (f : Nat → Int) : Bool := sSzV (f 11) (f 12) && sSzV (f 13) (f 14) && sSzV (f 15) (f 16) && sSzV (f 17) (f 18) && sSzV (f 19) (f 20) && sSzV (f 21) (f 22) && sSzV (f 23) (f 24)
def sd1 (f : Nat → Int) : Bool := sdOk (f 26) (f 27) (f 28) (f 29) (f 30) (f 31) (f 32) (f 33) (f 34) (f 35) (f 36) (f 37)
def sd2 (f : Nat → Int) : Bool := sdOk (f 38) (f 39) (f 40) (f 41) (f 42) (f 43) (f 44) (f 45) (f 46) (f 47) (f 48) (f 49)
def ed1 (f : Nat → Int) : Bool := edOk (f 50) (f 51) (f 52) (f 53)
def ed2 (f : Nat → Int) : Bool := edOk (f 54) (f 55) (f 56) (f 57)
def sEdV (f : Nat → Int) : Bool := sd1 f && sd2 f && ed1 f && ed2 f
/-- Whether a style is valid. -/
def styOk (f : Nat → Int) : Bool := sChV f && sNmV f && sSiV f && sEdV f && sGpV f
end Go.Proofs.Ytfnnfjpbplbjmaa

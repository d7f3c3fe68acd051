/-
  No cell of these rows narrows 'for every input' (looked for: loops, veiled, ifaces, maps, wideKeys, modest, calm, conditions, laid).
  DERIVED. THE GIVEN ROWS OF THIS SEAT. 7 by the template 'for every input the law returns true; each argument reads behind the call as it read before'; 0 by the template 'total and deterministic' (their statements: YtjkdbaanknppbaaTotals.lean).
  GIVEN WITH THE SEED: the statements are not yours to turn. If you find one false, say at which input.
  Laid BY PROGRAM, IN A SANDBOX (cutbox-rows.mjs): the forced cells as the released guide's own fill.sh prints them over the translation 0b2fbd3a15d35514… (all of the seat's roots in one cut). By AI agents, Wed Nov 11 2026. No macro, syntax, notation, axiom, sorry.
-/
import Derived.Test.YtjkdbaanknppbaaChecked
import GoSem.Claim
import GoSem.ClaimJoined
import GoSem.ClaimMapViews
import Derived.JoinedTies
import Derived.KernelRfl
namespace Go.Proofs.Ytjkdbaanknppbaa
/- THE CELL 'sum', in the pinned program and in every row, IS THE sha256 OF THE DUMP (.gsa) THAT YtjkdbaanknppbaaProg.lean LOADS. Nothing in Lean hashes anything: it is a label: what it is worth is what the hold of that sum in a sandbox is worth. -/
noncomputable def Try.pinned : Pinned := { name := "ytjkdbaanknppbaa", sum := "0b2fbd3a15d355140b944dd39790777ad416e759c1d850ff3a86438cf4d09a64", checked := Try.checked }
namespace Rows
def none {H : Type} : Left H := { results := [], args := [] }

/-- 'laws.FnStyles': WHATEVER THE INPUT: true; the input reads as it did. -/
def fnStylesSpec : ChangeSpec := { name := "fnStyles", fn := fun _ => fun
  | [d] => { results := [.lit (.bool true)], args := [d] }
  | _ => none }
def fnStylesRow : OpenClaim := { program := "ytjkdbaanknppbaa", sum := "0b2fbd3a15d355140b944dd39790777ad416e759c1d850ff3a86438cf4d09a64", func := "loop.example/g00972/laws.FnStyles", spec := "fnStyles", apart := false }
def FnStylesSaid : Prop := fnStylesRow.holds Try.pinned (OpenSpec.ofChange fnStylesSpec)

/-- ITS FALSE NEIGHBOUR: 'it returns false'. Refute it at one input. -/
def fnStylesWrong : ChangeSpec := { name := "fnStyles", fn := fun _ => fun
  | [d] => { results := [.lit (.bool false)], args := [d] }
  | _ => none }
def FnStylesWrongFalsely : Prop := fnStylesRow.holds Try.pinned (OpenSpec.ofChange fnStylesWrong)

/-- 'laws.FnExactStyleNew': WHATEVER THE INPUT: true; the input reads as it did. -/
def fnExactStyleNewSpec : ChangeSpec := { name := "fnExactStyleNew", fn := fun _ => fun
  | [] => { results := [.lit (.bool true)], args := [] }
  | _ => none }
def fnExactStyleNewRow : OpenClaim := { program := "ytjkdbaanknppbaa", sum := "0b2fbd3a15d355140b944dd39790777ad416e759c1d850ff3a86438cf4d09a64", func := "loop.example/g00972/laws.FnExactStyleNew", spec := "fnExactStyleNew", apart := false }
def FnExactStyleNewSaid : Prop := fnExactStyleNewRow.holds Try.pinned (OpenSpec.ofChange fnExactStyleNewSpec)

/-- ITS FALSE NEIGHBOUR: 'it returns false'. Refute it at one input. -/
def fnExactStyleNewWrong : ChangeSpec := { name := "fnExactStyleNew", fn := fun _ => fun
  | [] => { results := [.lit (.bool false)], args := [] }
  | _ => none }
def FnExactStyleNewWrongFalsely : Prop := fnExactStyleNewRow.holds Try.pinned (OpenSpec.ofChange fnExactStyleNewWrong)

/-- 'laws.FnExactStyleOk': WHATEVER THE INPUT: true; the input reads as it did. -/
def fnExactStyleOkSpec : ChangeSpec := { name := "fnExactStyleOk", fn := fun _ => fun
  | [d] => { results := [.lit (.bool true)], args := [d] }
  | _ => none }
def fnExactStyleOkRow : OpenClaim := { program := "ytjkdbaanknppbaa", sum := "0b2fbd3a15d355140b944dd39790777ad416e759c1d850ff3a86438cf4d09a64", func := "loop.example/g00972/laws.FnExactStyleOk", spec := "fnExactStyleOk", apart := false }
def FnExactStyleOkSaid : Prop := fnExactStyleOkRow.holds Try.pinned (OpenSpec.ofChange fnExactStyleOkSpec)

/-- ITS FALSE NEIGHBOUR: 'it returns false'. Refute it at one input. -/
def fnExactStyleOkWrong : ChangeSpec := { name := "fnExactStyleOk", fn := fun _ => fun
  | [d] => { results := [.lit (.bool false)], args := [d] }
  | _ => none }
def FnExactStyleOkWrongFalsely : Prop := fnExactStyleOkRow.holds Try.pinned (OpenSpec.ofChange fnExactStyleOkWrong)

/-- 'laws.FnExactFrameOf': WHATEVER THE INPUT: true; the input reads as it did. -/
def fnExactFrameOfSpec : ChangeSpec := { name := "fnExactFrameOf", fn := fun _ => fun
  | [d] => { results := [.lit (.bool true)], args := [d] }
  | _ => none }
def fnExactFrameOfRow : OpenClaim := { program := "ytjkdbaanknppbaa", sum := "0b2fbd3a15d355140b944dd39790777ad416e759c1d850ff3a86438cf4d09a64", func := "loop.example/g00972/laws.FnExactFrameOf", spec := "fnExactFrameOf", apart := false }
def FnExactFrameOfSaid : Prop := fnExactFrameOfRow.holds Try.pinned (OpenSpec.ofChange fnExactFrameOfSpec)

/-- ITS FALSE NEIGHBOUR: 'it returns false'. Refute it at one input. -/
def fnExactFrameOfWrong : ChangeSpec := { name := "fnExactFrameOf", fn := fun _ => fun
  | [d] => { results := [.lit (.bool false)], args := [d] }
  | _ => none }
def FnExactFrameOfWrongFalsely : Prop := fnExactFrameOfRow.holds Try.pinned (OpenSpec.ofChange fnExactFrameOfWrong)

/-- 'laws.FnExactGapOf': WHATEVER THE INPUT: true; the input reads as it did. -/
def fnExactGapOfSpec : ChangeSpec := { name := "fnExactGapOf", fn := fun _ => fun
  | [d1, d2] => { results := [.lit (.bool true)], args := [d1, d2] }
  | _ => none }
def fnExactGapOfRow : OpenClaim := { program := "ytjkdbaanknppbaa", sum := "0b2fbd3a15d355140b944dd39790777ad416e759c1d850ff3a86438cf4d09a64", func := "loop.example/g00972/laws.FnExactGapOf", spec := "fnExactGapOf", apart := false }
def FnExactGapOfSaid : Prop := fnExactGapOfRow.holds Try.pinned (OpenSpec.ofChange fnExactGapOfSpec)

/-- ITS FALSE NEIGHBOUR: 'it returns false'. Refute it at one input. -/
def fnExactGapOfWrong : ChangeSpec := { name := "fnExactGapOf", fn := fun _ => fun
  | [d1, d2] => { results := [.lit (.bool false)], args := [d1, d2] }
  | _ => none }
def FnExactGapOfWrongFalsely : Prop := fnExactGapOfRow.holds Try.pinned (OpenSpec.ofChange fnExactGapOfWrong)

/-- 'laws.FnExactSameStyle': WHATEVER THE INPUT: true; the input reads as it did. -/
def fnExactSameStyleSpec : ChangeSpec := { name := "fnExactSameStyle", fn := fun _ => fun
  | [d1, d2] => { results := [.lit (.bool true)], args := [d1, d2] }
  | _ => none }
def fnExactSameStyleRow : OpenClaim := { program := "ytjkdbaanknppbaa", sum := "0b2fbd3a15d355140b944dd39790777ad416e759c1d850ff3a86438cf4d09a64", func := "loop.example/g00972/laws.FnExactSameStyle", spec := "fnExactSameStyle", apart := false }
def FnExactSameStyleSaid : Prop := fnExactSameStyleRow.holds Try.pinned (OpenSpec.ofChange fnExactSameStyleSpec)

/-- ITS FALSE NEIGHBOUR: 'it returns false'. Refute it at one input. -/
def fnExactSameStyleWrong : ChangeSpec := { name := "fnExactSameStyle", fn := fun _ => fun
  | [d1, d2] => { results := [.lit (.bool false)], args := [d1, d2] }
  | _ => none }
def FnExactSameStyleWrongFalsely : Prop := fnExactSameStyleRow.holds Try.pinned (OpenSpec.ofChange fnExactSameStyleWrong)

/-- 'laws.FnExactStyleLess': WHATEVER THE INPUT: true; the input reads as it did. -/
def fnExactStyleLessSpec : ChangeSpec := { name := "fnExactStyleLess", fn := fun _ => fun
  | [d] => { results := [.lit (.bool true)], args := [d] }
  | _ => none }
def fnExactStyleLessRow : OpenClaim := { program := "ytjkdbaanknppbaa", sum := "0b2fbd3a15d355140b944dd39790777ad416e759c1d850ff3a86438cf4d09a64", func := "loop.example/g00972/laws.FnExactStyleLess", spec := "fnExactStyleLess", apart := false }
def FnExactStyleLessSaid : Prop := fnExactStyleLessRow.holds Try.pinned (OpenSpec.ofChange fnExactStyleLessSpec)

/-- ITS FALSE NEIGHBOUR: 'it returns false'. Refute it at one input. -/
def fnExactStyleLessWrong : ChangeSpec := { name := "fnExactStyleLess", fn := fun _ => fun
  | [d] => { results := [.lit (.bool false)], args := [d] }
  | _ => none }
def FnExactStyleLessWrongFalsely : Prop := fnExactStyleLessRow.holds Try.pinned (OpenSpec.ofChange fnExactStyleLessWrong)

/- THE SECOND FORM. 'bulk': how many values and letters a reading holds, each counted each time it is reached (what is shared counts as often as it is met; a slice's spare places count too). A statement '..UptoSaid' is the law's where the arguments, and the package variables that the reading takes, are together of bulk at most 1048576: NARROWER than '..Said'. Prove '..Said' where nothing that the law and all that it calls make is longer than what came in: it says more and counts as full. Else prove '..UptoSaid'. A law counts once. -/
mutual
def uptoBulk {H : Type} : DataW H → Nat
  | .lit (.string bytes) => bytes.length + 1
  | .lit _ => 1
  | .nil => 1
  | .ptr d => uptoBulk d + 1
  | .slice elems spare => uptoBulkAll elems + uptoBulkAll spare + 1
  | .agg parts => uptoBulkAll parts + 1
  | .iface _ d => uptoBulk d + 1
  | .map entries => uptoBulkEntries entries + 1
  | .held _ => 1
def uptoBulkAll {H : Type} : List (DataW H) → Nat
  | [] => 0
  | d :: r => uptoBulk d + uptoBulkAll r
def uptoBulkEntries {H : Type} : List (Lit × DataW H) → Nat
  | [] => 0
  | x :: r => uptoBulkEntry x + uptoBulkEntries r
def uptoBulkEntry {H : Type} : Lit × DataW H → Nat
  | (.string bytes, d) => bytes.length + uptoBulk d + 1
  | (_, d) => uptoBulk d + 1
 end
def uptoSmall : (H : Type) → List (DataW H) → Bool := fun _ ds => decide (uptoBulkAll ds ≤ 1048576)
def OpenSpec.upto (s : _root_.Go.ChangeSpec) : _root_.Go.OpenSpec := { _root_.Go.OpenSpec.ofChange s with cond := some uptoSmall }

/-- 'laws.FnStyles', WHERE WHAT IT READS IS OF BULK AT MOST 1048576: true; the input reads as it did. -/
def fnStylesUptoRow : OpenClaim := { program := "ytjkdbaanknppbaa", sum := "0b2fbd3a15d355140b944dd39790777ad416e759c1d850ff3a86438cf4d09a64", func := "loop.example/g00972/laws.FnStyles", spec := "fnStyles", apart := false, narrowed := true }
def FnStylesUptoSaid : Prop := fnStylesUptoRow.holds Try.pinned (OpenSpec.upto fnStylesSpec)

/-- 'laws.FnExactStyleNew', WHERE WHAT IT READS IS OF BULK AT MOST 1048576: true; the input reads as it did. -/
def fnExactStyleNewUptoRow : OpenClaim := { program := "ytjkdbaanknppbaa", sum := "0b2fbd3a15d355140b944dd39790777ad416e759c1d850ff3a86438cf4d09a64", func := "loop.example/g00972/laws.FnExactStyleNew", spec := "fnExactStyleNew", apart := false, narrowed := true }
def FnExactStyleNewUptoSaid : Prop := fnExactStyleNewUptoRow.holds Try.pinned (OpenSpec.upto fnExactStyleNewSpec)

/-- 'laws.FnExactStyleOk', WHERE WHAT IT READS IS OF BULK AT MOST 1048576: true; the input reads as it did. -/
def fnExactStyleOkUptoRow : OpenClaim := { program := "ytjkdbaanknppbaa", sum := "0b2fbd3a15d355140b944dd39790777ad416e759c1d850ff3a86438cf4d09a64", func := "loop.example/g00972/laws.FnExactStyleOk", spec := "fnExactStyleOk", apart := false, narrowed := true }
def FnExactStyleOkUptoSaid : Prop := fnExactStyleOkUptoRow.holds Try.pinned (OpenSpec.upto fnExactStyleOkSpec)

/-- 'laws.FnExactFrameOf', WHERE WHAT IT READS IS OF BULK AT MOST 1048576: true; the input reads as it did. -/
def fnExactFrameOfUptoRow : OpenClaim := { program := "ytjkdbaanknppbaa", sum := "0b2fbd3a15d355140b944dd39790777ad416e759c1d850ff3a86438cf4d09a64", func := "loop.example/g00972/laws.FnExactFrameOf", spec := "fnExactFrameOf", apart := false, narrowed := true }
def FnExactFrameOfUptoSaid : Prop := fnExactFrameOfUptoRow.holds Try.pinned (OpenSpec.upto fnExactFrameOfSpec)

/-- 'laws.FnExactGapOf', WHERE WHAT IT READS IS OF BULK AT MOST 1048576: true; the input reads as it did. -/
def fnExactGapOfUptoRow : OpenClaim := { program := "ytjkdbaanknppbaa", sum := "0b2fbd3a15d355140b944dd39790777ad416e759c1d850ff3a86438cf4d09a64", func := "loop.example/g00972/laws.FnExactGapOf", spec := "fnExactGapOf", apart := false, narrowed := true }
def FnExactGapOfUptoSaid : Prop := fnExactGapOfUptoRow.holds Try.pinned (OpenSpec.upto fnExactGapOfSpec)

/-- 'laws.FnExactSameStyle', WHERE WHAT IT READS IS OF BULK AT MOST 1048576: true; the input reads as it did. -/
def fnExactSameStyleUptoRow : OpenClaim := { program := "ytjkdbaanknppbaa", sum := "0b2fbd3a15d355140b944dd39790777ad416e759c1d850ff3a86438cf4d09a64", func := "loop.example/g00972/laws.FnExactSameStyle", spec := "fnExactSameStyle", apart := false, narrowed := true }
def FnExactSameStyleUptoSaid : Prop := fnExactSameStyleUptoRow.holds Try.pinned (OpenSpec.upto fnExactSameStyleSpec)

/-- 'laws.FnExactStyleLess', WHERE WHAT IT READS IS OF BULK AT MOST 1048576: true; the input reads as it did. -/
def fnExactStyleLessUptoRow : OpenClaim := { program := "ytjkdbaanknppbaa", sum := "0b2fbd3a15d355140b944dd39790777ad416e759c1d850ff3a86438cf4d09a64", func := "loop.example/g00972/laws.FnExactStyleLess", spec := "fnExactStyleLess", apart := false, narrowed := true }
def FnExactStyleLessUptoSaid : Prop := fnExactStyleLessUptoRow.holds Try.pinned (OpenSpec.upto fnExactStyleLessSpec)

end Rows
end Go.Proofs.Ytjkdbaanknppbaa

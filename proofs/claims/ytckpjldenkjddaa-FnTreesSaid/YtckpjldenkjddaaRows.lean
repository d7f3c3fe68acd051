/-
  No cell of these rows narrows 'for every input' (looked for: loops, veiled, ifaces, maps, wideKeys, modest, calm, conditions, laid).
  DERIVED. THE GIVEN ROWS OF THIS SEAT. 9 by the template 'for every input the law returns true; each argument reads behind the call as it read before'; 0 by the template 'total and deterministic' (their statements: YtckpjldenkjddaaTotals.lean).
  GIVEN WITH THE SEED: the statements are not yours to turn. If you find one false, say at which input.
  Laid BY PROGRAM, IN A SANDBOX (cutbox-rows.mjs): the forced cells as the released guide's own fill.sh prints them over the translation 3d768cfbf9f7949c… (all of the seat's roots in one cut). By AI agents, Wed Nov 11 2026. No macro, syntax, notation, axiom, sorry.
-/
import Derived.Test.YtckpjldenkjddaaChecked
import GoSem.Claim
import GoSem.ClaimJoined
import GoSem.ClaimMapViews
import Derived.JoinedTies
import Derived.KernelRfl
namespace Go.Proofs.Ytckpjldenkjddaa
/- THE CELL 'sum', in the pinned program and in every row, IS THE sha256 OF THE DUMP (.gsa) THAT YtckpjldenkjddaaProg.lean LOADS. Nothing in Lean hashes anything: it is a label: what it is worth is what the hold of that sum in a sandbox is worth. -/
noncomputable def Try.pinned : Pinned := { name := "ytckpjldenkjddaa", sum := "3d768cfbf9f7949cfbf698553d8e0eeaed84f580bd8e2101cf1dbf72c10788ee", checked := Try.checked }
namespace Rows
def none {H : Type} : Left H := { results := [], args := [] }

/-- 'laws.FnTrees': WHATEVER THE INPUT: true; the input reads as it did. -/
def fnTreesSpec : ChangeSpec := { name := "fnTrees", fn := fun _ => fun
  | [d] => { results := [.lit (.bool true)], args := [d] }
  | _ => none }
def fnTreesRow : OpenClaim := { program := "ytckpjldenkjddaa", sum := "3d768cfbf9f7949cfbf698553d8e0eeaed84f580bd8e2101cf1dbf72c10788ee", func := "loop.example/g00972/laws.FnTrees", spec := "fnTrees", inPlace := ["slices.overlaps[*loop.example/g00972/impl.linkedNode]"], recurses := true, apart := false }
def FnTreesSaid : Prop := fnTreesRow.holds Try.pinned (OpenSpec.ofChange fnTreesSpec)

/-- ITS FALSE NEIGHBOUR: 'it returns false'. Refute it at one input. -/
def fnTreesWrong : ChangeSpec := { name := "fnTrees", fn := fun _ => fun
  | [d] => { results := [.lit (.bool false)], args := [d] }
  | _ => none }
def FnTreesWrongFalsely : Prop := fnTreesRow.holds Try.pinned (OpenSpec.ofChange fnTreesWrong)

/-- 'laws.FnChanged': WHATEVER THE INPUT: true; the input reads as it did. -/
def fnChangedSpec : ChangeSpec := { name := "fnChanged", fn := fun _ => fun
  | [d] => { results := [.lit (.bool true)], args := [d] }
  | _ => none }
def fnChangedRow : OpenClaim := { program := "ytckpjldenkjddaa", sum := "3d768cfbf9f7949cfbf698553d8e0eeaed84f580bd8e2101cf1dbf72c10788ee", func := "loop.example/g00972/laws.FnChanged", spec := "fnChanged", apart := false }
def FnChangedSaid : Prop := fnChangedRow.holds Try.pinned (OpenSpec.ofChange fnChangedSpec)

/-- ITS FALSE NEIGHBOUR: 'it returns false'. Refute it at one input. -/
def fnChangedWrong : ChangeSpec := { name := "fnChanged", fn := fun _ => fun
  | [d] => { results := [.lit (.bool false)], args := [d] }
  | _ => none }
def FnChangedWrongFalsely : Prop := fnChangedRow.holds Try.pinned (OpenSpec.ofChange fnChangedWrong)

/-- 'laws.FnFlow': WHATEVER THE INPUT: true; the input reads as it did. -/
def fnFlowSpec : ChangeSpec := { name := "fnFlow", fn := fun _ => fun
  | [d] => { results := [.lit (.bool true)], args := [d] }
  | _ => none }
def fnFlowRow : OpenClaim := { program := "ytckpjldenkjddaa", sum := "3d768cfbf9f7949cfbf698553d8e0eeaed84f580bd8e2101cf1dbf72c10788ee", func := "loop.example/g00972/laws.FnFlow", spec := "fnFlow", unfollowed := true, recurses := true, apart := false }
def FnFlowSaid : Prop := fnFlowRow.holds Try.pinned (OpenSpec.ofChange fnFlowSpec)

/-- ITS FALSE NEIGHBOUR: 'it returns false'. Refute it at one input. -/
def fnFlowWrong : ChangeSpec := { name := "fnFlow", fn := fun _ => fun
  | [d] => { results := [.lit (.bool false)], args := [d] }
  | _ => none }
def FnFlowWrongFalsely : Prop := fnFlowRow.holds Try.pinned (OpenSpec.ofChange fnFlowWrong)

/-- 'laws.FnCounted': WHATEVER THE INPUT: true; the input reads as it did. -/
def fnCountedSpec : ChangeSpec := { name := "fnCounted", fn := fun _ => fun
  | [d] => { results := [.lit (.bool true)], args := [d] }
  | _ => none }
def fnCountedRow : OpenClaim := { program := "ytckpjldenkjddaa", sum := "3d768cfbf9f7949cfbf698553d8e0eeaed84f580bd8e2101cf1dbf72c10788ee", func := "loop.example/g00972/laws.FnCounted", spec := "fnCounted", unfollowed := true, recurses := true, apart := false }
def FnCountedSaid : Prop := fnCountedRow.holds Try.pinned (OpenSpec.ofChange fnCountedSpec)

/-- ITS FALSE NEIGHBOUR: 'it returns false'. Refute it at one input. -/
def fnCountedWrong : ChangeSpec := { name := "fnCounted", fn := fun _ => fun
  | [d] => { results := [.lit (.bool false)], args := [d] }
  | _ => none }
def FnCountedWrongFalsely : Prop := fnCountedRow.holds Try.pinned (OpenSpec.ofChange fnCountedWrong)

/-- 'laws.FnExactFlowKids': WHATEVER THE INPUT: true; the input reads as it did. -/
def fnExactFlowKidsSpec : ChangeSpec := { name := "fnExactFlowKids", fn := fun _ => fun
  | [d1, d2] => { results := [.lit (.bool true)], args := [d1, d2] }
  | _ => none }
def fnExactFlowKidsRow : OpenClaim := { program := "ytckpjldenkjddaa", sum := "3d768cfbf9f7949cfbf698553d8e0eeaed84f580bd8e2101cf1dbf72c10788ee", func := "loop.example/g00972/laws.FnExactFlowKids", spec := "fnExactFlowKids", unfollowed := true, recurses := true, apart := false }
def FnExactFlowKidsSaid : Prop := fnExactFlowKidsRow.holds Try.pinned (OpenSpec.ofChange fnExactFlowKidsSpec)

/-- ITS FALSE NEIGHBOUR: 'it returns false'. Refute it at one input. -/
def fnExactFlowKidsWrong : ChangeSpec := { name := "fnExactFlowKids", fn := fun _ => fun
  | [d1, d2] => { results := [.lit (.bool false)], args := [d1, d2] }
  | _ => none }
def FnExactFlowKidsWrongFalsely : Prop := fnExactFlowKidsRow.holds Try.pinned (OpenSpec.ofChange fnExactFlowKidsWrong)

/-- 'laws.FnExactApartKids': WHATEVER THE INPUT: true; the input reads as it did. -/
def fnExactApartKidsSpec : ChangeSpec := { name := "fnExactApartKids", fn := fun _ => fun
  | [d1, d2] => { results := [.lit (.bool true)], args := [d1, d2] }
  | _ => none }
def fnExactApartKidsRow : OpenClaim := { program := "ytckpjldenkjddaa", sum := "3d768cfbf9f7949cfbf698553d8e0eeaed84f580bd8e2101cf1dbf72c10788ee", func := "loop.example/g00972/laws.FnExactApartKids", spec := "fnExactApartKids", unfollowed := true, recurses := true, apart := false }
def FnExactApartKidsSaid : Prop := fnExactApartKidsRow.holds Try.pinned (OpenSpec.ofChange fnExactApartKidsSpec)

/-- ITS FALSE NEIGHBOUR: 'it returns false'. Refute it at one input. -/
def fnExactApartKidsWrong : ChangeSpec := { name := "fnExactApartKids", fn := fun _ => fun
  | [d1, d2] => { results := [.lit (.bool false)], args := [d1, d2] }
  | _ => none }
def FnExactApartKidsWrongFalsely : Prop := fnExactApartKidsRow.holds Try.pinned (OpenSpec.ofChange fnExactApartKidsWrong)

/-- 'laws.FnExactIsGone': WHATEVER THE INPUT: true; the input reads as it did. -/
def fnExactIsGoneSpec : ChangeSpec := { name := "fnExactIsGone", fn := fun _ => fun
  | [d1, d2] => { results := [.lit (.bool true)], args := [d1, d2] }
  | _ => none }
def fnExactIsGoneRow : OpenClaim := { program := "ytckpjldenkjddaa", sum := "3d768cfbf9f7949cfbf698553d8e0eeaed84f580bd8e2101cf1dbf72c10788ee", func := "loop.example/g00972/laws.FnExactIsGone", spec := "fnExactIsGone", apart := false }
def FnExactIsGoneSaid : Prop := fnExactIsGoneRow.holds Try.pinned (OpenSpec.ofChange fnExactIsGoneSpec)

/-- ITS FALSE NEIGHBOUR: 'it returns false'. Refute it at one input. -/
def fnExactIsGoneWrong : ChangeSpec := { name := "fnExactIsGone", fn := fun _ => fun
  | [d1, d2] => { results := [.lit (.bool false)], args := [d1, d2] }
  | _ => none }
def FnExactIsGoneWrongFalsely : Prop := fnExactIsGoneRow.holds Try.pinned (OpenSpec.ofChange fnExactIsGoneWrong)

/-- 'laws.FnExactRootOf': WHATEVER THE INPUT: true; the input reads as it did. -/
def fnExactRootOfSpec : ChangeSpec := { name := "fnExactRootOf", fn := fun _ => fun
  | [d1, d2] => { results := [.lit (.bool true)], args := [d1, d2] }
  | _ => none }
def fnExactRootOfRow : OpenClaim := { program := "ytckpjldenkjddaa", sum := "3d768cfbf9f7949cfbf698553d8e0eeaed84f580bd8e2101cf1dbf72c10788ee", func := "loop.example/g00972/laws.FnExactRootOf", spec := "fnExactRootOf", apart := false }
def FnExactRootOfSaid : Prop := fnExactRootOfRow.holds Try.pinned (OpenSpec.ofChange fnExactRootOfSpec)

/-- ITS FALSE NEIGHBOUR: 'it returns false'. Refute it at one input. -/
def fnExactRootOfWrong : ChangeSpec := { name := "fnExactRootOf", fn := fun _ => fun
  | [d1, d2] => { results := [.lit (.bool false)], args := [d1, d2] }
  | _ => none }
def FnExactRootOfWrongFalsely : Prop := fnExactRootOfRow.holds Try.pinned (OpenSpec.ofChange fnExactRootOfWrong)

/-- 'laws.FnExactAllUnder': WHATEVER THE INPUT: true; the input reads as it did. -/
def fnExactAllUnderSpec : ChangeSpec := { name := "fnExactAllUnder", fn := fun _ => fun
  | [d1, d2] => { results := [.lit (.bool true)], args := [d1, d2] }
  | _ => none }
def fnExactAllUnderRow : OpenClaim := { program := "ytckpjldenkjddaa", sum := "3d768cfbf9f7949cfbf698553d8e0eeaed84f580bd8e2101cf1dbf72c10788ee", func := "loop.example/g00972/laws.FnExactAllUnder", spec := "fnExactAllUnder", unfollowed := true, recurses := true, apart := false }
def FnExactAllUnderSaid : Prop := fnExactAllUnderRow.holds Try.pinned (OpenSpec.ofChange fnExactAllUnderSpec)

/-- ITS FALSE NEIGHBOUR: 'it returns false'. Refute it at one input. -/
def fnExactAllUnderWrong : ChangeSpec := { name := "fnExactAllUnder", fn := fun _ => fun
  | [d1, d2] => { results := [.lit (.bool false)], args := [d1, d2] }
  | _ => none }
def FnExactAllUnderWrongFalsely : Prop := fnExactAllUnderRow.holds Try.pinned (OpenSpec.ofChange fnExactAllUnderWrong)

/- THE SECOND FORM. 'bulk': how many values and letters a reading holds, each counted each time it is reached (what is shared counts as often as it is met; a slice's spare places count too). A statement '..UptoSaid' is the law's where the arguments, and the package variables that the reading takes, are together of bulk at most 1048576: NARROWER than '..Said'. Prove '..Said' where nothing that the law and all that it calls make is longer than what came in: it says more and counts as full. Else prove '..UptoSaid'. A law counts once. -/
mutual
def uptoBulk {H : Type} : DataW H → Nat
  | .lit (.string bytes) => bytes.length + 1
  | .lit _ => 1
  | .nil => 1
  | .ptr d => uptoBulk d + 1
  | .slice elems spare => uptoBulkAll elems + uptoBulkAll spare + 1
  | .agg parts => uptoBulkAll parts + 1
  | .iface _ d => uptoBulk d + 1
  | .map entries => uptoBulkEntries entries + 1
  | .held _ => 1
def uptoBulkAll {H : Type} : List (DataW H) → Nat
  | [] => 0
  | d :: r => uptoBulk d + uptoBulkAll r
def uptoBulkEntries {H : Type} : List (Lit × DataW H) → Nat
  | [] => 0
  | x :: r => uptoBulkEntry x + uptoBulkEntries r
def uptoBulkEntry {H : Type} : Lit × DataW H → Nat
  | (.string bytes, d) => bytes.length + uptoBulk d + 1
  | (_, d) => uptoBulk d + 1
 end
def uptoSmall : (H : Type) → List (DataW H) → Bool := fun _ ds => decide (uptoBulkAll ds ≤ 1048576)
def OpenSpec.upto (s : _root_.Go.ChangeSpec) : _root_.Go.OpenSpec := { _root_.Go.OpenSpec.ofChange s with cond := some uptoSmall }

/-- 'laws.FnTrees', WHERE WHAT IT READS IS OF BULK AT MOST 1048576: true; the input reads as it did. -/
def fnTreesUptoRow : OpenClaim := { program := "ytckpjldenkjddaa", sum := "3d768cfbf9f7949cfbf698553d8e0eeaed84f580bd8e2101cf1dbf72c10788ee", func := "loop.example/g00972/laws.FnTrees", spec := "fnTrees", inPlace := ["slices.overlaps[*loop.example/g00972/impl.linkedNode]"], recurses := true, apart := false, narrowed := true }
def FnTreesUptoSaid : Prop := fnTreesUptoRow.holds Try.pinned (OpenSpec.upto fnTreesSpec)

/-- 'laws.FnChanged', WHERE WHAT IT READS IS OF BULK AT MOST 1048576: true; the input reads as it did. -/
def fnChangedUptoRow : OpenClaim := { program := "ytckpjldenkjddaa", sum := "3d768cfbf9f7949cfbf698553d8e0eeaed84f580bd8e2101cf1dbf72c10788ee", func := "loop.example/g00972/laws.FnChanged", spec := "fnChanged", apart := false, narrowed := true }
def FnChangedUptoSaid : Prop := fnChangedUptoRow.holds Try.pinned (OpenSpec.upto fnChangedSpec)

/-- 'laws.FnFlow', WHERE WHAT IT READS IS OF BULK AT MOST 1048576: true; the input reads as it did. -/
def fnFlowUptoRow : OpenClaim := { program := "ytckpjldenkjddaa", sum := "3d768cfbf9f7949cfbf698553d8e0eeaed84f580bd8e2101cf1dbf72c10788ee", func := "loop.example/g00972/laws.FnFlow", spec := "fnFlow", unfollowed := true, recurses := true, apart := false, narrowed := true }
def FnFlowUptoSaid : Prop := fnFlowUptoRow.holds Try.pinned (OpenSpec.upto fnFlowSpec)

/-- 'laws.FnCounted', WHERE WHAT IT READS IS OF BULK AT MOST 1048576: true; the input reads as it did. -/
def fnCountedUptoRow : OpenClaim := { program := "ytckpjldenkjddaa", sum := "3d768cfbf9f7949cfbf698553d8e0eeaed84f580bd8e2101cf1dbf72c10788ee", func := "loop.example/g00972/laws.FnCounted", spec := "fnCounted", unfollowed := true, recurses := true, apart := false, narrowed := true }
def FnCountedUptoSaid : Prop := fnCountedUptoRow.holds Try.pinned (OpenSpec.upto fnCountedSpec)

/-- 'laws.FnExactFlowKids', WHERE WHAT IT READS IS OF BULK AT MOST 1048576: true; the input reads as it did. -/
def fnExactFlowKidsUptoRow : OpenClaim := { program := "ytckpjldenkjddaa", sum := "3d768cfbf9f7949cfbf698553d8e0eeaed84f580bd8e2101cf1dbf72c10788ee", func := "loop.example/g00972/laws.FnExactFlowKids", spec := "fnExactFlowKids", unfollowed := true, recurses := true, apart := false, narrowed := true }
def FnExactFlowKidsUptoSaid : Prop := fnExactFlowKidsUptoRow.holds Try.pinned (OpenSpec.upto fnExactFlowKidsSpec)

/-- 'laws.FnExactApartKids', WHERE WHAT IT READS IS OF BULK AT MOST 1048576: true; the input reads as it did. -/
def fnExactApartKidsUptoRow : OpenClaim := { program := "ytckpjldenkjddaa", sum := "3d768cfbf9f7949cfbf698553d8e0eeaed84f580bd8e2101cf1dbf72c10788ee", func := "loop.example/g00972/laws.FnExactApartKids", spec := "fnExactApartKids", unfollowed := true, recurses := true, apart := false, narrowed := true }
def FnExactApartKidsUptoSaid : Prop := fnExactApartKidsUptoRow.holds Try.pinned (OpenSpec.upto fnExactApartKidsSpec)

/-- 'laws.FnExactIsGone', WHERE WHAT IT READS IS OF BULK AT MOST 1048576: true; the input reads as it did. -/
def fnExactIsGoneUptoRow : OpenClaim := { program := "ytckpjldenkjddaa", sum := "3d768cfbf9f7949cfbf698553d8e0eeaed84f580bd8e2101cf1dbf72c10788ee", func := "loop.example/g00972/laws.FnExactIsGone", spec := "fnExactIsGone", apart := false, narrowed := true }
def FnExactIsGoneUptoSaid : Prop := fnExactIsGoneUptoRow.holds Try.pinned (OpenSpec.upto fnExactIsGoneSpec)

/-- 'laws.FnExactRootOf', WHERE WHAT IT READS IS OF BULK AT MOST 1048576: true; the input reads as it did. -/
def fnExactRootOfUptoRow : OpenClaim := { program := "ytckpjldenkjddaa", sum := "3d768cfbf9f7949cfbf698553d8e0eeaed84f580bd8e2101cf1dbf72c10788ee", func := "loop.example/g00972/laws.FnExactRootOf", spec := "fnExactRootOf", apart := false, narrowed := true }
def FnExactRootOfUptoSaid : Prop := fnExactRootOfUptoRow.holds Try.pinned (OpenSpec.upto fnExactRootOfSpec)

/-- 'laws.FnExactAllUnder', WHERE WHAT IT READS IS OF BULK AT MOST 1048576: true; the input reads as it did. -/
def fnExactAllUnderUptoRow : OpenClaim := { program := "ytckpjldenkjddaa", sum := "3d768cfbf9f7949cfbf698553d8e0eeaed84f580bd8e2101cf1dbf72c10788ee", func := "loop.example/g00972/laws.FnExactAllUnder", spec := "fnExactAllUnder", unfollowed := true, recurses := true, apart := false, narrowed := true }
def FnExactAllUnderUptoSaid : Prop := fnExactAllUnderUptoRow.holds Try.pinned (OpenSpec.upto fnExactAllUnderSpec)

end Rows
end Go.Proofs.Ytckpjldenkjddaa

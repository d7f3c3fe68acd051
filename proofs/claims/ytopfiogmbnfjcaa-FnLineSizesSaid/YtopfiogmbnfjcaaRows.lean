/-
  No cell of these rows narrows 'for every input' (looked for: loops, veiled, ifaces, maps, wideKeys, modest, calm, conditions, laid).
  DERIVED. THE GIVEN ROWS OF THIS SEAT. 12 by the template 'for every input the law returns true; each argument reads behind the call as it read before'; 0 by the template 'total and deterministic' (their statements: YtopfiogmbnfjcaaTotals.lean).
  GIVEN WITH THE SEED: the statements are not yours to turn. If you find one false, say at which input.
  Laid BY PROGRAM, IN A SANDBOX (cutbox-rows.mjs): the forced cells as the released guide's own fill.sh prints them over the translation 206b7c866b32a76c… (all of the seat's roots in one cut). By AI agents, Wed Nov 11 2026. No macro, syntax, notation, axiom, sorry.
-/
import Derived.Test.YtopfiogmbnfjcaaChecked
import GoSem.Claim
import GoSem.ClaimJoined
import GoSem.ClaimMapViews
import Derived.JoinedTies
import Derived.KernelRfl
namespace Go.Proofs.Ytopfiogmbnfjcaa
/- THE CELL 'sum', in the pinned program and in every row, IS THE sha256 OF THE DUMP (.gsa) THAT YtopfiogmbnfjcaaProg.lean LOADS. Nothing in Lean hashes anything: it is a label: what it is worth is what the hold of that sum in a sandbox is worth. -/
noncomputable def Try.pinned : Pinned := { name := "ytopfiogmbnfjcaa", sum := "206b7c866b32a76ca0e00f57843b70ca6259740dc36889b88d848a4850aae68c", checked := Try.checked }
namespace Rows
def none {H : Type} : Left H := { results := [], args := [] }

/-- 'laws.FnFlexed': WHATEVER THE INPUT: true; the input reads as it did. -/
def fnFlexedSpec : ChangeSpec := { name := "fnFlexed", fn := fun _ => fun
  | [d] => { results := [.lit (.bool true)], args := [d] }
  | _ => none }
def fnFlexedRow : OpenClaim := { program := "ytopfiogmbnfjcaa", sum := "206b7c866b32a76ca0e00f57843b70ca6259740dc36889b88d848a4850aae68c", func := "loop.example/g00972/laws.FnFlexed", spec := "fnFlexed", apart := false }
def FnFlexedSaid : Prop := fnFlexedRow.holds Try.pinned (OpenSpec.ofChange fnFlexedSpec)

/-- ITS FALSE NEIGHBOUR: 'it returns false'. Refute it at one input. -/
def fnFlexedWrong : ChangeSpec := { name := "fnFlexed", fn := fun _ => fun
  | [d] => { results := [.lit (.bool false)], args := [d] }
  | _ => none }
def FnFlexedWrongFalsely : Prop := fnFlexedRow.holds Try.pinned (OpenSpec.ofChange fnFlexedWrong)

/-- 'laws.FnFair': WHATEVER THE INPUT: true; the input reads as it did. -/
def fnFairSpec : ChangeSpec := { name := "fnFair", fn := fun _ => fun
  | [d] => { results := [.lit (.bool true)], args := [d] }
  | _ => none }
def fnFairRow : OpenClaim := { program := "ytopfiogmbnfjcaa", sum := "206b7c866b32a76ca0e00f57843b70ca6259740dc36889b88d848a4850aae68c", func := "loop.example/g00972/laws.FnFair", spec := "fnFair", apart := false }
def FnFairSaid : Prop := fnFairRow.holds Try.pinned (OpenSpec.ofChange fnFairSpec)

/-- ITS FALSE NEIGHBOUR: 'it returns false'. Refute it at one input. -/
def fnFairWrong : ChangeSpec := { name := "fnFair", fn := fun _ => fun
  | [d] => { results := [.lit (.bool false)], args := [d] }
  | _ => none }
def FnFairWrongFalsely : Prop := fnFairRow.holds Try.pinned (OpenSpec.ofChange fnFairWrong)

/-- 'laws.FnLines': WHATEVER THE INPUT: true; the input reads as it did. -/
def fnLinesSpec : ChangeSpec := { name := "fnLines", fn := fun _ => fun
  | [d] => { results := [.lit (.bool true)], args := [d] }
  | _ => none }
def fnLinesRow : OpenClaim := { program := "ytopfiogmbnfjcaa", sum := "206b7c866b32a76ca0e00f57843b70ca6259740dc36889b88d848a4850aae68c", func := "loop.example/g00972/laws.FnLines", spec := "fnLines", unfollowed := true, recurses := true, apart := false }
def FnLinesSaid : Prop := fnLinesRow.holds Try.pinned (OpenSpec.ofChange fnLinesSpec)

/-- ITS FALSE NEIGHBOUR: 'it returns false'. Refute it at one input. -/
def fnLinesWrong : ChangeSpec := { name := "fnLines", fn := fun _ => fun
  | [d] => { results := [.lit (.bool false)], args := [d] }
  | _ => none }
def FnLinesWrongFalsely : Prop := fnLinesRow.holds Try.pinned (OpenSpec.ofChange fnLinesWrong)

/-- 'laws.FnLineSizes': WHATEVER THE INPUT: true; the input reads as it did. -/
def fnLineSizesSpec : ChangeSpec := { name := "fnLineSizes", fn := fun _ => fun
  | [d] => { results := [.lit (.bool true)], args := [d] }
  | _ => none }
def fnLineSizesRow : OpenClaim := { program := "ytopfiogmbnfjcaa", sum := "206b7c866b32a76ca0e00f57843b70ca6259740dc36889b88d848a4850aae68c", func := "loop.example/g00972/laws.FnLineSizes", spec := "fnLineSizes", apart := false }
def FnLineSizesSaid : Prop := fnLineSizesRow.holds Try.pinned (OpenSpec.ofChange fnLineSizesSpec)

/-- ITS FALSE NEIGHBOUR: 'it returns false'. Refute it at one input. -/
def fnLineSizesWrong : ChangeSpec := { name := "fnLineSizes", fn := fun _ => fun
  | [d] => { results := [.lit (.bool false)], args := [d] }
  | _ => none }
def FnLineSizesWrongFalsely : Prop := fnLineSizesRow.holds Try.pinned (OpenSpec.ofChange fnLineSizesWrong)

/-- 'laws.FnExactGrows': WHATEVER THE INPUT: true; the input reads as it did. -/
def fnExactGrowsSpec : ChangeSpec := { name := "fnExactGrows", fn := fun _ => fun
  | [d1, d2, d3] => { results := [.lit (.bool true)], args := [d1, d2, d3] }
  | _ => none }
def fnExactGrowsRow : OpenClaim := { program := "ytopfiogmbnfjcaa", sum := "206b7c866b32a76ca0e00f57843b70ca6259740dc36889b88d848a4850aae68c", func := "loop.example/g00972/laws.FnExactGrows", spec := "fnExactGrows", apart := false }
def FnExactGrowsSaid : Prop := fnExactGrowsRow.holds Try.pinned (OpenSpec.ofChange fnExactGrowsSpec)

/-- ITS FALSE NEIGHBOUR: 'it returns false'. Refute it at one input. -/
def fnExactGrowsWrong : ChangeSpec := { name := "fnExactGrows", fn := fun _ => fun
  | [d1, d2, d3] => { results := [.lit (.bool false)], args := [d1, d2, d3] }
  | _ => none }
def FnExactGrowsWrongFalsely : Prop := fnExactGrowsRow.holds Try.pinned (OpenSpec.ofChange fnExactGrowsWrong)

/-- 'laws.FnExactFlexLine': WHATEVER THE INPUT: true; the input reads as it did. -/
def fnExactFlexLineSpec : ChangeSpec := { name := "fnExactFlexLine", fn := fun _ => fun
  | [d1, d2, d3] => { results := [.lit (.bool true)], args := [d1, d2, d3] }
  | _ => none }
def fnExactFlexLineRow : OpenClaim := { program := "ytopfiogmbnfjcaa", sum := "206b7c866b32a76ca0e00f57843b70ca6259740dc36889b88d848a4850aae68c", func := "loop.example/g00972/laws.FnExactFlexLine", spec := "fnExactFlexLine", apart := false }
def FnExactFlexLineSaid : Prop := fnExactFlexLineRow.holds Try.pinned (OpenSpec.ofChange fnExactFlexLineSpec)

/-- ITS FALSE NEIGHBOUR: 'it returns false'. Refute it at one input. -/
def fnExactFlexLineWrong : ChangeSpec := { name := "fnExactFlexLine", fn := fun _ => fun
  | [d1, d2, d3] => { results := [.lit (.bool false)], args := [d1, d2, d3] }
  | _ => none }
def FnExactFlexLineWrongFalsely : Prop := fnExactFlexLineRow.holds Try.pinned (OpenSpec.ofChange fnExactFlexLineWrong)

/-- 'laws.FnExactFlexPasses': WHATEVER THE INPUT: true; the input reads as it did. -/
def fnExactFlexPassesSpec : ChangeSpec := { name := "fnExactFlexPasses", fn := fun _ => fun
  | [d1, d2, d3] => { results := [.lit (.bool true)], args := [d1, d2, d3] }
  | _ => none }
def fnExactFlexPassesRow : OpenClaim := { program := "ytopfiogmbnfjcaa", sum := "206b7c866b32a76ca0e00f57843b70ca6259740dc36889b88d848a4850aae68c", func := "loop.example/g00972/laws.FnExactFlexPasses", spec := "fnExactFlexPasses", apart := false }
def FnExactFlexPassesSaid : Prop := fnExactFlexPassesRow.holds Try.pinned (OpenSpec.ofChange fnExactFlexPassesSpec)

/-- ITS FALSE NEIGHBOUR: 'it returns false'. Refute it at one input. -/
def fnExactFlexPassesWrong : ChangeSpec := { name := "fnExactFlexPasses", fn := fun _ => fun
  | [d1, d2, d3] => { results := [.lit (.bool false)], args := [d1, d2, d3] }
  | _ => none }
def FnExactFlexPassesWrongFalsely : Prop := fnExactFlexPassesRow.holds Try.pinned (OpenSpec.ofChange fnExactFlexPassesWrong)

/-- 'laws.FnExactLinesOf': WHATEVER THE INPUT: true; the input reads as it did. -/
def fnExactLinesOfSpec : ChangeSpec := { name := "fnExactLinesOf", fn := fun _ => fun
  | [d1, d2, d3, d4] => { results := [.lit (.bool true)], args := [d1, d2, d3, d4] }
  | _ => none }
def fnExactLinesOfRow : OpenClaim := { program := "ytopfiogmbnfjcaa", sum := "206b7c866b32a76ca0e00f57843b70ca6259740dc36889b88d848a4850aae68c", func := "loop.example/g00972/laws.FnExactLinesOf", spec := "fnExactLinesOf", apart := false }
def FnExactLinesOfSaid : Prop := fnExactLinesOfRow.holds Try.pinned (OpenSpec.ofChange fnExactLinesOfSpec)

/-- ITS FALSE NEIGHBOUR: 'it returns false'. Refute it at one input. -/
def fnExactLinesOfWrong : ChangeSpec := { name := "fnExactLinesOf", fn := fun _ => fun
  | [d1, d2, d3, d4] => { results := [.lit (.bool false)], args := [d1, d2, d3, d4] }
  | _ => none }
def FnExactLinesOfWrongFalsely : Prop := fnExactLinesOfRow.holds Try.pinned (OpenSpec.ofChange fnExactLinesOfWrong)

/-- 'laws.FnExactLineItems': WHATEVER THE INPUT: true; the input reads as it did. -/
def fnExactLineItemsSpec : ChangeSpec := { name := "fnExactLineItems", fn := fun _ => fun
  | [d1, d2] => { results := [.lit (.bool true)], args := [d1, d2] }
  | _ => none }
def fnExactLineItemsRow : OpenClaim := { program := "ytopfiogmbnfjcaa", sum := "206b7c866b32a76ca0e00f57843b70ca6259740dc36889b88d848a4850aae68c", func := "loop.example/g00972/laws.FnExactLineItems", spec := "fnExactLineItems", apart := false }
def FnExactLineItemsSaid : Prop := fnExactLineItemsRow.holds Try.pinned (OpenSpec.ofChange fnExactLineItemsSpec)

/-- ITS FALSE NEIGHBOUR: 'it returns false'. Refute it at one input. -/
def fnExactLineItemsWrong : ChangeSpec := { name := "fnExactLineItems", fn := fun _ => fun
  | [d1, d2] => { results := [.lit (.bool false)], args := [d1, d2] }
  | _ => none }
def FnExactLineItemsWrongFalsely : Prop := fnExactLineItemsRow.holds Try.pinned (OpenSpec.ofChange fnExactLineItemsWrong)

/-- 'laws.FnExactLongestOf': WHATEVER THE INPUT: true; the input reads as it did. -/
def fnExactLongestOfSpec : ChangeSpec := { name := "fnExactLongestOf", fn := fun _ => fun
  | [d1, d2, d3, d4] => { results := [.lit (.bool true)], args := [d1, d2, d3, d4] }
  | _ => none }
def fnExactLongestOfRow : OpenClaim := { program := "ytopfiogmbnfjcaa", sum := "206b7c866b32a76ca0e00f57843b70ca6259740dc36889b88d848a4850aae68c", func := "loop.example/g00972/laws.FnExactLongestOf", spec := "fnExactLongestOf", apart := false }
def FnExactLongestOfSaid : Prop := fnExactLongestOfRow.holds Try.pinned (OpenSpec.ofChange fnExactLongestOfSpec)

/-- ITS FALSE NEIGHBOUR: 'it returns false'. Refute it at one input. -/
def fnExactLongestOfWrong : ChangeSpec := { name := "fnExactLongestOf", fn := fun _ => fun
  | [d1, d2, d3, d4] => { results := [.lit (.bool false)], args := [d1, d2, d3, d4] }
  | _ => none }
def FnExactLongestOfWrongFalsely : Prop := fnExactLongestOfRow.holds Try.pinned (OpenSpec.ofChange fnExactLongestOfWrong)

/-- 'laws.FnExactLineSizes': WHATEVER THE INPUT: true; the input reads as it did. -/
def fnExactLineSizesSpec : ChangeSpec := { name := "fnExactLineSizes", fn := fun _ => fun
  | [d1, d2, d3, d4, d5] => { results := [.lit (.bool true)], args := [d1, d2, d3, d4, d5] }
  | _ => none }
def fnExactLineSizesRow : OpenClaim := { program := "ytopfiogmbnfjcaa", sum := "206b7c866b32a76ca0e00f57843b70ca6259740dc36889b88d848a4850aae68c", func := "loop.example/g00972/laws.FnExactLineSizes", spec := "fnExactLineSizes", apart := false }
def FnExactLineSizesSaid : Prop := fnExactLineSizesRow.holds Try.pinned (OpenSpec.ofChange fnExactLineSizesSpec)

/-- ITS FALSE NEIGHBOUR: 'it returns false'. Refute it at one input. -/
def fnExactLineSizesWrong : ChangeSpec := { name := "fnExactLineSizes", fn := fun _ => fun
  | [d1, d2, d3, d4, d5] => { results := [.lit (.bool false)], args := [d1, d2, d3, d4, d5] }
  | _ => none }
def FnExactLineSizesWrongFalsely : Prop := fnExactLineSizesRow.holds Try.pinned (OpenSpec.ofChange fnExactLineSizesWrong)

/-- 'laws.FnExactLineOfItem': WHATEVER THE INPUT: true; the input reads as it did. -/
def fnExactLineOfItemSpec : ChangeSpec := { name := "fnExactLineOfItem", fn := fun _ => fun
  | [d1, d2] => { results := [.lit (.bool true)], args := [d1, d2] }
  | _ => none }
def fnExactLineOfItemRow : OpenClaim := { program := "ytopfiogmbnfjcaa", sum := "206b7c866b32a76ca0e00f57843b70ca6259740dc36889b88d848a4850aae68c", func := "loop.example/g00972/laws.FnExactLineOfItem", spec := "fnExactLineOfItem", unfollowed := true, recurses := true, apart := false }
def FnExactLineOfItemSaid : Prop := fnExactLineOfItemRow.holds Try.pinned (OpenSpec.ofChange fnExactLineOfItemSpec)

/-- ITS FALSE NEIGHBOUR: 'it returns false'. Refute it at one input. -/
def fnExactLineOfItemWrong : ChangeSpec := { name := "fnExactLineOfItem", fn := fun _ => fun
  | [d1, d2] => { results := [.lit (.bool false)], args := [d1, d2] }
  | _ => none }
def FnExactLineOfItemWrongFalsely : Prop := fnExactLineOfItemRow.holds Try.pinned (OpenSpec.ofChange fnExactLineOfItemWrong)

/- THE SECOND FORM. 'bulk': how many values and letters a reading holds, each counted each time it is reached (what is shared counts as often as it is met; a slice's spare places count too). A statement '..UptoSaid' is the law's where the arguments, and the package variables that the reading takes, are together of bulk at most 1048576: NARROWER than '..Said'. Prove '..Said' where nothing that the law and all that it calls make is longer than what came in: it says more and counts as full. Else prove '..UptoSaid'. A law counts once. -/
mutual
def uptoBulk {H : Type} : DataW H → Nat
  | .lit (.string bytes) => bytes.length + 1
  | .lit _ => 1
  | .nil => 1
  | .ptr d => uptoBulk d + 1
  | .slice elems spare => uptoBulkAll elems + uptoBulkAll spare + 1
  | .agg parts => uptoBulkAll parts + 1
  | .iface _ d => uptoBulk d + 1
  | .map entries => uptoBulkEntries entries + 1
  | .held _ => 1
def uptoBulkAll {H : Type} : List (DataW H) → Nat
  | [] => 0
  | d :: r => uptoBulk d + uptoBulkAll r
def uptoBulkEntries {H : Type} : List (Lit × DataW H) → Nat
  | [] => 0
  | x :: r => uptoBulkEntry x + uptoBulkEntries r
def uptoBulkEntry {H : Type} : Lit × DataW H → Nat
  | (.string bytes, d) => bytes.length + uptoBulk d + 1
  | (_, d) => uptoBulk d + 1
 end
def uptoSmall : (H : Type) → List (DataW H) → Bool := fun _ ds => decide (uptoBulkAll ds ≤ 1048576)
def OpenSpec.upto (s : _root_.Go.ChangeSpec) : _root_.Go.OpenSpec := { _root_.Go.OpenSpec.ofChange s with cond := some uptoSmall }

/-- 'laws.FnFlexed', WHERE WHAT IT READS IS OF BULK AT MOST 1048576: true; the input reads as it did. -/
def fnFlexedUptoRow : OpenClaim := { program := "ytopfiogmbnfjcaa", sum := "206b7c866b32a76ca0e00f57843b70ca6259740dc36889b88d848a4850aae68c", func := "loop.example/g00972/laws.FnFlexed", spec := "fnFlexed", apart := false, narrowed := true }
def FnFlexedUptoSaid : Prop := fnFlexedUptoRow.holds Try.pinned (OpenSpec.upto fnFlexedSpec)

/-- 'laws.FnFair', WHERE WHAT IT READS IS OF BULK AT MOST 1048576: true; the input reads as it did. -/
def fnFairUptoRow : OpenClaim := { program := "ytopfiogmbnfjcaa", sum := "206b7c866b32a76ca0e00f57843b70ca6259740dc36889b88d848a4850aae68c", func := "loop.example/g00972/laws.FnFair", spec := "fnFair", apart := false, narrowed := true }
def FnFairUptoSaid : Prop := fnFairUptoRow.holds Try.pinned (OpenSpec.upto fnFairSpec)

/-- 'laws.FnLines', WHERE WHAT IT READS IS OF BULK AT MOST 1048576: true; the input reads as it did. -/
def fnLinesUptoRow : OpenClaim := { program := "ytopfiogmbnfjcaa", sum := "206b7c866b32a76ca0e00f57843b70ca6259740dc36889b88d848a4850aae68c", func := "loop.example/g00972/laws.FnLines", spec := "fnLines", unfollowed := true, recurses := true, apart := false, narrowed := true }
def FnLinesUptoSaid : Prop := fnLinesUptoRow.holds Try.pinned (OpenSpec.upto fnLinesSpec)

/-- 'laws.FnLineSizes', WHERE WHAT IT READS IS OF BULK AT MOST 1048576: true; the input reads as it did. -/
def fnLineSizesUptoRow : OpenClaim := { program := "ytopfiogmbnfjcaa", sum := "206b7c866b32a76ca0e00f57843b70ca6259740dc36889b88d848a4850aae68c", func := "loop.example/g00972/laws.FnLineSizes", spec := "fnLineSizes", apart := false, narrowed := true }
def FnLineSizesUptoSaid : Prop := fnLineSizesUptoRow.holds Try.pinned (OpenSpec.upto fnLineSizesSpec)

/-- 'laws.FnExactGrows', WHERE WHAT IT READS IS OF BULK AT MOST 1048576: true; the input reads as it did. -/
def fnExactGrowsUptoRow : OpenClaim := { program := "ytopfiogmbnfjcaa", sum := "206b7c866b32a76ca0e00f57843b70ca6259740dc36889b88d848a4850aae68c", func := "loop.example/g00972/laws.FnExactGrows", spec := "fnExactGrows", apart := false, narrowed := true }
def FnExactGrowsUptoSaid : Prop := fnExactGrowsUptoRow.holds Try.pinned (OpenSpec.upto fnExactGrowsSpec)

/-- 'laws.FnExactFlexLine', WHERE WHAT IT READS IS OF BULK AT MOST 1048576: true; the input reads as it did. -/
def fnExactFlexLineUptoRow : OpenClaim := { program := "ytopfiogmbnfjcaa", sum := "206b7c866b32a76ca0e00f57843b70ca6259740dc36889b88d848a4850aae68c", func := "loop.example/g00972/laws.FnExactFlexLine", spec := "fnExactFlexLine", apart := false, narrowed := true }
def FnExactFlexLineUptoSaid : Prop := fnExactFlexLineUptoRow.holds Try.pinned (OpenSpec.upto fnExactFlexLineSpec)

/-- 'laws.FnExactFlexPasses', WHERE WHAT IT READS IS OF BULK AT MOST 1048576: true; the input reads as it did. -/
def fnExactFlexPassesUptoRow : OpenClaim := { program := "ytopfiogmbnfjcaa", sum := "206b7c866b32a76ca0e00f57843b70ca6259740dc36889b88d848a4850aae68c", func := "loop.example/g00972/laws.FnExactFlexPasses", spec := "fnExactFlexPasses", apart := false, narrowed := true }
def FnExactFlexPassesUptoSaid : Prop := fnExactFlexPassesUptoRow.holds Try.pinned (OpenSpec.upto fnExactFlexPassesSpec)

/-- 'laws.FnExactLinesOf', WHERE WHAT IT READS IS OF BULK AT MOST 1048576: true; the input reads as it did. -/
def fnExactLinesOfUptoRow : OpenClaim := { program := "ytopfiogmbnfjcaa", sum := "206b7c866b32a76ca0e00f57843b70ca6259740dc36889b88d848a4850aae68c", func := "loop.example/g00972/laws.FnExactLinesOf", spec := "fnExactLinesOf", apart := false, narrowed := true }
def FnExactLinesOfUptoSaid : Prop := fnExactLinesOfUptoRow.holds Try.pinned (OpenSpec.upto fnExactLinesOfSpec)

/-- 'laws.FnExactLineItems', WHERE WHAT IT READS IS OF BULK AT MOST 1048576: true; the input reads as it did. -/
def fnExactLineItemsUptoRow : OpenClaim := { program := "ytopfiogmbnfjcaa", sum := "206b7c866b32a76ca0e00f57843b70ca6259740dc36889b88d848a4850aae68c", func := "loop.example/g00972/laws.FnExactLineItems", spec := "fnExactLineItems", apart := false, narrowed := true }
def FnExactLineItemsUptoSaid : Prop := fnExactLineItemsUptoRow.holds Try.pinned (OpenSpec.upto fnExactLineItemsSpec)

/-- 'laws.FnExactLongestOf', WHERE WHAT IT READS IS OF BULK AT MOST 1048576: true; the input reads as it did. -/
def fnExactLongestOfUptoRow : OpenClaim := { program := "ytopfiogmbnfjcaa", sum := "206b7c866b32a76ca0e00f57843b70ca6259740dc36889b88d848a4850aae68c", func := "loop.example/g00972/laws.FnExactLongestOf", spec := "fnExactLongestOf", apart := false, narrowed := true }
def FnExactLongestOfUptoSaid : Prop := fnExactLongestOfUptoRow.holds Try.pinned (OpenSpec.upto fnExactLongestOfSpec)

/-- 'laws.FnExactLineSizes', WHERE WHAT IT READS IS OF BULK AT MOST 1048576: true; the input reads as it did. -/
def fnExactLineSizesUptoRow : OpenClaim := { program := "ytopfiogmbnfjcaa", sum := "206b7c866b32a76ca0e00f57843b70ca6259740dc36889b88d848a4850aae68c", func := "loop.example/g00972/laws.FnExactLineSizes", spec := "fnExactLineSizes", apart := false, narrowed := true }
def FnExactLineSizesUptoSaid : Prop := fnExactLineSizesUptoRow.holds Try.pinned (OpenSpec.upto fnExactLineSizesSpec)

/-- 'laws.FnExactLineOfItem', WHERE WHAT IT READS IS OF BULK AT MOST 1048576: true; the input reads as it did. -/
def fnExactLineOfItemUptoRow : OpenClaim := { program := "ytopfiogmbnfjcaa", sum := "206b7c866b32a76ca0e00f57843b70ca6259740dc36889b88d848a4850aae68c", func := "loop.example/g00972/laws.FnExactLineOfItem", spec := "fnExactLineOfItem", unfollowed := true, recurses := true, apart := false, narrowed := true }
def FnExactLineOfItemUptoSaid : Prop := fnExactLineOfItemUptoRow.holds Try.pinned (OpenSpec.upto fnExactLineOfItemSpec)

end Rows
end Go.Proofs.Ytopfiogmbnfjcaa

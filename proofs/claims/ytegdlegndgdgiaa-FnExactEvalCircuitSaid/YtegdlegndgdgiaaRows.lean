/-
  No cell of these rows narrows 'for every input' (looked for: loops, veiled, ifaces, maps, wideKeys, modest, calm, conditions, laid).
  DERIVED. THE GIVEN ROWS OF THIS SEAT. 11 by the template 'for every input the law returns true; each argument reads behind the call as it read before'; 0 by the template 'total and deterministic' (their statements: YtegdlegndgdgiaaTotals.lean).
  GIVEN WITH THE SEED: the statements are not yours to turn. If you find one false, say at which input.
  Laid BY PROGRAM, IN A SANDBOX (cutbox-rows.mjs): the forced cells as the released guide's own fill.sh prints them over the translation 9b2cf1c77455f144… (all of the seat's roots in one cut). By AI agents, Wed Nov 11 2026. No macro, syntax, notation, axiom, sorry.
-/
import Derived.Test.YtegdlegndgdgiaaChecked
import GoSem.Claim
import GoSem.ClaimJoined
import GoSem.ClaimMapViews
import Derived.JoinedTies
import Derived.KernelRfl
namespace Go.Proofs.Ytegdlegndgdgiaa
/- THE CELL 'sum', in the pinned program and in every row, IS THE sha256 OF THE DUMP (.gsa) THAT YtegdlegndgdgiaaProg.lean LOADS. Nothing in Lean hashes anything: it is a label: what it is worth is what the hold of that sum in a sandbox is worth. -/
noncomputable def Try.pinned : Pinned := { name := "ytegdlegndgdgiaa", sum := "9b2cf1c77455f14409061520a26841b73ab7b00d3f92417358af05affed89505", checked := Try.checked }
namespace Rows
def none {H : Type} : Left H := { results := [], args := [] }

/-- 'laws.FnExactEvalCircuit': WHATEVER THE INPUT: true; the input reads as it did. -/
def fnExactEvalCircuitSpec : ChangeSpec := { name := "fnExactEvalCircuit", fn := fun _ => fun
  | [d1, d2] => { results := [.lit (.bool true)], args := [d1, d2] }
  | _ => none }
def fnExactEvalCircuitRow : OpenClaim := { program := "ytegdlegndgdgiaa", sum := "9b2cf1c77455f14409061520a26841b73ab7b00d3f92417358af05affed89505", func := "loop.example/g00979/laws.FnExactEvalCircuit", spec := "fnExactEvalCircuit", unfollowed := true, recurses := true, plainKeys := false, apart := false }
def FnExactEvalCircuitSaid : Prop := fnExactEvalCircuitRow.holds Try.pinned (OpenSpec.ofChange fnExactEvalCircuitSpec)

/-- ITS FALSE NEIGHBOUR: 'it returns false'. Refute it at one input. -/
def fnExactEvalCircuitWrong : ChangeSpec := { name := "fnExactEvalCircuit", fn := fun _ => fun
  | [d1, d2] => { results := [.lit (.bool false)], args := [d1, d2] }
  | _ => none }
def FnExactEvalCircuitWrongFalsely : Prop := fnExactEvalCircuitRow.holds Try.pinned (OpenSpec.ofChange fnExactEvalCircuitWrong)

/-- 'laws.FnCircuits': WHATEVER THE INPUT: true; the input reads as it did. -/
def fnCircuitsSpec : ChangeSpec := { name := "fnCircuits", fn := fun _ => fun
  | [d] => { results := [.lit (.bool true)], args := [d] }
  | _ => none }
def fnCircuitsRow : OpenClaim := { program := "ytegdlegndgdgiaa", sum := "9b2cf1c77455f14409061520a26841b73ab7b00d3f92417358af05affed89505", func := "loop.example/g00979/laws.FnCircuits", spec := "fnCircuits", unfollowed := true, recurses := true, plainKeys := false, apart := false }
def FnCircuitsSaid : Prop := fnCircuitsRow.holds Try.pinned (OpenSpec.ofChange fnCircuitsSpec)

/-- ITS FALSE NEIGHBOUR: 'it returns false'. Refute it at one input. -/
def fnCircuitsWrong : ChangeSpec := { name := "fnCircuits", fn := fun _ => fun
  | [d] => { results := [.lit (.bool false)], args := [d] }
  | _ => none }
def FnCircuitsWrongFalsely : Prop := fnCircuitsRow.holds Try.pinned (OpenSpec.ofChange fnCircuitsWrong)

/-- 'laws.FnArithmetic': WHATEVER THE INPUT: true; the input reads as it did. -/
def fnArithmeticSpec : ChangeSpec := { name := "fnArithmetic", fn := fun _ => fun
  | [d] => { results := [.lit (.bool true)], args := [d] }
  | _ => none }
def fnArithmeticRow : OpenClaim := { program := "ytegdlegndgdgiaa", sum := "9b2cf1c77455f14409061520a26841b73ab7b00d3f92417358af05affed89505", func := "loop.example/g00979/laws.FnArithmetic", spec := "fnArithmetic", unfollowed := true, recurses := true, plainKeys := false, apart := false }
def FnArithmeticSaid : Prop := fnArithmeticRow.holds Try.pinned (OpenSpec.ofChange fnArithmeticSpec)

/-- ITS FALSE NEIGHBOUR: 'it returns false'. Refute it at one input. -/
def fnArithmeticWrong : ChangeSpec := { name := "fnArithmetic", fn := fun _ => fun
  | [d] => { results := [.lit (.bool false)], args := [d] }
  | _ => none }
def FnArithmeticWrongFalsely : Prop := fnArithmeticRow.holds Try.pinned (OpenSpec.ofChange fnArithmeticWrong)

/-- 'laws.FnComparisons': WHATEVER THE INPUT: true; the input reads as it did. -/
def fnComparisonsSpec : ChangeSpec := { name := "fnComparisons", fn := fun _ => fun
  | [d] => { results := [.lit (.bool true)], args := [d] }
  | _ => none }
def fnComparisonsRow : OpenClaim := { program := "ytegdlegndgdgiaa", sum := "9b2cf1c77455f14409061520a26841b73ab7b00d3f92417358af05affed89505", func := "loop.example/g00979/laws.FnComparisons", spec := "fnComparisons", unfollowed := true, recurses := true, plainKeys := false, apart := false }
def FnComparisonsSaid : Prop := fnComparisonsRow.holds Try.pinned (OpenSpec.ofChange fnComparisonsSpec)

/-- ITS FALSE NEIGHBOUR: 'it returns false'. Refute it at one input. -/
def fnComparisonsWrong : ChangeSpec := { name := "fnComparisons", fn := fun _ => fun
  | [d] => { results := [.lit (.bool false)], args := [d] }
  | _ => none }
def FnComparisonsWrongFalsely : Prop := fnComparisonsRow.holds Try.pinned (OpenSpec.ofChange fnComparisonsWrong)

/-- 'laws.FnExactRunCircuit': WHATEVER THE INPUT: true; the input reads as it did. -/
def fnExactRunCircuitSpec : ChangeSpec := { name := "fnExactRunCircuit", fn := fun _ => fun
  | [d1, d2] => { results := [.lit (.bool true)], args := [d1, d2] }
  | _ => none }
def fnExactRunCircuitRow : OpenClaim := { program := "ytegdlegndgdgiaa", sum := "9b2cf1c77455f14409061520a26841b73ab7b00d3f92417358af05affed89505", func := "loop.example/g00979/laws.FnExactRunCircuit", spec := "fnExactRunCircuit", unfollowed := true, recurses := true, plainKeys := false, apart := false }
def FnExactRunCircuitSaid : Prop := fnExactRunCircuitRow.holds Try.pinned (OpenSpec.ofChange fnExactRunCircuitSpec)

/-- ITS FALSE NEIGHBOUR: 'it returns false'. Refute it at one input. -/
def fnExactRunCircuitWrong : ChangeSpec := { name := "fnExactRunCircuit", fn := fun _ => fun
  | [d1, d2] => { results := [.lit (.bool false)], args := [d1, d2] }
  | _ => none }
def FnExactRunCircuitWrongFalsely : Prop := fnExactRunCircuitRow.holds Try.pinned (OpenSpec.ofChange fnExactRunCircuitWrong)

/-- 'laws.FnSimplified': WHATEVER THE INPUT: true; the input reads as it did. -/
def fnSimplifiedSpec : ChangeSpec := { name := "fnSimplified", fn := fun _ => fun
  | [d] => { results := [.lit (.bool true)], args := [d] }
  | _ => none }
def fnSimplifiedRow : OpenClaim := { program := "ytegdlegndgdgiaa", sum := "9b2cf1c77455f14409061520a26841b73ab7b00d3f92417358af05affed89505", func := "loop.example/g00979/laws.FnSimplified", spec := "fnSimplified", unfollowed := true, recurses := true, plainKeys := false, apart := false }
def FnSimplifiedSaid : Prop := fnSimplifiedRow.holds Try.pinned (OpenSpec.ofChange fnSimplifiedSpec)

/-- ITS FALSE NEIGHBOUR: 'it returns false'. Refute it at one input. -/
def fnSimplifiedWrong : ChangeSpec := { name := "fnSimplified", fn := fun _ => fun
  | [d] => { results := [.lit (.bool false)], args := [d] }
  | _ => none }
def FnSimplifiedWrongFalsely : Prop := fnSimplifiedRow.holds Try.pinned (OpenSpec.ofChange fnSimplifiedWrong)

/-- 'laws.FnPruned': WHATEVER THE INPUT: true; the input reads as it did. -/
def fnPrunedSpec : ChangeSpec := { name := "fnPruned", fn := fun _ => fun
  | [d] => { results := [.lit (.bool true)], args := [d] }
  | _ => none }
def fnPrunedRow : OpenClaim := { program := "ytegdlegndgdgiaa", sum := "9b2cf1c77455f14409061520a26841b73ab7b00d3f92417358af05affed89505", func := "loop.example/g00979/laws.FnPruned", spec := "fnPruned", unfollowed := true, recurses := true, plainKeys := false, apart := false }
def FnPrunedSaid : Prop := fnPrunedRow.holds Try.pinned (OpenSpec.ofChange fnPrunedSpec)

/-- ITS FALSE NEIGHBOUR: 'it returns false'. Refute it at one input. -/
def fnPrunedWrong : ChangeSpec := { name := "fnPruned", fn := fun _ => fun
  | [d] => { results := [.lit (.bool false)], args := [d] }
  | _ => none }
def FnPrunedWrongFalsely : Prop := fnPrunedRow.holds Try.pinned (OpenSpec.ofChange fnPrunedWrong)

/-- 'laws.FnConstantCircuits': WHATEVER THE INPUT: true; the input reads as it did. -/
def fnConstantCircuitsSpec : ChangeSpec := { name := "fnConstantCircuits", fn := fun _ => fun
  | [d] => { results := [.lit (.bool true)], args := [d] }
  | _ => none }
def fnConstantCircuitsRow : OpenClaim := { program := "ytegdlegndgdgiaa", sum := "9b2cf1c77455f14409061520a26841b73ab7b00d3f92417358af05affed89505", func := "loop.example/g00979/laws.FnConstantCircuits", spec := "fnConstantCircuits", unfollowed := true, recurses := true, plainKeys := false, apart := false }
def FnConstantCircuitsSaid : Prop := fnConstantCircuitsRow.holds Try.pinned (OpenSpec.ofChange fnConstantCircuitsSpec)

/-- ITS FALSE NEIGHBOUR: 'it returns false'. Refute it at one input. -/
def fnConstantCircuitsWrong : ChangeSpec := { name := "fnConstantCircuits", fn := fun _ => fun
  | [d] => { results := [.lit (.bool false)], args := [d] }
  | _ => none }
def FnConstantCircuitsWrongFalsely : Prop := fnConstantCircuitsRow.holds Try.pinned (OpenSpec.ofChange fnConstantCircuitsWrong)

/-- 'laws.FnExactSimplify': WHATEVER THE INPUT: true; the input reads as it did. -/
def fnExactSimplifySpec : ChangeSpec := { name := "fnExactSimplify", fn := fun _ => fun
  | [d] => { results := [.lit (.bool true)], args := [d] }
  | _ => none }
def fnExactSimplifyRow : OpenClaim := { program := "ytegdlegndgdgiaa", sum := "9b2cf1c77455f14409061520a26841b73ab7b00d3f92417358af05affed89505", func := "loop.example/g00979/laws.FnExactSimplify", spec := "fnExactSimplify", plainKeys := false, apart := false }
def FnExactSimplifySaid : Prop := fnExactSimplifyRow.holds Try.pinned (OpenSpec.ofChange fnExactSimplifySpec)

/-- ITS FALSE NEIGHBOUR: 'it returns false'. Refute it at one input. -/
def fnExactSimplifyWrong : ChangeSpec := { name := "fnExactSimplify", fn := fun _ => fun
  | [d] => { results := [.lit (.bool false)], args := [d] }
  | _ => none }
def FnExactSimplifyWrongFalsely : Prop := fnExactSimplifyRow.holds Try.pinned (OpenSpec.ofChange fnExactSimplifyWrong)

/-- 'laws.FnExactPrune': WHATEVER THE INPUT: true; the input reads as it did. -/
def fnExactPruneSpec : ChangeSpec := { name := "fnExactPrune", fn := fun _ => fun
  | [d] => { results := [.lit (.bool true)], args := [d] }
  | _ => none }
def fnExactPruneRow : OpenClaim := { program := "ytegdlegndgdgiaa", sum := "9b2cf1c77455f14409061520a26841b73ab7b00d3f92417358af05affed89505", func := "loop.example/g00979/laws.FnExactPrune", spec := "fnExactPrune", unfollowed := true, recurses := true, plainKeys := false, apart := false }
def FnExactPruneSaid : Prop := fnExactPruneRow.holds Try.pinned (OpenSpec.ofChange fnExactPruneSpec)

/-- ITS FALSE NEIGHBOUR: 'it returns false'. Refute it at one input. -/
def fnExactPruneWrong : ChangeSpec := { name := "fnExactPrune", fn := fun _ => fun
  | [d] => { results := [.lit (.bool false)], args := [d] }
  | _ => none }
def FnExactPruneWrongFalsely : Prop := fnExactPruneRow.holds Try.pinned (OpenSpec.ofChange fnExactPruneWrong)

/-- 'laws.FnExactOptimize': WHATEVER THE INPUT: true; the input reads as it did. -/
def fnExactOptimizeSpec : ChangeSpec := { name := "fnExactOptimize", fn := fun _ => fun
  | [d] => { results := [.lit (.bool true)], args := [d] }
  | _ => none }
def fnExactOptimizeRow : OpenClaim := { program := "ytegdlegndgdgiaa", sum := "9b2cf1c77455f14409061520a26841b73ab7b00d3f92417358af05affed89505", func := "loop.example/g00979/laws.FnExactOptimize", spec := "fnExactOptimize", unfollowed := true, recurses := true, plainKeys := false, apart := false }
def FnExactOptimizeSaid : Prop := fnExactOptimizeRow.holds Try.pinned (OpenSpec.ofChange fnExactOptimizeSpec)

/-- ITS FALSE NEIGHBOUR: 'it returns false'. Refute it at one input. -/
def fnExactOptimizeWrong : ChangeSpec := { name := "fnExactOptimize", fn := fun _ => fun
  | [d] => { results := [.lit (.bool false)], args := [d] }
  | _ => none }
def FnExactOptimizeWrongFalsely : Prop := fnExactOptimizeRow.holds Try.pinned (OpenSpec.ofChange fnExactOptimizeWrong)

/- THE SECOND FORM. 'bulk': how many values and letters a reading holds, each counted each time it is reached (what is shared counts as often as it is met; a slice's spare places count too). A statement '..UptoSaid' is the law's where the arguments, and the package variables that the reading takes, are together of bulk at most 1048576: NARROWER than '..Said'. Prove '..Said' where nothing that the law and all that it calls make is longer than what came in: it says more and counts as full. Else prove '..UptoSaid'. A law counts once. -/
mutual
def uptoBulk {H : Type} : DataW H → Nat
  | .lit (.string bytes) => bytes.length + 1
  | .lit _ => 1
  | .nil => 1
  | .ptr d => uptoBulk d + 1
  | .slice elems spare => uptoBulkAll elems + uptoBulkAll spare + 1
  | .agg parts => uptoBulkAll parts + 1
  | .iface _ d => uptoBulk d + 1
  | .map entries => uptoBulkEntries entries + 1
  | .held _ => 1
def uptoBulkAll {H : Type} : List (DataW H) → Nat
  | [] => 0
  | d :: r => uptoBulk d + uptoBulkAll r
def uptoBulkEntries {H : Type} : List (Lit × DataW H) → Nat
  | [] => 0
  | x :: r => uptoBulkEntry x + uptoBulkEntries r
def uptoBulkEntry {H : Type} : Lit × DataW H → Nat
  | (.string bytes, d) => bytes.length + uptoBulk d + 1
  | (_, d) => uptoBulk d + 1
 end
def uptoSmall : (H : Type) → List (DataW H) → Bool := fun _ ds => decide (uptoBulkAll ds ≤ 1048576)
def OpenSpec.upto (s : _root_.Go.ChangeSpec) : _root_.Go.OpenSpec := { _root_.Go.OpenSpec.ofChange s with cond := some uptoSmall }

/-- 'laws.FnExactEvalCircuit', WHERE WHAT IT READS IS OF BULK AT MOST 1048576: true; the input reads as it did. -/
def fnExactEvalCircuitUptoRow : OpenClaim := { program := "ytegdlegndgdgiaa", sum := "9b2cf1c77455f14409061520a26841b73ab7b00d3f92417358af05affed89505", func := "loop.example/g00979/laws.FnExactEvalCircuit", spec := "fnExactEvalCircuit", unfollowed := true, recurses := true, plainKeys := false, apart := false, narrowed := true }
def FnExactEvalCircuitUptoSaid : Prop := fnExactEvalCircuitUptoRow.holds Try.pinned (OpenSpec.upto fnExactEvalCircuitSpec)

/-- 'laws.FnCircuits', WHERE WHAT IT READS IS OF BULK AT MOST 1048576: true; the input reads as it did. -/
def fnCircuitsUptoRow : OpenClaim := { program := "ytegdlegndgdgiaa", sum := "9b2cf1c77455f14409061520a26841b73ab7b00d3f92417358af05affed89505", func := "loop.example/g00979/laws.FnCircuits", spec := "fnCircuits", unfollowed := true, recurses := true, plainKeys := false, apart := false, narrowed := true }
def FnCircuitsUptoSaid : Prop := fnCircuitsUptoRow.holds Try.pinned (OpenSpec.upto fnCircuitsSpec)

/-- 'laws.FnArithmetic', WHERE WHAT IT READS IS OF BULK AT MOST 1048576: true; the input reads as it did. -/
def fnArithmeticUptoRow : OpenClaim := { program := "ytegdlegndgdgiaa", sum := "9b2cf1c77455f14409061520a26841b73ab7b00d3f92417358af05affed89505", func := "loop.example/g00979/laws.FnArithmetic", spec := "fnArithmetic", unfollowed := true, recurses := true, plainKeys := false, apart := false, narrowed := true }
def FnArithmeticUptoSaid : Prop := fnArithmeticUptoRow.holds Try.pinned (OpenSpec.upto fnArithmeticSpec)

/-- 'laws.FnComparisons', WHERE WHAT IT READS IS OF BULK AT MOST 1048576: true; the input reads as it did. -/
def fnComparisonsUptoRow : OpenClaim := { program := "ytegdlegndgdgiaa", sum := "9b2cf1c77455f14409061520a26841b73ab7b00d3f92417358af05affed89505", func := "loop.example/g00979/laws.FnComparisons", spec := "fnComparisons", unfollowed := true, recurses := true, plainKeys := false, apart := false, narrowed := true }
def FnComparisonsUptoSaid : Prop := fnComparisonsUptoRow.holds Try.pinned (OpenSpec.upto fnComparisonsSpec)

/-- 'laws.FnExactRunCircuit', WHERE WHAT IT READS IS OF BULK AT MOST 1048576: true; the input reads as it did. -/
def fnExactRunCircuitUptoRow : OpenClaim := { program := "ytegdlegndgdgiaa", sum := "9b2cf1c77455f14409061520a26841b73ab7b00d3f92417358af05affed89505", func := "loop.example/g00979/laws.FnExactRunCircuit", spec := "fnExactRunCircuit", unfollowed := true, recurses := true, plainKeys := false, apart := false, narrowed := true }
def FnExactRunCircuitUptoSaid : Prop := fnExactRunCircuitUptoRow.holds Try.pinned (OpenSpec.upto fnExactRunCircuitSpec)

/-- 'laws.FnSimplified', WHERE WHAT IT READS IS OF BULK AT MOST 1048576: true; the input reads as it did. -/
def fnSimplifiedUptoRow : OpenClaim := { program := "ytegdlegndgdgiaa", sum := "9b2cf1c77455f14409061520a26841b73ab7b00d3f92417358af05affed89505", func := "loop.example/g00979/laws.FnSimplified", spec := "fnSimplified", unfollowed := true, recurses := true, plainKeys := false, apart := false, narrowed := true }
def FnSimplifiedUptoSaid : Prop := fnSimplifiedUptoRow.holds Try.pinned (OpenSpec.upto fnSimplifiedSpec)

/-- 'laws.FnPruned', WHERE WHAT IT READS IS OF BULK AT MOST 1048576: true; the input reads as it did. -/
def fnPrunedUptoRow : OpenClaim := { program := "ytegdlegndgdgiaa", sum := "9b2cf1c77455f14409061520a26841b73ab7b00d3f92417358af05affed89505", func := "loop.example/g00979/laws.FnPruned", spec := "fnPruned", unfollowed := true, recurses := true, plainKeys := false, apart := false, narrowed := true }
def FnPrunedUptoSaid : Prop := fnPrunedUptoRow.holds Try.pinned (OpenSpec.upto fnPrunedSpec)

/-- 'laws.FnConstantCircuits', WHERE WHAT IT READS IS OF BULK AT MOST 1048576: true; the input reads as it did. -/
def fnConstantCircuitsUptoRow : OpenClaim := { program := "ytegdlegndgdgiaa", sum := "9b2cf1c77455f14409061520a26841b73ab7b00d3f92417358af05affed89505", func := "loop.example/g00979/laws.FnConstantCircuits", spec := "fnConstantCircuits", unfollowed := true, recurses := true, plainKeys := false, apart := false, narrowed := true }
def FnConstantCircuitsUptoSaid : Prop := fnConstantCircuitsUptoRow.holds Try.pinned (OpenSpec.upto fnConstantCircuitsSpec)

/-- 'laws.FnExactSimplify', WHERE WHAT IT READS IS OF BULK AT MOST 1048576: true; the input reads as it did. -/
def fnExactSimplifyUptoRow : OpenClaim := { program := "ytegdlegndgdgiaa", sum := "9b2cf1c77455f14409061520a26841b73ab7b00d3f92417358af05affed89505", func := "loop.example/g00979/laws.FnExactSimplify", spec := "fnExactSimplify", plainKeys := false, apart := false, narrowed := true }
def FnExactSimplifyUptoSaid : Prop := fnExactSimplifyUptoRow.holds Try.pinned (OpenSpec.upto fnExactSimplifySpec)

/-- 'laws.FnExactPrune', WHERE WHAT IT READS IS OF BULK AT MOST 1048576: true; the input reads as it did. -/
def fnExactPruneUptoRow : OpenClaim := { program := "ytegdlegndgdgiaa", sum := "9b2cf1c77455f14409061520a26841b73ab7b00d3f92417358af05affed89505", func := "loop.example/g00979/laws.FnExactPrune", spec := "fnExactPrune", unfollowed := true, recurses := true, plainKeys := false, apart := false, narrowed := true }
def FnExactPruneUptoSaid : Prop := fnExactPruneUptoRow.holds Try.pinned (OpenSpec.upto fnExactPruneSpec)

/-- 'laws.FnExactOptimize', WHERE WHAT IT READS IS OF BULK AT MOST 1048576: true; the input reads as it did. -/
def fnExactOptimizeUptoRow : OpenClaim := { program := "ytegdlegndgdgiaa", sum := "9b2cf1c77455f14409061520a26841b73ab7b00d3f92417358af05affed89505", func := "loop.example/g00979/laws.FnExactOptimize", spec := "fnExactOptimize", unfollowed := true, recurses := true, plainKeys := false, apart := false, narrowed := true }
def FnExactOptimizeUptoSaid : Prop := fnExactOptimizeUptoRow.holds Try.pinned (OpenSpec.upto fnExactOptimizeSpec)

end Rows
end Go.Proofs.Ytegdlegndgdgiaa

/-
  No cell of these rows narrows 'for every input' (looked for: loops, veiled, ifaces, maps, wideKeys, modest, calm, conditions, laid).
  DERIVED. THE GIVEN ROWS OF THIS SEAT. 8 by the template 'for every input the law returns true; each argument reads behind the call as it read before'; 0 by the template 'total and deterministic' (their statements: YtjihlpebnhgepaaTotals.lean).
  GIVEN WITH THE SEED: the statements are not yours to turn. If you find one false, say at which input.
  Laid BY PROGRAM, IN A SANDBOX (cutbox-rows.mjs): the forced cells as the released guide's own fill.sh prints them over the translation ee891ef417b4941f… (all of the seat's roots in one cut). By AI agents, Wed Nov 11 2026. No macro, syntax, notation, axiom, sorry.
-/
import Derived.Test.YtjihlpebnhgepaaChecked
import GoSem.Claim
import GoSem.ClaimJoined
import GoSem.ClaimMapViews
import Derived.JoinedTies
import Derived.KernelRfl
namespace Go.Proofs.Ytjihlpebnhgepaa
/- THE CELL 'sum', in the pinned program and in every row, IS THE sha256 OF THE DUMP (.gsa) THAT YtjihlpebnhgepaaProg.lean LOADS. Nothing in Lean hashes anything: it is a label: what it is worth is what the hold of that sum in a sandbox is worth. -/
noncomputable def Try.pinned : Pinned := { name := "ytjihlpebnhgepaa", sum := "ee891ef417b4941f866098248e05d2eeaedd8e187a889d70f460067c69991236", checked := Try.checked }
namespace Rows
def none {H : Type} : Left H := { results := [], args := [] }

/-- 'laws.FnCircuits': WHATEVER THE INPUT: true; the input reads as it did. -/
def fnCircuitsSpec : ChangeSpec := { name := "fnCircuits", fn := fun _ => fun
  | [d] => { results := [.lit (.bool true)], args := [d] }
  | _ => none }
def fnCircuitsRow : OpenClaim := { program := "ytjihlpebnhgepaa", sum := "ee891ef417b4941f866098248e05d2eeaedd8e187a889d70f460067c69991236", func := "loop.example/g00979/laws.FnCircuits", spec := "fnCircuits", unfollowed := true, recurses := true, apart := false }
def FnCircuitsSaid : Prop := fnCircuitsRow.holds Try.pinned (OpenSpec.ofChange fnCircuitsSpec)

/-- ITS FALSE NEIGHBOUR: 'it returns false'. Refute it at one input. -/
def fnCircuitsWrong : ChangeSpec := { name := "fnCircuits", fn := fun _ => fun
  | [d] => { results := [.lit (.bool false)], args := [d] }
  | _ => none }
def FnCircuitsWrongFalsely : Prop := fnCircuitsRow.holds Try.pinned (OpenSpec.ofChange fnCircuitsWrong)

/-- 'laws.FnFreeGates': WHATEVER THE INPUT: true; the input reads as it did. -/
def fnFreeGatesSpec : ChangeSpec := { name := "fnFreeGates", fn := fun _ => fun
  | [d] => { results := [.lit (.bool true)], args := [d] }
  | _ => none }
def fnFreeGatesRow : OpenClaim := { program := "ytjihlpebnhgepaa", sum := "ee891ef417b4941f866098248e05d2eeaedd8e187a889d70f460067c69991236", func := "loop.example/g00979/laws.FnFreeGates", spec := "fnFreeGates", apart := false }
def FnFreeGatesSaid : Prop := fnFreeGatesRow.holds Try.pinned (OpenSpec.ofChange fnFreeGatesSpec)

/-- ITS FALSE NEIGHBOUR: 'it returns false'. Refute it at one input. -/
def fnFreeGatesWrong : ChangeSpec := { name := "fnFreeGates", fn := fun _ => fun
  | [d] => { results := [.lit (.bool false)], args := [d] }
  | _ => none }
def FnFreeGatesWrongFalsely : Prop := fnFreeGatesRow.holds Try.pinned (OpenSpec.ofChange fnFreeGatesWrong)

/-- 'laws.FnExactGateOk': WHATEVER THE INPUT: true; the input reads as it did. -/
def fnExactGateOkSpec : ChangeSpec := { name := "fnExactGateOk", fn := fun _ => fun
  | [d1, d2] => { results := [.lit (.bool true)], args := [d1, d2] }
  | _ => none }
def fnExactGateOkRow : OpenClaim := { program := "ytjihlpebnhgepaa", sum := "ee891ef417b4941f866098248e05d2eeaedd8e187a889d70f460067c69991236", func := "loop.example/g00979/laws.FnExactGateOk", spec := "fnExactGateOk", apart := false }
def FnExactGateOkSaid : Prop := fnExactGateOkRow.holds Try.pinned (OpenSpec.ofChange fnExactGateOkSpec)

/-- ITS FALSE NEIGHBOUR: 'it returns false'. Refute it at one input. -/
def fnExactGateOkWrong : ChangeSpec := { name := "fnExactGateOk", fn := fun _ => fun
  | [d1, d2] => { results := [.lit (.bool false)], args := [d1, d2] }
  | _ => none }
def FnExactGateOkWrongFalsely : Prop := fnExactGateOkRow.holds Try.pinned (OpenSpec.ofChange fnExactGateOkWrong)

/-- 'laws.FnExactCircuitOk': WHATEVER THE INPUT: true; the input reads as it did. -/
def fnExactCircuitOkSpec : ChangeSpec := { name := "fnExactCircuitOk", fn := fun _ => fun
  | [d] => { results := [.lit (.bool true)], args := [d] }
  | _ => none }
def fnExactCircuitOkRow : OpenClaim := { program := "ytjihlpebnhgepaa", sum := "ee891ef417b4941f866098248e05d2eeaedd8e187a889d70f460067c69991236", func := "loop.example/g00979/laws.FnExactCircuitOk", spec := "fnExactCircuitOk", apart := false }
def FnExactCircuitOkSaid : Prop := fnExactCircuitOkRow.holds Try.pinned (OpenSpec.ofChange fnExactCircuitOkSpec)

/-- ITS FALSE NEIGHBOUR: 'it returns false'. Refute it at one input. -/
def fnExactCircuitOkWrong : ChangeSpec := { name := "fnExactCircuitOk", fn := fun _ => fun
  | [d] => { results := [.lit (.bool false)], args := [d] }
  | _ => none }
def FnExactCircuitOkWrongFalsely : Prop := fnExactCircuitOkRow.holds Try.pinned (OpenSpec.ofChange fnExactCircuitOkWrong)

/-- 'laws.FnExactEvalWires': WHATEVER THE INPUT: true; the input reads as it did. -/
def fnExactEvalWiresSpec : ChangeSpec := { name := "fnExactEvalWires", fn := fun _ => fun
  | [d1, d2] => { results := [.lit (.bool true)], args := [d1, d2] }
  | _ => none }
def fnExactEvalWiresRow : OpenClaim := { program := "ytjihlpebnhgepaa", sum := "ee891ef417b4941f866098248e05d2eeaedd8e187a889d70f460067c69991236", func := "loop.example/g00979/laws.FnExactEvalWires", spec := "fnExactEvalWires", unfollowed := true, recurses := true, apart := false }
def FnExactEvalWiresSaid : Prop := fnExactEvalWiresRow.holds Try.pinned (OpenSpec.ofChange fnExactEvalWiresSpec)

/-- ITS FALSE NEIGHBOUR: 'it returns false'. Refute it at one input. -/
def fnExactEvalWiresWrong : ChangeSpec := { name := "fnExactEvalWires", fn := fun _ => fun
  | [d1, d2] => { results := [.lit (.bool false)], args := [d1, d2] }
  | _ => none }
def FnExactEvalWiresWrongFalsely : Prop := fnExactEvalWiresRow.holds Try.pinned (OpenSpec.ofChange fnExactEvalWiresWrong)

/-- 'laws.FnExactEvalCircuit': WHATEVER THE INPUT: true; the input reads as it did. -/
def fnExactEvalCircuitSpec : ChangeSpec := { name := "fnExactEvalCircuit", fn := fun _ => fun
  | [d1, d2] => { results := [.lit (.bool true)], args := [d1, d2] }
  | _ => none }
def fnExactEvalCircuitRow : OpenClaim := { program := "ytjihlpebnhgepaa", sum := "ee891ef417b4941f866098248e05d2eeaedd8e187a889d70f460067c69991236", func := "loop.example/g00979/laws.FnExactEvalCircuit", spec := "fnExactEvalCircuit", unfollowed := true, recurses := true, apart := false }
def FnExactEvalCircuitSaid : Prop := fnExactEvalCircuitRow.holds Try.pinned (OpenSpec.ofChange fnExactEvalCircuitSpec)

/-- ITS FALSE NEIGHBOUR: 'it returns false'. Refute it at one input. -/
def fnExactEvalCircuitWrong : ChangeSpec := { name := "fnExactEvalCircuit", fn := fun _ => fun
  | [d1, d2] => { results := [.lit (.bool false)], args := [d1, d2] }
  | _ => none }
def FnExactEvalCircuitWrongFalsely : Prop := fnExactEvalCircuitRow.holds Try.pinned (OpenSpec.ofChange fnExactEvalCircuitWrong)

/-- 'laws.FnExactCountGates': WHATEVER THE INPUT: true; the input reads as it did. -/
def fnExactCountGatesSpec : ChangeSpec := { name := "fnExactCountGates", fn := fun _ => fun
  | [d1, d2] => { results := [.lit (.bool true)], args := [d1, d2] }
  | _ => none }
def fnExactCountGatesRow : OpenClaim := { program := "ytjihlpebnhgepaa", sum := "ee891ef417b4941f866098248e05d2eeaedd8e187a889d70f460067c69991236", func := "loop.example/g00979/laws.FnExactCountGates", spec := "fnExactCountGates", apart := false }
def FnExactCountGatesSaid : Prop := fnExactCountGatesRow.holds Try.pinned (OpenSpec.ofChange fnExactCountGatesSpec)

/-- ITS FALSE NEIGHBOUR: 'it returns false'. Refute it at one input. -/
def fnExactCountGatesWrong : ChangeSpec := { name := "fnExactCountGates", fn := fun _ => fun
  | [d1, d2] => { results := [.lit (.bool false)], args := [d1, d2] }
  | _ => none }
def FnExactCountGatesWrongFalsely : Prop := fnExactCountGatesRow.holds Try.pinned (OpenSpec.ofChange fnExactCountGatesWrong)

/-- 'laws.FnExactAndDepth': WHATEVER THE INPUT: true; the input reads as it did. -/
def fnExactAndDepthSpec : ChangeSpec := { name := "fnExactAndDepth", fn := fun _ => fun
  | [d] => { results := [.lit (.bool true)], args := [d] }
  | _ => none }
def fnExactAndDepthRow : OpenClaim := { program := "ytjihlpebnhgepaa", sum := "ee891ef417b4941f866098248e05d2eeaedd8e187a889d70f460067c69991236", func := "loop.example/g00979/laws.FnExactAndDepth", spec := "fnExactAndDepth", apart := false }
def FnExactAndDepthSaid : Prop := fnExactAndDepthRow.holds Try.pinned (OpenSpec.ofChange fnExactAndDepthSpec)

/-- ITS FALSE NEIGHBOUR: 'it returns false'. Refute it at one input. -/
def fnExactAndDepthWrong : ChangeSpec := { name := "fnExactAndDepth", fn := fun _ => fun
  | [d] => { results := [.lit (.bool false)], args := [d] }
  | _ => none }
def FnExactAndDepthWrongFalsely : Prop := fnExactAndDepthRow.holds Try.pinned (OpenSpec.ofChange fnExactAndDepthWrong)

/- THE SECOND FORM. 'bulk': how many values and letters a reading holds, each counted each time it is reached (what is shared counts as often as it is met; a slice's spare places count too). A statement '..UptoSaid' is the law's where the arguments, and the package variables that the reading takes, are together of bulk at most 1048576: NARROWER than '..Said'. Prove '..Said' where nothing that the law and all that it calls make is longer than what came in: it says more and counts as full. Else prove '..UptoSaid'. A law counts once. -/
mutual
def uptoBulk {H : Type} : DataW H → Nat
  | .lit (.string bytes) => bytes.length + 1
  | .lit _ => 1
  | .nil => 1
  | .ptr d => uptoBulk d + 1
  | .slice elems spare => uptoBulkAll elems + uptoBulkAll spare + 1
  | .agg parts => uptoBulkAll parts + 1
  | .iface _ d => uptoBulk d + 1
  | .map entries => uptoBulkEntries entries + 1
  | .held _ => 1
def uptoBulkAll {H : Type} : List (DataW H) → Nat
  | [] => 0
  | d :: r => uptoBulk d + uptoBulkAll r
def uptoBulkEntries {H : Type} : List (Lit × DataW H) → Nat
  | [] => 0
  | x :: r => uptoBulkEntry x + uptoBulkEntries r
def uptoBulkEntry {H : Type} : Lit × DataW H → Nat
  | (.string bytes, d) => bytes.length + uptoBulk d + 1
  | (_, d) => uptoBulk d + 1
 end
def uptoSmall : (H : Type) → List (DataW H) → Bool := fun _ ds => decide (uptoBulkAll ds ≤ 1048576)
def OpenSpec.upto (s : _root_.Go.ChangeSpec) : _root_.Go.OpenSpec := { _root_.Go.OpenSpec.ofChange s with cond := some uptoSmall }

/-- 'laws.FnCircuits', WHERE WHAT IT READS IS OF BULK AT MOST 1048576: true; the input reads as it did. -/
def fnCircuitsUptoRow : OpenClaim := { program := "ytjihlpebnhgepaa", sum := "ee891ef417b4941f866098248e05d2eeaedd8e187a889d70f460067c69991236", func := "loop.example/g00979/laws.FnCircuits", spec := "fnCircuits", unfollowed := true, recurses := true, apart := false, narrowed := true }
def FnCircuitsUptoSaid : Prop := fnCircuitsUptoRow.holds Try.pinned (OpenSpec.upto fnCircuitsSpec)

/-- 'laws.FnFreeGates', WHERE WHAT IT READS IS OF BULK AT MOST 1048576: true; the input reads as it did. -/
def fnFreeGatesUptoRow : OpenClaim := { program := "ytjihlpebnhgepaa", sum := "ee891ef417b4941f866098248e05d2eeaedd8e187a889d70f460067c69991236", func := "loop.example/g00979/laws.FnFreeGates", spec := "fnFreeGates", apart := false, narrowed := true }
def FnFreeGatesUptoSaid : Prop := fnFreeGatesUptoRow.holds Try.pinned (OpenSpec.upto fnFreeGatesSpec)

/-- 'laws.FnExactGateOk', WHERE WHAT IT READS IS OF BULK AT MOST 1048576: true; the input reads as it did. -/
def fnExactGateOkUptoRow : OpenClaim := { program := "ytjihlpebnhgepaa", sum := "ee891ef417b4941f866098248e05d2eeaedd8e187a889d70f460067c69991236", func := "loop.example/g00979/laws.FnExactGateOk", spec := "fnExactGateOk", apart := false, narrowed := true }
def FnExactGateOkUptoSaid : Prop := fnExactGateOkUptoRow.holds Try.pinned (OpenSpec.upto fnExactGateOkSpec)

/-- 'laws.FnExactCircuitOk', WHERE WHAT IT READS IS OF BULK AT MOST 1048576: true; the input reads as it did. -/
def fnExactCircuitOkUptoRow : OpenClaim := { program := "ytjihlpebnhgepaa", sum := "ee891ef417b4941f866098248e05d2eeaedd8e187a889d70f460067c69991236", func := "loop.example/g00979/laws.FnExactCircuitOk", spec := "fnExactCircuitOk", apart := false, narrowed := true }
def FnExactCircuitOkUptoSaid : Prop := fnExactCircuitOkUptoRow.holds Try.pinned (OpenSpec.upto fnExactCircuitOkSpec)

/-- 'laws.FnExactEvalWires', WHERE WHAT IT READS IS OF BULK AT MOST 1048576: true; the input reads as it did. -/
def fnExactEvalWiresUptoRow : OpenClaim := { program := "ytjihlpebnhgepaa", sum := "ee891ef417b4941f866098248e05d2eeaedd8e187a889d70f460067c69991236", func := "loop.example/g00979/laws.FnExactEvalWires", spec := "fnExactEvalWires", unfollowed := true, recurses := true, apart := false, narrowed := true }
def FnExactEvalWiresUptoSaid : Prop := fnExactEvalWiresUptoRow.holds Try.pinned (OpenSpec.upto fnExactEvalWiresSpec)

/-- 'laws.FnExactEvalCircuit', WHERE WHAT IT READS IS OF BULK AT MOST 1048576: true; the input reads as it did. -/
def fnExactEvalCircuitUptoRow : OpenClaim := { program := "ytjihlpebnhgepaa", sum := "ee891ef417b4941f866098248e05d2eeaedd8e187a889d70f460067c69991236", func := "loop.example/g00979/laws.FnExactEvalCircuit", spec := "fnExactEvalCircuit", unfollowed := true, recurses := true, apart := false, narrowed := true }
def FnExactEvalCircuitUptoSaid : Prop := fnExactEvalCircuitUptoRow.holds Try.pinned (OpenSpec.upto fnExactEvalCircuitSpec)

/-- 'laws.FnExactCountGates', WHERE WHAT IT READS IS OF BULK AT MOST 1048576: true; the input reads as it did. -/
def fnExactCountGatesUptoRow : OpenClaim := { program := "ytjihlpebnhgepaa", sum := "ee891ef417b4941f866098248e05d2eeaedd8e187a889d70f460067c69991236", func := "loop.example/g00979/laws.FnExactCountGates", spec := "fnExactCountGates", apart := false, narrowed := true }
def FnExactCountGatesUptoSaid : Prop := fnExactCountGatesUptoRow.holds Try.pinned (OpenSpec.upto fnExactCountGatesSpec)

/-- 'laws.FnExactAndDepth', WHERE WHAT IT READS IS OF BULK AT MOST 1048576: true; the input reads as it did. -/
def fnExactAndDepthUptoRow : OpenClaim := { program := "ytjihlpebnhgepaa", sum := "ee891ef417b4941f866098248e05d2eeaedd8e187a889d70f460067c69991236", func := "loop.example/g00979/laws.FnExactAndDepth", spec := "fnExactAndDepth", apart := false, narrowed := true }
def FnExactAndDepthUptoSaid : Prop := fnExactAndDepthUptoRow.holds Try.pinned (OpenSpec.upto fnExactAndDepthSpec)

end Rows
end Go.Proofs.Ytjihlpebnhgepaa

/-
  No cell of these rows narrows 'for every input' (looked for: loops, veiled, ifaces, maps, wideKeys, modest, calm, conditions, laid).
  DERIVED. THE GIVEN ROWS OF THIS SEAT. 5 by the template 'for every input the law returns true; each argument reads behind the call as it read before'; 0 by the template 'total and deterministic' (their statements: YtklmhkckhdmelaaTotals.lean).
  GIVEN WITH THE SEED: the statements are not yours to turn. If you find one false, say at which input.
  Laid BY PROGRAM, IN A SANDBOX (cutbox-rows.mjs): the forced cells as the released guide's own fill.sh prints them over the translation bc393728fb5ff1cd… (all of the seat's roots in one cut). By AI agents, Wed Nov 11 2026. No macro, syntax, notation, axiom, sorry.
-/
import Derived.Test.YtklmhkckhdmelaaChecked
import GoSem.Claim
import GoSem.ClaimJoined
import GoSem.ClaimMapViews
import Derived.JoinedTies
import Derived.KernelRfl
namespace Go.Proofs.Ytklmhkckhdmelaa
/- THE CELL 'sum', in the pinned program and in every row, IS THE sha256 OF THE DUMP (.gsa) THAT YtklmhkckhdmelaaProg.lean LOADS. Nothing in Lean hashes anything: it is a label: what it is worth is what the hold of that sum in a sandbox is worth. -/
noncomputable def Try.pinned : Pinned := { name := "ytklmhkckhdmelaa", sum := "bc393728fb5ff1cd0a82331755651c2a10af403985fe230efd65deb0636adeb0", checked := Try.checked }
namespace Rows
def none {H : Type} : Left H := { results := [], args := [] }

/-- 'laws.FnFlows': WHATEVER THE INPUT: true; the input reads as it did. -/
def fnFlowsSpec : ChangeSpec := { name := "fnFlows", fn := fun _ => fun
  | [d] => { results := [.lit (.bool true)], args := [d] }
  | _ => none }
def fnFlowsRow : OpenClaim := { program := "ytklmhkckhdmelaa", sum := "bc393728fb5ff1cd0a82331755651c2a10af403985fe230efd65deb0636adeb0", func := "loop.example/g00979/laws.FnFlows", spec := "fnFlows", unfollowed := true, recurses := true, apart := false }
def FnFlowsSaid : Prop := fnFlowsRow.holds Try.pinned (OpenSpec.ofChange fnFlowsSpec)

/-- ITS FALSE NEIGHBOUR: 'it returns false'. Refute it at one input. -/
def fnFlowsWrong : ChangeSpec := { name := "fnFlows", fn := fun _ => fun
  | [d] => { results := [.lit (.bool false)], args := [d] }
  | _ => none }
def FnFlowsWrongFalsely : Prop := fnFlowsRow.holds Try.pinned (OpenSpec.ofChange fnFlowsWrong)

/-- 'laws.FnExactFlowNew': WHATEVER THE INPUT: true; the input reads as it did. -/
def fnExactFlowNewSpec : ChangeSpec := { name := "fnExactFlowNew", fn := fun _ => fun
  | [] => { results := [.lit (.bool true)], args := [] }
  | _ => none }
def fnExactFlowNewRow : OpenClaim := { program := "ytklmhkckhdmelaa", sum := "bc393728fb5ff1cd0a82331755651c2a10af403985fe230efd65deb0636adeb0", func := "loop.example/g00979/laws.FnExactFlowNew", spec := "fnExactFlowNew", apart := false }
def FnExactFlowNewSaid : Prop := fnExactFlowNewRow.holds Try.pinned (OpenSpec.ofChange fnExactFlowNewSpec)

/-- ITS FALSE NEIGHBOUR: 'it returns false'. Refute it at one input. -/
def fnExactFlowNewWrong : ChangeSpec := { name := "fnExactFlowNew", fn := fun _ => fun
  | [] => { results := [.lit (.bool false)], args := [] }
  | _ => none }
def FnExactFlowNewWrongFalsely : Prop := fnExactFlowNewRow.holds Try.pinned (OpenSpec.ofChange fnExactFlowNewWrong)

/-- 'laws.FnExactFlowStep': WHATEVER THE INPUT: true; the input reads as it did. -/
def fnExactFlowStepSpec : ChangeSpec := { name := "fnExactFlowStep", fn := fun _ => fun
  | [d1, d2] => { results := [.lit (.bool true)], args := [d1, d2] }
  | _ => none }
def fnExactFlowStepRow : OpenClaim := { program := "ytklmhkckhdmelaa", sum := "bc393728fb5ff1cd0a82331755651c2a10af403985fe230efd65deb0636adeb0", func := "loop.example/g00979/laws.FnExactFlowStep", spec := "fnExactFlowStep", unfollowed := true, recurses := true, apart := false }
def FnExactFlowStepSaid : Prop := fnExactFlowStepRow.holds Try.pinned (OpenSpec.ofChange fnExactFlowStepSpec)

/-- ITS FALSE NEIGHBOUR: 'it returns false'. Refute it at one input. -/
def fnExactFlowStepWrong : ChangeSpec := { name := "fnExactFlowStep", fn := fun _ => fun
  | [d1, d2] => { results := [.lit (.bool false)], args := [d1, d2] }
  | _ => none }
def FnExactFlowStepWrongFalsely : Prop := fnExactFlowStepRow.holds Try.pinned (OpenSpec.ofChange fnExactFlowStepWrong)

/-- 'laws.FnExactOutputDeps': WHATEVER THE INPUT: true; the input reads as it did. -/
def fnExactOutputDepsSpec : ChangeSpec := { name := "fnExactOutputDeps", fn := fun _ => fun
  | [d] => { results := [.lit (.bool true)], args := [d] }
  | _ => none }
def fnExactOutputDepsRow : OpenClaim := { program := "ytklmhkckhdmelaa", sum := "bc393728fb5ff1cd0a82331755651c2a10af403985fe230efd65deb0636adeb0", func := "loop.example/g00979/laws.FnExactOutputDeps", spec := "fnExactOutputDeps", unfollowed := true, recurses := true, apart := false }
def FnExactOutputDepsSaid : Prop := fnExactOutputDepsRow.holds Try.pinned (OpenSpec.ofChange fnExactOutputDepsSpec)

/-- ITS FALSE NEIGHBOUR: 'it returns false'. Refute it at one input. -/
def fnExactOutputDepsWrong : ChangeSpec := { name := "fnExactOutputDeps", fn := fun _ => fun
  | [d] => { results := [.lit (.bool false)], args := [d] }
  | _ => none }
def FnExactOutputDepsWrongFalsely : Prop := fnExactOutputDepsRow.holds Try.pinned (OpenSpec.ofChange fnExactOutputDepsWrong)

/-- 'laws.FnExactFlowOk': WHATEVER THE INPUT: true; the input reads as it did. -/
def fnExactFlowOkSpec : ChangeSpec := { name := "fnExactFlowOk", fn := fun _ => fun
  | [d1, d2] => { results := [.lit (.bool true)], args := [d1, d2] }
  | _ => none }
def fnExactFlowOkRow : OpenClaim := { program := "ytklmhkckhdmelaa", sum := "bc393728fb5ff1cd0a82331755651c2a10af403985fe230efd65deb0636adeb0", func := "loop.example/g00979/laws.FnExactFlowOk", spec := "fnExactFlowOk", unfollowed := true, recurses := true, apart := false }
def FnExactFlowOkSaid : Prop := fnExactFlowOkRow.holds Try.pinned (OpenSpec.ofChange fnExactFlowOkSpec)

/-- ITS FALSE NEIGHBOUR: 'it returns false'. Refute it at one input. -/
def fnExactFlowOkWrong : ChangeSpec := { name := "fnExactFlowOk", fn := fun _ => fun
  | [d1, d2] => { results := [.lit (.bool false)], args := [d1, d2] }
  | _ => none }
def FnExactFlowOkWrongFalsely : Prop := fnExactFlowOkRow.holds Try.pinned (OpenSpec.ofChange fnExactFlowOkWrong)

/- THE SECOND FORM. 'bulk': how many values and letters a reading holds, each counted each time it is reached (what is shared counts as often as it is met; a slice's spare places count too). A statement '..UptoSaid' is the law's where the arguments, and the package variables that the reading takes, are together of bulk at most 1048576: NARROWER than '..Said'. Prove '..Said' where nothing that the law and all that it calls make is longer than what came in: it says more and counts as full. Else prove '..UptoSaid'. A law counts once. -/
mutual
def uptoBulk {H : Type} : DataW H → Nat
  | .lit (.string bytes) => bytes.length + 1
  | .lit _ => 1
  | .nil => 1
  | .ptr d => uptoBulk d + 1
  | .slice elems spare => uptoBulkAll elems + uptoBulkAll spare + 1
  | .agg parts => uptoBulkAll parts + 1
  | .iface _ d => uptoBulk d + 1
  | .map entries => uptoBulkEntries entries + 1
  | .held _ => 1
def uptoBulkAll {H : Type} : List (DataW H) → Nat
  | [] => 0
  | d :: r => uptoBulk d + uptoBulkAll r
def uptoBulkEntries {H : Type} : List (Lit × DataW H) → Nat
  | [] => 0
  | x :: r => uptoBulkEntry x + uptoBulkEntries r
def uptoBulkEntry {H : Type} : Lit × DataW H → Nat
  | (.string bytes, d) => bytes.length + uptoBulk d + 1
  | (_, d) => uptoBulk d + 1
 end
def uptoSmall : (H : Type) → List (DataW H) → Bool := fun _ ds => decide (uptoBulkAll ds ≤ 1048576)
def OpenSpec.upto (s : _root_.Go.ChangeSpec) : _root_.Go.OpenSpec := { _root_.Go.OpenSpec.ofChange s with cond := some uptoSmall }

/-- 'laws.FnFlows', WHERE WHAT IT READS IS OF BULK AT MOST 1048576: true; the input reads as it did. -/
def fnFlowsUptoRow : OpenClaim := { program := "ytklmhkckhdmelaa", sum := "bc393728fb5ff1cd0a82331755651c2a10af403985fe230efd65deb0636adeb0", func := "loop.example/g00979/laws.FnFlows", spec := "fnFlows", unfollowed := true, recurses := true, apart := false, narrowed := true }
def FnFlowsUptoSaid : Prop := fnFlowsUptoRow.holds Try.pinned (OpenSpec.upto fnFlowsSpec)

/-- 'laws.FnExactFlowNew', WHERE WHAT IT READS IS OF BULK AT MOST 1048576: true; the input reads as it did. -/
def fnExactFlowNewUptoRow : OpenClaim := { program := "ytklmhkckhdmelaa", sum := "bc393728fb5ff1cd0a82331755651c2a10af403985fe230efd65deb0636adeb0", func := "loop.example/g00979/laws.FnExactFlowNew", spec := "fnExactFlowNew", apart := false, narrowed := true }
def FnExactFlowNewUptoSaid : Prop := fnExactFlowNewUptoRow.holds Try.pinned (OpenSpec.upto fnExactFlowNewSpec)

/-- 'laws.FnExactFlowStep', WHERE WHAT IT READS IS OF BULK AT MOST 1048576: true; the input reads as it did. -/
def fnExactFlowStepUptoRow : OpenClaim := { program := "ytklmhkckhdmelaa", sum := "bc393728fb5ff1cd0a82331755651c2a10af403985fe230efd65deb0636adeb0", func := "loop.example/g00979/laws.FnExactFlowStep", spec := "fnExactFlowStep", unfollowed := true, recurses := true, apart := false, narrowed := true }
def FnExactFlowStepUptoSaid : Prop := fnExactFlowStepUptoRow.holds Try.pinned (OpenSpec.upto fnExactFlowStepSpec)

/-- 'laws.FnExactOutputDeps', WHERE WHAT IT READS IS OF BULK AT MOST 1048576: true; the input reads as it did. -/
def fnExactOutputDepsUptoRow : OpenClaim := { program := "ytklmhkckhdmelaa", sum := "bc393728fb5ff1cd0a82331755651c2a10af403985fe230efd65deb0636adeb0", func := "loop.example/g00979/laws.FnExactOutputDeps", spec := "fnExactOutputDeps", unfollowed := true, recurses := true, apart := false, narrowed := true }
def FnExactOutputDepsUptoSaid : Prop := fnExactOutputDepsUptoRow.holds Try.pinned (OpenSpec.upto fnExactOutputDepsSpec)

/-- 'laws.FnExactFlowOk', WHERE WHAT IT READS IS OF BULK AT MOST 1048576: true; the input reads as it did. -/
def fnExactFlowOkUptoRow : OpenClaim := { program := "ytklmhkckhdmelaa", sum := "bc393728fb5ff1cd0a82331755651c2a10af403985fe230efd65deb0636adeb0", func := "loop.example/g00979/laws.FnExactFlowOk", spec := "fnExactFlowOk", unfollowed := true, recurses := true, apart := false, narrowed := true }
def FnExactFlowOkUptoSaid : Prop := fnExactFlowOkUptoRow.holds Try.pinned (OpenSpec.upto fnExactFlowOkSpec)

end Rows
end Go.Proofs.Ytklmhkckhdmelaa

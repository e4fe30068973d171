/-
  No cell of these rows narrows 'for every input' (looked for: loops, veiled, ifaces, maps, wideKeys, modest, calm, conditions, laid).
  DERIVED. THE GIVEN ROWS OF THIS SEAT. 10 by the template 'for every input the law returns true; each argument reads behind the call as it read before'; 0 by the template 'total and deterministic' (their statements: YtlaidjibcpfnjaaTotals.lean).
  GIVEN WITH THE SEED: the statements are not yours to turn. If you find one false, say at which input.
  Laid BY PROGRAM, IN A SANDBOX (cutbox-rows.mjs): the forced cells as the released guide's own fill.sh prints them over the translation 4c0da57d45b1c12f… (all of the seat's roots in one cut). By AI agents, Wed Nov 11 2026. No macro, syntax, notation, axiom, sorry.
-/
import Derived.Test.YtlaidjibcpfnjaaChecked
import GoSem.Claim
import GoSem.ClaimJoined
import GoSem.ClaimMapViews
import Derived.JoinedTies
import Derived.KernelRfl
namespace Go.Proofs.Ytlaidjibcpfnjaa
/- THE CELL 'sum', in the pinned program and in every row, IS THE sha256 OF THE DUMP (.gsa) THAT YtlaidjibcpfnjaaProg.lean LOADS. Nothing in Lean hashes anything: it is a label: what it is worth is what the hold of that sum in a sandbox is worth. -/
noncomputable def Try.pinned : Pinned := { name := "ytlaidjibcpfnjaa", sum := "4c0da57d45b1c12f5a26eb27bc3677168e5e49fb0534fdfbd6535e0fa7bdd160", checked := Try.checked }
namespace Rows
def none {H : Type} : Left H := { results := [], args := [] }

/-- 'laws.FnNoninterference': WHATEVER THE INPUT: true; the input reads as it did. -/
def fnNoninterferenceSpec : ChangeSpec := { name := "fnNoninterference", fn := fun _ => fun
  | [d] => { results := [.lit (.bool true)], args := [d] }
  | _ => none }
def fnNoninterferenceRow : OpenClaim := { program := "ytlaidjibcpfnjaa", sum := "4c0da57d45b1c12f5a26eb27bc3677168e5e49fb0534fdfbd6535e0fa7bdd160", func := "loop.example/g00979/laws.FnNoninterference", spec := "fnNoninterference", unfollowed := true, recurses := true, apart := false }
def FnNoninterferenceSaid : Prop := fnNoninterferenceRow.holds Try.pinned (OpenSpec.ofChange fnNoninterferenceSpec)

/-- ITS FALSE NEIGHBOUR: 'it returns false'. Refute it at one input. -/
def fnNoninterferenceWrong : ChangeSpec := { name := "fnNoninterference", fn := fun _ => fun
  | [d] => { results := [.lit (.bool false)], args := [d] }
  | _ => none }
def FnNoninterferenceWrongFalsely : Prop := fnNoninterferenceRow.holds Try.pinned (OpenSpec.ofChange fnNoninterferenceWrong)

/-- 'laws.FnOperations': WHATEVER THE INPUT: true; the input reads as it did. -/
def fnOperationsSpec : ChangeSpec := { name := "fnOperations", fn := fun _ => fun
  | [d] => { results := [.lit (.bool true)], args := [d] }
  | _ => none }
def fnOperationsRow : OpenClaim := { program := "ytlaidjibcpfnjaa", sum := "4c0da57d45b1c12f5a26eb27bc3677168e5e49fb0534fdfbd6535e0fa7bdd160", func := "loop.example/g00979/laws.FnOperations", spec := "fnOperations", unfollowed := true, recurses := true, apart := false }
def FnOperationsSaid : Prop := fnOperationsRow.holds Try.pinned (OpenSpec.ofChange fnOperationsSpec)

/-- ITS FALSE NEIGHBOUR: 'it returns false'. Refute it at one input. -/
def fnOperationsWrong : ChangeSpec := { name := "fnOperations", fn := fun _ => fun
  | [d] => { results := [.lit (.bool false)], args := [d] }
  | _ => none }
def FnOperationsWrongFalsely : Prop := fnOperationsRow.holds Try.pinned (OpenSpec.ofChange fnOperationsWrong)

/-- 'laws.FnSteps': WHATEVER THE INPUT: true; the input reads as it did. -/
def fnStepsSpec : ChangeSpec := { name := "fnSteps", fn := fun _ => fun
  | [d] => { results := [.lit (.bool true)], args := [d] }
  | _ => none }
def fnStepsRow : OpenClaim := { program := "ytlaidjibcpfnjaa", sum := "4c0da57d45b1c12f5a26eb27bc3677168e5e49fb0534fdfbd6535e0fa7bdd160", func := "loop.example/g00979/laws.FnSteps", spec := "fnSteps", unfollowed := true, recurses := true, apart := false }
def FnStepsSaid : Prop := fnStepsRow.holds Try.pinned (OpenSpec.ofChange fnStepsSpec)

/-- ITS FALSE NEIGHBOUR: 'it returns false'. Refute it at one input. -/
def fnStepsWrong : ChangeSpec := { name := "fnSteps", fn := fun _ => fun
  | [d] => { results := [.lit (.bool false)], args := [d] }
  | _ => none }
def FnStepsWrongFalsely : Prop := fnStepsRow.holds Try.pinned (OpenSpec.ofChange fnStepsWrong)

/-- 'laws.FnLoopRuns': WHATEVER THE INPUT: true; the input reads as it did. -/
def fnLoopRunsSpec : ChangeSpec := { name := "fnLoopRuns", fn := fun _ => fun
  | [d] => { results := [.lit (.bool true)], args := [d] }
  | _ => none }
def fnLoopRunsRow : OpenClaim := { program := "ytlaidjibcpfnjaa", sum := "4c0da57d45b1c12f5a26eb27bc3677168e5e49fb0534fdfbd6535e0fa7bdd160", func := "loop.example/g00979/laws.FnLoopRuns", spec := "fnLoopRuns", unfollowed := true, recurses := true, apart := false }
def FnLoopRunsSaid : Prop := fnLoopRunsRow.holds Try.pinned (OpenSpec.ofChange fnLoopRunsSpec)

/-- ITS FALSE NEIGHBOUR: 'it returns false'. Refute it at one input. -/
def fnLoopRunsWrong : ChangeSpec := { name := "fnLoopRuns", fn := fun _ => fun
  | [d] => { results := [.lit (.bool false)], args := [d] }
  | _ => none }
def FnLoopRunsWrongFalsely : Prop := fnLoopRunsRow.holds Try.pinned (OpenSpec.ofChange fnLoopRunsWrong)

/-- 'laws.FnExactStateNew': WHATEVER THE INPUT: true; the input reads as it did. -/
def fnExactStateNewSpec : ChangeSpec := { name := "fnExactStateNew", fn := fun _ => fun
  | [] => { results := [.lit (.bool true)], args := [] }
  | _ => none }
def fnExactStateNewRow : OpenClaim := { program := "ytlaidjibcpfnjaa", sum := "4c0da57d45b1c12f5a26eb27bc3677168e5e49fb0534fdfbd6535e0fa7bdd160", func := "loop.example/g00979/laws.FnExactStateNew", spec := "fnExactStateNew", apart := false }
def FnExactStateNewSaid : Prop := fnExactStateNewRow.holds Try.pinned (OpenSpec.ofChange fnExactStateNewSpec)

/-- ITS FALSE NEIGHBOUR: 'it returns false'. Refute it at one input. -/
def fnExactStateNewWrong : ChangeSpec := { name := "fnExactStateNew", fn := fun _ => fun
  | [] => { results := [.lit (.bool false)], args := [] }
  | _ => none }
def FnExactStateNewWrongFalsely : Prop := fnExactStateNewRow.holds Try.pinned (OpenSpec.ofChange fnExactStateNewWrong)

/-- 'laws.FnExactStateOk': WHATEVER THE INPUT: true; the input reads as it did. -/
def fnExactStateOkSpec : ChangeSpec := { name := "fnExactStateOk", fn := fun _ => fun
  | [d] => { results := [.lit (.bool true)], args := [d] }
  | _ => none }
def fnExactStateOkRow : OpenClaim := { program := "ytlaidjibcpfnjaa", sum := "4c0da57d45b1c12f5a26eb27bc3677168e5e49fb0534fdfbd6535e0fa7bdd160", func := "loop.example/g00979/laws.FnExactStateOk", spec := "fnExactStateOk", unfollowed := true, recurses := true, apart := false }
def FnExactStateOkSaid : Prop := fnExactStateOkRow.holds Try.pinned (OpenSpec.ofChange fnExactStateOkSpec)

/-- ITS FALSE NEIGHBOUR: 'it returns false'. Refute it at one input. -/
def fnExactStateOkWrong : ChangeSpec := { name := "fnExactStateOk", fn := fun _ => fun
  | [d] => { results := [.lit (.bool false)], args := [d] }
  | _ => none }
def FnExactStateOkWrongFalsely : Prop := fnExactStateOkRow.holds Try.pinned (OpenSpec.ofChange fnExactStateOkWrong)

/-- 'laws.FnExactInputsOk': WHATEVER THE INPUT: true; the input reads as it did. -/
def fnExactInputsOkSpec : ChangeSpec := { name := "fnExactInputsOk", fn := fun _ => fun
  | [d] => { results := [.lit (.bool true)], args := [d] }
  | _ => none }
def fnExactInputsOkRow : OpenClaim := { program := "ytlaidjibcpfnjaa", sum := "4c0da57d45b1c12f5a26eb27bc3677168e5e49fb0534fdfbd6535e0fa7bdd160", func := "loop.example/g00979/laws.FnExactInputsOk", spec := "fnExactInputsOk", unfollowed := true, recurses := true, apart := false }
def FnExactInputsOkSaid : Prop := fnExactInputsOkRow.holds Try.pinned (OpenSpec.ofChange fnExactInputsOkSpec)

/-- ITS FALSE NEIGHBOUR: 'it returns false'. Refute it at one input. -/
def fnExactInputsOkWrong : ChangeSpec := { name := "fnExactInputsOk", fn := fun _ => fun
  | [d] => { results := [.lit (.bool false)], args := [d] }
  | _ => none }
def FnExactInputsOkWrongFalsely : Prop := fnExactInputsOkRow.holds Try.pinned (OpenSpec.ofChange fnExactInputsOkWrong)

/-- 'laws.FnExactStepState': WHATEVER THE INPUT: true; the input reads as it did. -/
def fnExactStepStateSpec : ChangeSpec := { name := "fnExactStepState", fn := fun _ => fun
  | [d1, d2, d3] => { results := [.lit (.bool true)], args := [d1, d2, d3] }
  | _ => none }
def fnExactStepStateRow : OpenClaim := { program := "ytlaidjibcpfnjaa", sum := "4c0da57d45b1c12f5a26eb27bc3677168e5e49fb0534fdfbd6535e0fa7bdd160", func := "loop.example/g00979/laws.FnExactStepState", spec := "fnExactStepState", unfollowed := true, recurses := true, apart := false }
def FnExactStepStateSaid : Prop := fnExactStepStateRow.holds Try.pinned (OpenSpec.ofChange fnExactStepStateSpec)

/-- ITS FALSE NEIGHBOUR: 'it returns false'. Refute it at one input. -/
def fnExactStepStateWrong : ChangeSpec := { name := "fnExactStepState", fn := fun _ => fun
  | [d1, d2, d3] => { results := [.lit (.bool false)], args := [d1, d2, d3] }
  | _ => none }
def FnExactStepStateWrongFalsely : Prop := fnExactStepStateRow.holds Try.pinned (OpenSpec.ofChange fnExactStepStateWrong)

/-- 'laws.FnExactRunProgram': WHATEVER THE INPUT: true; the input reads as it did. -/
def fnExactRunProgramSpec : ChangeSpec := { name := "fnExactRunProgram", fn := fun _ => fun
  | [d1, d2] => { results := [.lit (.bool true)], args := [d1, d2] }
  | _ => none }
def fnExactRunProgramRow : OpenClaim := { program := "ytlaidjibcpfnjaa", sum := "4c0da57d45b1c12f5a26eb27bc3677168e5e49fb0534fdfbd6535e0fa7bdd160", func := "loop.example/g00979/laws.FnExactRunProgram", spec := "fnExactRunProgram", unfollowed := true, recurses := true, apart := false }
def FnExactRunProgramSaid : Prop := fnExactRunProgramRow.holds Try.pinned (OpenSpec.ofChange fnExactRunProgramSpec)

/-- ITS FALSE NEIGHBOUR: 'it returns false'. Refute it at one input. -/
def fnExactRunProgramWrong : ChangeSpec := { name := "fnExactRunProgram", fn := fun _ => fun
  | [d1, d2] => { results := [.lit (.bool false)], args := [d1, d2] }
  | _ => none }
def FnExactRunProgramWrongFalsely : Prop := fnExactRunProgramRow.holds Try.pinned (OpenSpec.ofChange fnExactRunProgramWrong)

/-- 'laws.FnExactOperate': WHATEVER THE INPUT: true; the input reads as it did. -/
def fnExactOperateSpec : ChangeSpec := { name := "fnExactOperate", fn := fun _ => fun
  | [d1, d2, d3] => { results := [.lit (.bool true)], args := [d1, d2, d3] }
  | _ => none }
def fnExactOperateRow : OpenClaim := { program := "ytlaidjibcpfnjaa", sum := "4c0da57d45b1c12f5a26eb27bc3677168e5e49fb0534fdfbd6535e0fa7bdd160", func := "loop.example/g00979/laws.FnExactOperate", spec := "fnExactOperate", unfollowed := true, recurses := true, apart := false }
def FnExactOperateSaid : Prop := fnExactOperateRow.holds Try.pinned (OpenSpec.ofChange fnExactOperateSpec)

/-- ITS FALSE NEIGHBOUR: 'it returns false'. Refute it at one input. -/
def fnExactOperateWrong : ChangeSpec := { name := "fnExactOperate", fn := fun _ => fun
  | [d1, d2, d3] => { results := [.lit (.bool false)], args := [d1, d2, d3] }
  | _ => none }
def FnExactOperateWrongFalsely : Prop := fnExactOperateRow.holds Try.pinned (OpenSpec.ofChange fnExactOperateWrong)

/- THE SECOND FORM. 'bulk': how many values and letters a reading holds, each counted each time it is reached (what is shared counts as often as it is met; a slice's spare places count too). A statement '..UptoSaid' is the law's where the arguments, and the package variables that the reading takes, are together of bulk at most 1048576: NARROWER than '..Said'. Prove '..Said' where nothing that the law and all that it calls make is longer than what came in: it says more and counts as full. Else prove '..UptoSaid'. A law counts once. -/
mutual
def uptoBulk {H : Type} : DataW H → Nat
  | .lit (.string bytes) => bytes.length + 1
  | .lit _ => 1
  | .nil => 1
  | .ptr d => uptoBulk d + 1
  | .slice elems spare => uptoBulkAll elems + uptoBulkAll spare + 1
  | .agg parts => uptoBulkAll parts + 1
  | .iface _ d => uptoBulk d + 1
  | .map entries => uptoBulkEntries entries + 1
  | .held _ => 1
def uptoBulkAll {H : Type} : List (DataW H) → Nat
  | [] => 0
  | d :: r => uptoBulk d + uptoBulkAll r
def uptoBulkEntries {H : Type} : List (Lit × DataW H) → Nat
  | [] => 0
  | x :: r => uptoBulkEntry x + uptoBulkEntries r
def uptoBulkEntry {H : Type} : Lit × DataW H → Nat
  | (.string bytes, d) => bytes.length + uptoBulk d + 1
  | (_, d) => uptoBulk d + 1
 end
def uptoSmall : (H : Type) → List (DataW H) → Bool := fun _ ds => decide (uptoBulkAll ds ≤ 1048576)
def OpenSpec.upto (s : _root_.Go.ChangeSpec) : _root_.Go.OpenSpec := { _root_.Go.OpenSpec.ofChange s with cond := some uptoSmall }

/-- 'laws.FnNoninterference', WHERE WHAT IT READS IS OF BULK AT MOST 1048576: true; the input reads as it did. -/
def fnNoninterferenceUptoRow : OpenClaim := { program := "ytlaidjibcpfnjaa", sum := "4c0da57d45b1c12f5a26eb27bc3677168e5e49fb0534fdfbd6535e0fa7bdd160", func := "loop.example/g00979/laws.FnNoninterference", spec := "fnNoninterference", unfollowed := true, recurses := true, apart := false, narrowed := true }
def FnNoninterferenceUptoSaid : Prop := fnNoninterferenceUptoRow.holds Try.pinned (OpenSpec.upto fnNoninterferenceSpec)

/-- 'laws.FnOperations', WHERE WHAT IT READS IS OF BULK AT MOST 1048576: true; the input reads as it did. -/
def fnOperationsUptoRow : OpenClaim := { program := "ytlaidjibcpfnjaa", sum := "4c0da57d45b1c12f5a26eb27bc3677168e5e49fb0534fdfbd6535e0fa7bdd160", func := "loop.example/g00979/laws.FnOperations", spec := "fnOperations", unfollowed := true, recurses := true, apart := false, narrowed := true }
def FnOperationsUptoSaid : Prop := fnOperationsUptoRow.holds Try.pinned (OpenSpec.upto fnOperationsSpec)

/-- 'laws.FnSteps', WHERE WHAT IT READS IS OF BULK AT MOST 1048576: true; the input reads as it did. -/
def fnStepsUptoRow : OpenClaim := { program := "ytlaidjibcpfnjaa", sum := "4c0da57d45b1c12f5a26eb27bc3677168e5e49fb0534fdfbd6535e0fa7bdd160", func := "loop.example/g00979/laws.FnSteps", spec := "fnSteps", unfollowed := true, recurses := true, apart := false, narrowed := true }
def FnStepsUptoSaid : Prop := fnStepsUptoRow.holds Try.pinned (OpenSpec.upto fnStepsSpec)

/-- 'laws.FnLoopRuns', WHERE WHAT IT READS IS OF BULK AT MOST 1048576: true; the input reads as it did. -/
def fnLoopRunsUptoRow : OpenClaim := { program := "ytlaidjibcpfnjaa", sum := "4c0da57d45b1c12f5a26eb27bc3677168e5e49fb0534fdfbd6535e0fa7bdd160", func := "loop.example/g00979/laws.FnLoopRuns", spec := "fnLoopRuns", unfollowed := true, recurses := true, apart := false, narrowed := true }
def FnLoopRunsUptoSaid : Prop := fnLoopRunsUptoRow.holds Try.pinned (OpenSpec.upto fnLoopRunsSpec)

/-- 'laws.FnExactStateNew', WHERE WHAT IT READS IS OF BULK AT MOST 1048576: true; the input reads as it did. -/
def fnExactStateNewUptoRow : OpenClaim := { program := "ytlaidjibcpfnjaa", sum := "4c0da57d45b1c12f5a26eb27bc3677168e5e49fb0534fdfbd6535e0fa7bdd160", func := "loop.example/g00979/laws.FnExactStateNew", spec := "fnExactStateNew", apart := false, narrowed := true }
def FnExactStateNewUptoSaid : Prop := fnExactStateNewUptoRow.holds Try.pinned (OpenSpec.upto fnExactStateNewSpec)

/-- 'laws.FnExactStateOk', WHERE WHAT IT READS IS OF BULK AT MOST 1048576: true; the input reads as it did. -/
def fnExactStateOkUptoRow : OpenClaim := { program := "ytlaidjibcpfnjaa", sum := "4c0da57d45b1c12f5a26eb27bc3677168e5e49fb0534fdfbd6535e0fa7bdd160", func := "loop.example/g00979/laws.FnExactStateOk", spec := "fnExactStateOk", unfollowed := true, recurses := true, apart := false, narrowed := true }
def FnExactStateOkUptoSaid : Prop := fnExactStateOkUptoRow.holds Try.pinned (OpenSpec.upto fnExactStateOkSpec)

/-- 'laws.FnExactInputsOk', WHERE WHAT IT READS IS OF BULK AT MOST 1048576: true; the input reads as it did. -/
def fnExactInputsOkUptoRow : OpenClaim := { program := "ytlaidjibcpfnjaa", sum := "4c0da57d45b1c12f5a26eb27bc3677168e5e49fb0534fdfbd6535e0fa7bdd160", func := "loop.example/g00979/laws.FnExactInputsOk", spec := "fnExactInputsOk", unfollowed := true, recurses := true, apart := false, narrowed := true }
def FnExactInputsOkUptoSaid : Prop := fnExactInputsOkUptoRow.holds Try.pinned (OpenSpec.upto fnExactInputsOkSpec)

/-- 'laws.FnExactStepState', WHERE WHAT IT READS IS OF BULK AT MOST 1048576: true; the input reads as it did. -/
def fnExactStepStateUptoRow : OpenClaim := { program := "ytlaidjibcpfnjaa", sum := "4c0da57d45b1c12f5a26eb27bc3677168e5e49fb0534fdfbd6535e0fa7bdd160", func := "loop.example/g00979/laws.FnExactStepState", spec := "fnExactStepState", unfollowed := true, recurses := true, apart := false, narrowed := true }
def FnExactStepStateUptoSaid : Prop := fnExactStepStateUptoRow.holds Try.pinned (OpenSpec.upto fnExactStepStateSpec)

/-- 'laws.FnExactRunProgram', WHERE WHAT IT READS IS OF BULK AT MOST 1048576: true; the input reads as it did. -/
def fnExactRunProgramUptoRow : OpenClaim := { program := "ytlaidjibcpfnjaa", sum := "4c0da57d45b1c12f5a26eb27bc3677168e5e49fb0534fdfbd6535e0fa7bdd160", func := "loop.example/g00979/laws.FnExactRunProgram", spec := "fnExactRunProgram", unfollowed := true, recurses := true, apart := false, narrowed := true }
def FnExactRunProgramUptoSaid : Prop := fnExactRunProgramUptoRow.holds Try.pinned (OpenSpec.upto fnExactRunProgramSpec)

/-- 'laws.FnExactOperate', WHERE WHAT IT READS IS OF BULK AT MOST 1048576: true; the input reads as it did. -/
def fnExactOperateUptoRow : OpenClaim := { program := "ytlaidjibcpfnjaa", sum := "4c0da57d45b1c12f5a26eb27bc3677168e5e49fb0534fdfbd6535e0fa7bdd160", func := "loop.example/g00979/laws.FnExactOperate", spec := "fnExactOperate", unfollowed := true, recurses := true, apart := false, narrowed := true }
def FnExactOperateUptoSaid : Prop := fnExactOperateUptoRow.holds Try.pinned (OpenSpec.upto fnExactOperateSpec)

end Rows
end Go.Proofs.Ytlaidjibcpfnjaa

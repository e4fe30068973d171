/-
  No cell of these rows narrows 'for every input' (looked for: loops, veiled, ifaces, maps, wideKeys, modest, calm, conditions, laid).
  DERIVED. THE GIVEN ROWS OF THIS SEAT. 7 by the template 'for every input the law returns true; each argument reads behind the call as it read before'; 0 by the template 'total and deterministic' (their statements: YtedfblgopmiheaaTotals.lean).
  GIVEN WITH THE SEED: the statements are not yours to turn. If you find one false, say at which input.
  Laid BY PROGRAM, IN A SANDBOX (cutbox-rows.mjs): the forced cells as the released guide's own fill.sh prints them over the translation 496b41bac9254392… (all of the seat's roots in one cut). By AI agents, Wed Nov 11 2026. No macro, syntax, notation, axiom, sorry.
-/
import Derived.Test.YtedfblgopmiheaaChecked
import GoSem.Claim
import GoSem.ClaimJoined
import GoSem.ClaimMapViews
import Derived.JoinedTies
import Derived.KernelRfl
namespace Go.Proofs.Ytedfblgopmiheaa
/- THE CELL 'sum', in the pinned program and in every row, IS THE sha256 OF THE DUMP (.gsa) THAT YtedfblgopmiheaaProg.lean LOADS. Nothing in Lean hashes anything: it is a label: what it is worth is what the hold of that sum in a sandbox is worth. -/
noncomputable def Try.pinned : Pinned := { name := "ytedfblgopmiheaa", sum := "496b41bac925439214211c54033f2db5cd049808be8a8e37febb2192fe306567", checked := Try.checked }
namespace Rows
def none {H : Type} : Left H := { results := [], args := [] }

/-- 'laws.FnCommitted': WHATEVER THE INPUT: true; the input reads as it did. -/
def fnCommittedSpec : ChangeSpec := { name := "fnCommitted", fn := fun _ => fun
  | [d] => { results := [.lit (.bool true)], args := [d] }
  | _ => none }
def fnCommittedRow : OpenClaim := { program := "ytedfblgopmiheaa", sum := "496b41bac925439214211c54033f2db5cd049808be8a8e37febb2192fe306567", func := "loop.example/g00979/laws.FnCommitted", spec := "fnCommitted", apart := false }
def FnCommittedSaid : Prop := fnCommittedRow.holds Try.pinned (OpenSpec.ofChange fnCommittedSpec)

/-- ITS FALSE NEIGHBOUR: 'it returns false'. Refute it at one input. -/
def fnCommittedWrong : ChangeSpec := { name := "fnCommitted", fn := fun _ => fun
  | [d] => { results := [.lit (.bool false)], args := [d] }
  | _ => none }
def FnCommittedWrongFalsely : Prop := fnCommittedRow.holds Try.pinned (OpenSpec.ofChange fnCommittedWrong)

/-- 'laws.FnTossed': WHATEVER THE INPUT: true; the input reads as it did. -/
def fnTossedSpec : ChangeSpec := { name := "fnTossed", fn := fun _ => fun
  | [d] => { results := [.lit (.bool true)], args := [d] }
  | _ => none }
def fnTossedRow : OpenClaim := { program := "ytedfblgopmiheaa", sum := "496b41bac925439214211c54033f2db5cd049808be8a8e37febb2192fe306567", func := "loop.example/g00979/laws.FnTossed", spec := "fnTossed", apart := false }
def FnTossedSaid : Prop := fnTossedRow.holds Try.pinned (OpenSpec.ofChange fnTossedSpec)

/-- ITS FALSE NEIGHBOUR: 'it returns false'. Refute it at one input. -/
def fnTossedWrong : ChangeSpec := { name := "fnTossed", fn := fun _ => fun
  | [d] => { results := [.lit (.bool false)], args := [d] }
  | _ => none }
def FnTossedWrongFalsely : Prop := fnTossedRow.holds Try.pinned (OpenSpec.ofChange fnTossedWrong)

/-- 'laws.FnExactCommit': WHATEVER THE INPUT: true; the input reads as it did. -/
def fnExactCommitSpec : ChangeSpec := { name := "fnExactCommit", fn := fun _ => fun
  | [d1, d2] => { results := [.lit (.bool true)], args := [d1, d2] }
  | _ => none }
def fnExactCommitRow : OpenClaim := { program := "ytedfblgopmiheaa", sum := "496b41bac925439214211c54033f2db5cd049808be8a8e37febb2192fe306567", func := "loop.example/g00979/laws.FnExactCommit", spec := "fnExactCommit", apart := false }
def FnExactCommitSaid : Prop := fnExactCommitRow.holds Try.pinned (OpenSpec.ofChange fnExactCommitSpec)

/-- ITS FALSE NEIGHBOUR: 'it returns false'. Refute it at one input. -/
def fnExactCommitWrong : ChangeSpec := { name := "fnExactCommit", fn := fun _ => fun
  | [d1, d2] => { results := [.lit (.bool false)], args := [d1, d2] }
  | _ => none }
def FnExactCommitWrongFalsely : Prop := fnExactCommitRow.holds Try.pinned (OpenSpec.ofChange fnExactCommitWrong)

/-- 'laws.FnExactOpenOk': WHATEVER THE INPUT: true; the input reads as it did. -/
def fnExactOpenOkSpec : ChangeSpec := { name := "fnExactOpenOk", fn := fun _ => fun
  | [d1, d2, d3] => { results := [.lit (.bool true)], args := [d1, d2, d3] }
  | _ => none }
def fnExactOpenOkRow : OpenClaim := { program := "ytedfblgopmiheaa", sum := "496b41bac925439214211c54033f2db5cd049808be8a8e37febb2192fe306567", func := "loop.example/g00979/laws.FnExactOpenOk", spec := "fnExactOpenOk", apart := false }
def FnExactOpenOkSaid : Prop := fnExactOpenOkRow.holds Try.pinned (OpenSpec.ofChange fnExactOpenOkSpec)

/-- ITS FALSE NEIGHBOUR: 'it returns false'. Refute it at one input. -/
def fnExactOpenOkWrong : ChangeSpec := { name := "fnExactOpenOk", fn := fun _ => fun
  | [d1, d2, d3] => { results := [.lit (.bool false)], args := [d1, d2, d3] }
  | _ => none }
def FnExactOpenOkWrongFalsely : Prop := fnExactOpenOkRow.holds Try.pinned (OpenSpec.ofChange fnExactOpenOkWrong)

/-- 'laws.FnExactTossNew': WHATEVER THE INPUT: true; the input reads as it did. -/
def fnExactTossNewSpec : ChangeSpec := { name := "fnExactTossNew", fn := fun _ => fun
  | [d1, d2] => { results := [.lit (.bool true)], args := [d1, d2] }
  | _ => none }
def fnExactTossNewRow : OpenClaim := { program := "ytedfblgopmiheaa", sum := "496b41bac925439214211c54033f2db5cd049808be8a8e37febb2192fe306567", func := "loop.example/g00979/laws.FnExactTossNew", spec := "fnExactTossNew", apart := false }
def FnExactTossNewSaid : Prop := fnExactTossNewRow.holds Try.pinned (OpenSpec.ofChange fnExactTossNewSpec)

/-- ITS FALSE NEIGHBOUR: 'it returns false'. Refute it at one input. -/
def fnExactTossNewWrong : ChangeSpec := { name := "fnExactTossNew", fn := fun _ => fun
  | [d1, d2] => { results := [.lit (.bool false)], args := [d1, d2] }
  | _ => none }
def FnExactTossNewWrongFalsely : Prop := fnExactTossNewRow.holds Try.pinned (OpenSpec.ofChange fnExactTossNewWrong)

/-- 'laws.FnExactTossCheat': WHATEVER THE INPUT: true; the input reads as it did. -/
def fnExactTossCheatSpec : ChangeSpec := { name := "fnExactTossCheat", fn := fun _ => fun
  | [d] => { results := [.lit (.bool true)], args := [d] }
  | _ => none }
def fnExactTossCheatRow : OpenClaim := { program := "ytedfblgopmiheaa", sum := "496b41bac925439214211c54033f2db5cd049808be8a8e37febb2192fe306567", func := "loop.example/g00979/laws.FnExactTossCheat", spec := "fnExactTossCheat", apart := false }
def FnExactTossCheatSaid : Prop := fnExactTossCheatRow.holds Try.pinned (OpenSpec.ofChange fnExactTossCheatSpec)

/-- ITS FALSE NEIGHBOUR: 'it returns false'. Refute it at one input. -/
def fnExactTossCheatWrong : ChangeSpec := { name := "fnExactTossCheat", fn := fun _ => fun
  | [d] => { results := [.lit (.bool false)], args := [d] }
  | _ => none }
def FnExactTossCheatWrongFalsely : Prop := fnExactTossCheatRow.holds Try.pinned (OpenSpec.ofChange fnExactTossCheatWrong)

/-- 'laws.FnExactTossCoin': WHATEVER THE INPUT: true; the input reads as it did. -/
def fnExactTossCoinSpec : ChangeSpec := { name := "fnExactTossCoin", fn := fun _ => fun
  | [d] => { results := [.lit (.bool true)], args := [d] }
  | _ => none }
def fnExactTossCoinRow : OpenClaim := { program := "ytedfblgopmiheaa", sum := "496b41bac925439214211c54033f2db5cd049808be8a8e37febb2192fe306567", func := "loop.example/g00979/laws.FnExactTossCoin", spec := "fnExactTossCoin", apart := false }
def FnExactTossCoinSaid : Prop := fnExactTossCoinRow.holds Try.pinned (OpenSpec.ofChange fnExactTossCoinSpec)

/-- ITS FALSE NEIGHBOUR: 'it returns false'. Refute it at one input. -/
def fnExactTossCoinWrong : ChangeSpec := { name := "fnExactTossCoin", fn := fun _ => fun
  | [d] => { results := [.lit (.bool false)], args := [d] }
  | _ => none }
def FnExactTossCoinWrongFalsely : Prop := fnExactTossCoinRow.holds Try.pinned (OpenSpec.ofChange fnExactTossCoinWrong)

/- THE SECOND FORM. 'bulk': how many values and letters a reading holds, each counted each time it is reached (what is shared counts as often as it is met; a slice's spare places count too). A statement '..UptoSaid' is the law's where the arguments, and the package variables that the reading takes, are together of bulk at most 1048576: NARROWER than '..Said'. Prove '..Said' where nothing that the law and all that it calls make is longer than what came in: it says more and counts as full. Else prove '..UptoSaid'. A law counts once. -/
mutual
def uptoBulk {H : Type} : DataW H → Nat
  | .lit (.string bytes) => bytes.length + 1
  | .lit _ => 1
  | .nil => 1
  | .ptr d => uptoBulk d + 1
  | .slice elems spare => uptoBulkAll elems + uptoBulkAll spare + 1
  | .agg parts => uptoBulkAll parts + 1
  | .iface _ d => uptoBulk d + 1
  | .map entries => uptoBulkEntries entries + 1
  | .held _ => 1
def uptoBulkAll {H : Type} : List (DataW H) → Nat
  | [] => 0
  | d :: r => uptoBulk d + uptoBulkAll r
def uptoBulkEntries {H : Type} : List (Lit × DataW H) → Nat
  | [] => 0
  | x :: r => uptoBulkEntry x + uptoBulkEntries r
def uptoBulkEntry {H : Type} : Lit × DataW H → Nat
  | (.string bytes, d) => bytes.length + uptoBulk d + 1
  | (_, d) => uptoBulk d + 1
 end
def uptoSmall : (H : Type) → List (DataW H) → Bool := fun _ ds => decide (uptoBulkAll ds ≤ 1048576)
def OpenSpec.upto (s : _root_.Go.ChangeSpec) : _root_.Go.OpenSpec := { _root_.Go.OpenSpec.ofChange s with cond := some uptoSmall }

/-- 'laws.FnCommitted', WHERE WHAT IT READS IS OF BULK AT MOST 1048576: true; the input reads as it did. -/
def fnCommittedUptoRow : OpenClaim := { program := "ytedfblgopmiheaa", sum := "496b41bac925439214211c54033f2db5cd049808be8a8e37febb2192fe306567", func := "loop.example/g00979/laws.FnCommitted", spec := "fnCommitted", apart := false, narrowed := true }
def FnCommittedUptoSaid : Prop := fnCommittedUptoRow.holds Try.pinned (OpenSpec.upto fnCommittedSpec)

/-- 'laws.FnTossed', WHERE WHAT IT READS IS OF BULK AT MOST 1048576: true; the input reads as it did. -/
def fnTossedUptoRow : OpenClaim := { program := "ytedfblgopmiheaa", sum := "496b41bac925439214211c54033f2db5cd049808be8a8e37febb2192fe306567", func := "loop.example/g00979/laws.FnTossed", spec := "fnTossed", apart := false, narrowed := true }
def FnTossedUptoSaid : Prop := fnTossedUptoRow.holds Try.pinned (OpenSpec.upto fnTossedSpec)

/-- 'laws.FnExactCommit', WHERE WHAT IT READS IS OF BULK AT MOST 1048576: true; the input reads as it did. -/
def fnExactCommitUptoRow : OpenClaim := { program := "ytedfblgopmiheaa", sum := "496b41bac925439214211c54033f2db5cd049808be8a8e37febb2192fe306567", func := "loop.example/g00979/laws.FnExactCommit", spec := "fnExactCommit", apart := false, narrowed := true }
def FnExactCommitUptoSaid : Prop := fnExactCommitUptoRow.holds Try.pinned (OpenSpec.upto fnExactCommitSpec)

/-- 'laws.FnExactOpenOk', WHERE WHAT IT READS IS OF BULK AT MOST 1048576: true; the input reads as it did. -/
def fnExactOpenOkUptoRow : OpenClaim := { program := "ytedfblgopmiheaa", sum := "496b41bac925439214211c54033f2db5cd049808be8a8e37febb2192fe306567", func := "loop.example/g00979/laws.FnExactOpenOk", spec := "fnExactOpenOk", apart := false, narrowed := true }
def FnExactOpenOkUptoSaid : Prop := fnExactOpenOkUptoRow.holds Try.pinned (OpenSpec.upto fnExactOpenOkSpec)

/-- 'laws.FnExactTossNew', WHERE WHAT IT READS IS OF BULK AT MOST 1048576: true; the input reads as it did. -/
def fnExactTossNewUptoRow : OpenClaim := { program := "ytedfblgopmiheaa", sum := "496b41bac925439214211c54033f2db5cd049808be8a8e37febb2192fe306567", func := "loop.example/g00979/laws.FnExactTossNew", spec := "fnExactTossNew", apart := false, narrowed := true }
def FnExactTossNewUptoSaid : Prop := fnExactTossNewUptoRow.holds Try.pinned (OpenSpec.upto fnExactTossNewSpec)

/-- 'laws.FnExactTossCheat', WHERE WHAT IT READS IS OF BULK AT MOST 1048576: true; the input reads as it did. -/
def fnExactTossCheatUptoRow : OpenClaim := { program := "ytedfblgopmiheaa", sum := "496b41bac925439214211c54033f2db5cd049808be8a8e37febb2192fe306567", func := "loop.example/g00979/laws.FnExactTossCheat", spec := "fnExactTossCheat", apart := false, narrowed := true }
def FnExactTossCheatUptoSaid : Prop := fnExactTossCheatUptoRow.holds Try.pinned (OpenSpec.upto fnExactTossCheatSpec)

/-- 'laws.FnExactTossCoin', WHERE WHAT IT READS IS OF BULK AT MOST 1048576: true; the input reads as it did. -/
def fnExactTossCoinUptoRow : OpenClaim := { program := "ytedfblgopmiheaa", sum := "496b41bac925439214211c54033f2db5cd049808be8a8e37febb2192fe306567", func := "loop.example/g00979/laws.FnExactTossCoin", spec := "fnExactTossCoin", apart := false, narrowed := true }
def FnExactTossCoinUptoSaid : Prop := fnExactTossCoinUptoRow.holds Try.pinned (OpenSpec.upto fnExactTossCoinSpec)

end Rows
end Go.Proofs.Ytedfblgopmiheaa

/-
  No cell of these rows narrows 'for every input' (looked for: loops, veiled, ifaces, maps, wideKeys, modest, calm, conditions, laid).
  DERIVED. THE GIVEN ROWS OF THIS SEAT. 9 by the template 'for every input the law returns true; each argument reads behind the call as it read before'; 0 by the template 'total and deterministic' (their statements: YthecijbhgphfdaaTotals.lean).
  GIVEN WITH THE SEED: the statements are not yours to turn. If you find one false, say at which input.
  Laid BY PROGRAM, IN A SANDBOX (cutbox-rows.mjs): the forced cells as the released guide's own fill.sh prints them over the translation 12d89a95ac179fb8… (all of the seat's roots in one cut). By AI agents, Wed Nov 11 2026. No macro, syntax, notation, axiom, sorry.
-/
import Derived.Test.YthecijbhgphfdaaChecked
import GoSem.Claim
import GoSem.ClaimJoined
import GoSem.ClaimMapViews
import Derived.JoinedTies
import Derived.KernelRfl
namespace Go.Proofs.Ythecijbhgphfdaa
/- THE CELL 'sum', in the pinned program and in every row, IS THE sha256 OF THE DUMP (.gsa) THAT YthecijbhgphfdaaProg.lean LOADS. Nothing in Lean hashes anything: it is a label: what it is worth is what the hold of that sum in a sandbox is worth. -/
noncomputable def Try.pinned : Pinned := { name := "ythecijbhgphfdaa", sum := "12d89a95ac179fb8fcbad1b67660a55616dddad4508596268b49ea5d08e412ad", checked := Try.checked }
namespace Rows
def none {H : Type} : Left H := { results := [], args := [] }

/-- 'laws.FnField': WHATEVER THE INPUT: true; the input reads as it did. -/
def fnFieldSpec : ChangeSpec := { name := "fnField", fn := fun _ => fun
  | [d] => { results := [.lit (.bool true)], args := [d] }
  | _ => none }
def fnFieldRow : OpenClaim := { program := "ythecijbhgphfdaa", sum := "12d89a95ac179fb8fcbad1b67660a55616dddad4508596268b49ea5d08e412ad", func := "loop.example/g00979/laws.FnField", spec := "fnField", unfollowed := true, recurses := true, apart := false }
def FnFieldSaid : Prop := fnFieldRow.holds Try.pinned (OpenSpec.ofChange fnFieldSpec)

/-- ITS FALSE NEIGHBOUR: 'it returns false'. Refute it at one input. -/
def fnFieldWrong : ChangeSpec := { name := "fnField", fn := fun _ => fun
  | [d] => { results := [.lit (.bool false)], args := [d] }
  | _ => none }
def FnFieldWrongFalsely : Prop := fnFieldRow.holds Try.pinned (OpenSpec.ofChange fnFieldWrong)

/-- 'laws.FnInverse': WHATEVER THE INPUT: true; the input reads as it did. -/
def fnInverseSpec : ChangeSpec := { name := "fnInverse", fn := fun _ => fun
  | [d] => { results := [.lit (.bool true)], args := [d] }
  | _ => none }
def fnInverseRow : OpenClaim := { program := "ythecijbhgphfdaa", sum := "12d89a95ac179fb8fcbad1b67660a55616dddad4508596268b49ea5d08e412ad", func := "loop.example/g00979/laws.FnInverse", spec := "fnInverse", unfollowed := true, recurses := true, apart := false }
def FnInverseSaid : Prop := fnInverseRow.holds Try.pinned (OpenSpec.ofChange fnInverseSpec)

/-- ITS FALSE NEIGHBOUR: 'it returns false'. Refute it at one input. -/
def fnInverseWrong : ChangeSpec := { name := "fnInverse", fn := fun _ => fun
  | [d] => { results := [.lit (.bool false)], args := [d] }
  | _ => none }
def FnInverseWrongFalsely : Prop := fnInverseRow.holds Try.pinned (OpenSpec.ofChange fnInverseWrong)

/-- 'laws.FnExactFieldOk': WHATEVER THE INPUT: true; the input reads as it did. -/
def fnExactFieldOkSpec : ChangeSpec := { name := "fnExactFieldOk", fn := fun _ => fun
  | [d] => { results := [.lit (.bool true)], args := [d] }
  | _ => none }
def fnExactFieldOkRow : OpenClaim := { program := "ythecijbhgphfdaa", sum := "12d89a95ac179fb8fcbad1b67660a55616dddad4508596268b49ea5d08e412ad", func := "loop.example/g00979/laws.FnExactFieldOk", spec := "fnExactFieldOk", apart := false }
def FnExactFieldOkSaid : Prop := fnExactFieldOkRow.holds Try.pinned (OpenSpec.ofChange fnExactFieldOkSpec)

/-- ITS FALSE NEIGHBOUR: 'it returns false'. Refute it at one input. -/
def fnExactFieldOkWrong : ChangeSpec := { name := "fnExactFieldOk", fn := fun _ => fun
  | [d] => { results := [.lit (.bool false)], args := [d] }
  | _ => none }
def FnExactFieldOkWrongFalsely : Prop := fnExactFieldOkRow.holds Try.pinned (OpenSpec.ofChange fnExactFieldOkWrong)

/-- 'laws.FnExactIsElement': WHATEVER THE INPUT: true; the input reads as it did. -/
def fnExactIsElementSpec : ChangeSpec := { name := "fnExactIsElement", fn := fun _ => fun
  | [d1, d2] => { results := [.lit (.bool true)], args := [d1, d2] }
  | _ => none }
def fnExactIsElementRow : OpenClaim := { program := "ythecijbhgphfdaa", sum := "12d89a95ac179fb8fcbad1b67660a55616dddad4508596268b49ea5d08e412ad", func := "loop.example/g00979/laws.FnExactIsElement", spec := "fnExactIsElement", apart := false }
def FnExactIsElementSaid : Prop := fnExactIsElementRow.holds Try.pinned (OpenSpec.ofChange fnExactIsElementSpec)

/-- ITS FALSE NEIGHBOUR: 'it returns false'. Refute it at one input. -/
def fnExactIsElementWrong : ChangeSpec := { name := "fnExactIsElement", fn := fun _ => fun
  | [d1, d2] => { results := [.lit (.bool false)], args := [d1, d2] }
  | _ => none }
def FnExactIsElementWrongFalsely : Prop := fnExactIsElementRow.holds Try.pinned (OpenSpec.ofChange fnExactIsElementWrong)

/-- 'laws.FnExactFAdd': WHATEVER THE INPUT: true; the input reads as it did. -/
def fnExactFAddSpec : ChangeSpec := { name := "fnExactFAdd", fn := fun _ => fun
  | [d1, d2, d3] => { results := [.lit (.bool true)], args := [d1, d2, d3] }
  | _ => none }
def fnExactFAddRow : OpenClaim := { program := "ythecijbhgphfdaa", sum := "12d89a95ac179fb8fcbad1b67660a55616dddad4508596268b49ea5d08e412ad", func := "loop.example/g00979/laws.FnExactFAdd", spec := "fnExactFAdd", unfollowed := true, recurses := true, apart := false }
def FnExactFAddSaid : Prop := fnExactFAddRow.holds Try.pinned (OpenSpec.ofChange fnExactFAddSpec)

/-- ITS FALSE NEIGHBOUR: 'it returns false'. Refute it at one input. -/
def fnExactFAddWrong : ChangeSpec := { name := "fnExactFAdd", fn := fun _ => fun
  | [d1, d2, d3] => { results := [.lit (.bool false)], args := [d1, d2, d3] }
  | _ => none }
def FnExactFAddWrongFalsely : Prop := fnExactFAddRow.holds Try.pinned (OpenSpec.ofChange fnExactFAddWrong)

/-- 'laws.FnExactFSub': WHATEVER THE INPUT: true; the input reads as it did. -/
def fnExactFSubSpec : ChangeSpec := { name := "fnExactFSub", fn := fun _ => fun
  | [d1, d2, d3] => { results := [.lit (.bool true)], args := [d1, d2, d3] }
  | _ => none }
def fnExactFSubRow : OpenClaim := { program := "ythecijbhgphfdaa", sum := "12d89a95ac179fb8fcbad1b67660a55616dddad4508596268b49ea5d08e412ad", func := "loop.example/g00979/laws.FnExactFSub", spec := "fnExactFSub", unfollowed := true, recurses := true, apart := false }
def FnExactFSubSaid : Prop := fnExactFSubRow.holds Try.pinned (OpenSpec.ofChange fnExactFSubSpec)

/-- ITS FALSE NEIGHBOUR: 'it returns false'. Refute it at one input. -/
def fnExactFSubWrong : ChangeSpec := { name := "fnExactFSub", fn := fun _ => fun
  | [d1, d2, d3] => { results := [.lit (.bool false)], args := [d1, d2, d3] }
  | _ => none }
def FnExactFSubWrongFalsely : Prop := fnExactFSubRow.holds Try.pinned (OpenSpec.ofChange fnExactFSubWrong)

/-- 'laws.FnExactFMul': WHATEVER THE INPUT: true; the input reads as it did. -/
def fnExactFMulSpec : ChangeSpec := { name := "fnExactFMul", fn := fun _ => fun
  | [d1, d2, d3] => { results := [.lit (.bool true)], args := [d1, d2, d3] }
  | _ => none }
def fnExactFMulRow : OpenClaim := { program := "ythecijbhgphfdaa", sum := "12d89a95ac179fb8fcbad1b67660a55616dddad4508596268b49ea5d08e412ad", func := "loop.example/g00979/laws.FnExactFMul", spec := "fnExactFMul", unfollowed := true, recurses := true, apart := false }
def FnExactFMulSaid : Prop := fnExactFMulRow.holds Try.pinned (OpenSpec.ofChange fnExactFMulSpec)

/-- ITS FALSE NEIGHBOUR: 'it returns false'. Refute it at one input. -/
def fnExactFMulWrong : ChangeSpec := { name := "fnExactFMul", fn := fun _ => fun
  | [d1, d2, d3] => { results := [.lit (.bool false)], args := [d1, d2, d3] }
  | _ => none }
def FnExactFMulWrongFalsely : Prop := fnExactFMulRow.holds Try.pinned (OpenSpec.ofChange fnExactFMulWrong)

/-- 'laws.FnExactFInv': WHATEVER THE INPUT: true; the input reads as it did. -/
def fnExactFInvSpec : ChangeSpec := { name := "fnExactFInv", fn := fun _ => fun
  | [d1, d2] => { results := [.lit (.bool true)], args := [d1, d2] }
  | _ => none }
def fnExactFInvRow : OpenClaim := { program := "ythecijbhgphfdaa", sum := "12d89a95ac179fb8fcbad1b67660a55616dddad4508596268b49ea5d08e412ad", func := "loop.example/g00979/laws.FnExactFInv", spec := "fnExactFInv", apart := false }
def FnExactFInvSaid : Prop := fnExactFInvRow.holds Try.pinned (OpenSpec.ofChange fnExactFInvSpec)

/-- ITS FALSE NEIGHBOUR: 'it returns false'. Refute it at one input. -/
def fnExactFInvWrong : ChangeSpec := { name := "fnExactFInv", fn := fun _ => fun
  | [d1, d2] => { results := [.lit (.bool false)], args := [d1, d2] }
  | _ => none }
def FnExactFInvWrongFalsely : Prop := fnExactFInvRow.holds Try.pinned (OpenSpec.ofChange fnExactFInvWrong)

/-- 'laws.FnExactFSum': WHATEVER THE INPUT: true; the input reads as it did. -/
def fnExactFSumSpec : ChangeSpec := { name := "fnExactFSum", fn := fun _ => fun
  | [d1, d2] => { results := [.lit (.bool true)], args := [d1, d2] }
  | _ => none }
def fnExactFSumRow : OpenClaim := { program := "ythecijbhgphfdaa", sum := "12d89a95ac179fb8fcbad1b67660a55616dddad4508596268b49ea5d08e412ad", func := "loop.example/g00979/laws.FnExactFSum", spec := "fnExactFSum", apart := false }
def FnExactFSumSaid : Prop := fnExactFSumRow.holds Try.pinned (OpenSpec.ofChange fnExactFSumSpec)

/-- ITS FALSE NEIGHBOUR: 'it returns false'. Refute it at one input. -/
def fnExactFSumWrong : ChangeSpec := { name := "fnExactFSum", fn := fun _ => fun
  | [d1, d2] => { results := [.lit (.bool false)], args := [d1, d2] }
  | _ => none }
def FnExactFSumWrongFalsely : Prop := fnExactFSumRow.holds Try.pinned (OpenSpec.ofChange fnExactFSumWrong)

/- THE SECOND FORM. 'bulk': how many values and letters a reading holds, each counted each time it is reached (what is shared counts as often as it is met; a slice's spare places count too). A statement '..UptoSaid' is the law's where the arguments, and the package variables that the reading takes, are together of bulk at most 1048576: NARROWER than '..Said'. Prove '..Said' where nothing that the law and all that it calls make is longer than what came in: it says more and counts as full. Else prove '..UptoSaid'. A law counts once. -/
mutual
def uptoBulk {H : Type} : DataW H → Nat
  | .lit (.string bytes) => bytes.length + 1
  | .lit _ => 1
  | .nil => 1
  | .ptr d => uptoBulk d + 1
  | .slice elems spare => uptoBulkAll elems + uptoBulkAll spare + 1
  | .agg parts => uptoBulkAll parts + 1
  | .iface _ d => uptoBulk d + 1
  | .map entries => uptoBulkEntries entries + 1
  | .held _ => 1
def uptoBulkAll {H : Type} : List (DataW H) → Nat
  | [] => 0
  | d :: r => uptoBulk d + uptoBulkAll r
def uptoBulkEntries {H : Type} : List (Lit × DataW H) → Nat
  | [] => 0
  | x :: r => uptoBulkEntry x + uptoBulkEntries r
def uptoBulkEntry {H : Type} : Lit × DataW H → Nat
  | (.string bytes, d) => bytes.length + uptoBulk d + 1
  | (_, d) => uptoBulk d + 1
 end
def uptoSmall : (H : Type) → List (DataW H) → Bool := fun _ ds => decide (uptoBulkAll ds ≤ 1048576)
def OpenSpec.upto (s : _root_.Go.ChangeSpec) : _root_.Go.OpenSpec := { _root_.Go.OpenSpec.ofChange s with cond := some uptoSmall }

/-- 'laws.FnField', WHERE WHAT IT READS IS OF BULK AT MOST 1048576: true; the input reads as it did. -/
def fnFieldUptoRow : OpenClaim := { program := "ythecijbhgphfdaa", sum := "12d89a95ac179fb8fcbad1b67660a55616dddad4508596268b49ea5d08e412ad", func := "loop.example/g00979/laws.FnField", spec := "fnField", unfollowed := true, recurses := true, apart := false, narrowed := true }
def FnFieldUptoSaid : Prop := fnFieldUptoRow.holds Try.pinned (OpenSpec.upto fnFieldSpec)

/-- 'laws.FnInverse', WHERE WHAT IT READS IS OF BULK AT MOST 1048576: true; the input reads as it did. -/
def fnInverseUptoRow : OpenClaim := { program := "ythecijbhgphfdaa", sum := "12d89a95ac179fb8fcbad1b67660a55616dddad4508596268b49ea5d08e412ad", func := "loop.example/g00979/laws.FnInverse", spec := "fnInverse", unfollowed := true, recurses := true, apart := false, narrowed := true }
def FnInverseUptoSaid : Prop := fnInverseUptoRow.holds Try.pinned (OpenSpec.upto fnInverseSpec)

/-- 'laws.FnExactFieldOk', WHERE WHAT IT READS IS OF BULK AT MOST 1048576: true; the input reads as it did. -/
def fnExactFieldOkUptoRow : OpenClaim := { program := "ythecijbhgphfdaa", sum := "12d89a95ac179fb8fcbad1b67660a55616dddad4508596268b49ea5d08e412ad", func := "loop.example/g00979/laws.FnExactFieldOk", spec := "fnExactFieldOk", apart := false, narrowed := true }
def FnExactFieldOkUptoSaid : Prop := fnExactFieldOkUptoRow.holds Try.pinned (OpenSpec.upto fnExactFieldOkSpec)

/-- 'laws.FnExactIsElement', WHERE WHAT IT READS IS OF BULK AT MOST 1048576: true; the input reads as it did. -/
def fnExactIsElementUptoRow : OpenClaim := { program := "ythecijbhgphfdaa", sum := "12d89a95ac179fb8fcbad1b67660a55616dddad4508596268b49ea5d08e412ad", func := "loop.example/g00979/laws.FnExactIsElement", spec := "fnExactIsElement", apart := false, narrowed := true }
def FnExactIsElementUptoSaid : Prop := fnExactIsElementUptoRow.holds Try.pinned (OpenSpec.upto fnExactIsElementSpec)

/-- 'laws.FnExactFAdd', WHERE WHAT IT READS IS OF BULK AT MOST 1048576: true; the input reads as it did. -/
def fnExactFAddUptoRow : OpenClaim := { program := "ythecijbhgphfdaa", sum := "12d89a95ac179fb8fcbad1b67660a55616dddad4508596268b49ea5d08e412ad", func := "loop.example/g00979/laws.FnExactFAdd", spec := "fnExactFAdd", unfollowed := true, recurses := true, apart := false, narrowed := true }
def FnExactFAddUptoSaid : Prop := fnExactFAddUptoRow.holds Try.pinned (OpenSpec.upto fnExactFAddSpec)

/-- 'laws.FnExactFSub', WHERE WHAT IT READS IS OF BULK AT MOST 1048576: true; the input reads as it did. -/
def fnExactFSubUptoRow : OpenClaim := { program := "ythecijbhgphfdaa", sum := "12d89a95ac179fb8fcbad1b67660a55616dddad4508596268b49ea5d08e412ad", func := "loop.example/g00979/laws.FnExactFSub", spec := "fnExactFSub", unfollowed := true, recurses := true, apart := false, narrowed := true }
def FnExactFSubUptoSaid : Prop := fnExactFSubUptoRow.holds Try.pinned (OpenSpec.upto fnExactFSubSpec)

/-- 'laws.FnExactFMul', WHERE WHAT IT READS IS OF BULK AT MOST 1048576: true; the input reads as it did. -/
def fnExactFMulUptoRow : OpenClaim := { program := "ythecijbhgphfdaa", sum := "12d89a95ac179fb8fcbad1b67660a55616dddad4508596268b49ea5d08e412ad", func := "loop.example/g00979/laws.FnExactFMul", spec := "fnExactFMul", unfollowed := true, recurses := true, apart := false, narrowed := true }
def FnExactFMulUptoSaid : Prop := fnExactFMulUptoRow.holds Try.pinned (OpenSpec.upto fnExactFMulSpec)

/-- 'laws.FnExactFInv', WHERE WHAT IT READS IS OF BULK AT MOST 1048576: true; the input reads as it did. -/
def fnExactFInvUptoRow : OpenClaim := { program := "ythecijbhgphfdaa", sum := "12d89a95ac179fb8fcbad1b67660a55616dddad4508596268b49ea5d08e412ad", func := "loop.example/g00979/laws.FnExactFInv", spec := "fnExactFInv", apart := false, narrowed := true }
def FnExactFInvUptoSaid : Prop := fnExactFInvUptoRow.holds Try.pinned (OpenSpec.upto fnExactFInvSpec)

/-- 'laws.FnExactFSum', WHERE WHAT IT READS IS OF BULK AT MOST 1048576: true; the input reads as it did. -/
def fnExactFSumUptoRow : OpenClaim := { program := "ythecijbhgphfdaa", sum := "12d89a95ac179fb8fcbad1b67660a55616dddad4508596268b49ea5d08e412ad", func := "loop.example/g00979/laws.FnExactFSum", spec := "fnExactFSum", apart := false, narrowed := true }
def FnExactFSumUptoSaid : Prop := fnExactFSumUptoRow.holds Try.pinned (OpenSpec.upto fnExactFSumSpec)

end Rows
end Go.Proofs.Ythecijbhgphfdaa

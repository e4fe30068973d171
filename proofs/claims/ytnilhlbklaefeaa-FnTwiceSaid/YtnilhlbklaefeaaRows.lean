/-
  No cell of these rows narrows 'for every input' (looked for: loops, veiled, ifaces, maps, wideKeys, modest, calm, conditions, laid).
  DERIVED. THE GIVEN ROWS OF THIS SEAT. 6 by the template 'for every input the law returns true; each argument reads behind the call as it read before'; 0 by the template 'total and deterministic' (their statements: YtnilhlbklaefeaaTotals.lean).
  GIVEN WITH THE SEED: the statements are not yours to turn. If you find one false, say at which input.
  Laid BY PROGRAM, IN A SANDBOX (cutbox-rows.mjs): the forced cells as the released guide's own fill.sh prints them over the translation 2664cdd156a44e64… (all of the seat's roots in one cut). By AI agents, Wed Nov 11 2026. No macro, syntax, notation, axiom, sorry.
-/
import Derived.Test.YtnilhlbklaefeaaChecked
import GoSem.Claim
import GoSem.ClaimJoined
import GoSem.ClaimMapViews
import Derived.JoinedTies
import Derived.KernelRfl
namespace Go.Proofs.Ytnilhlbklaefeaa
/- THE CELL 'sum', in the pinned program and in every row, IS THE sha256 OF THE DUMP (.gsa) THAT YtnilhlbklaefeaaProg.lean LOADS. Nothing in Lean hashes anything: it is a label: what it is worth is what the hold of that sum in a sandbox is worth. -/
noncomputable def Try.pinned : Pinned := { name := "ytnilhlbklaefeaa", sum := "2664cdd156a44e64d046c9313b2aad08633a3a40472a6287602493174d744218", checked := Try.checked }
namespace Rows
def none {H : Type} : Left H := { results := [], args := [] }

/-- 'laws.FnUnrolled': WHATEVER THE INPUT: true; the input reads as it did. -/
def fnUnrolledSpec : ChangeSpec := { name := "fnUnrolled", fn := fun _ => fun
  | [d] => { results := [.lit (.bool true)], args := [d] }
  | _ => none }
def fnUnrolledRow : OpenClaim := { program := "ytnilhlbklaefeaa", sum := "2664cdd156a44e64d046c9313b2aad08633a3a40472a6287602493174d744218", func := "loop.example/g00979/laws.FnUnrolled", spec := "fnUnrolled", unfollowed := true, recurses := true, apart := false }
def FnUnrolledSaid : Prop := fnUnrolledRow.holds Try.pinned (OpenSpec.ofChange fnUnrolledSpec)

/-- ITS FALSE NEIGHBOUR: 'it returns false'. Refute it at one input. -/
def fnUnrolledWrong : ChangeSpec := { name := "fnUnrolled", fn := fun _ => fun
  | [d] => { results := [.lit (.bool false)], args := [d] }
  | _ => none }
def FnUnrolledWrongFalsely : Prop := fnUnrolledRow.holds Try.pinned (OpenSpec.ofChange fnUnrolledWrong)

/-- 'laws.FnTwice': WHATEVER THE INPUT: true; the input reads as it did. -/
def fnTwiceSpec : ChangeSpec := { name := "fnTwice", fn := fun _ => fun
  | [d] => { results := [.lit (.bool true)], args := [d] }
  | _ => none }
def fnTwiceRow : OpenClaim := { program := "ytnilhlbklaefeaa", sum := "2664cdd156a44e64d046c9313b2aad08633a3a40472a6287602493174d744218", func := "loop.example/g00979/laws.FnTwice", spec := "fnTwice", unfollowed := true, recurses := true, apart := false }
def FnTwiceSaid : Prop := fnTwiceRow.holds Try.pinned (OpenSpec.ofChange fnTwiceSpec)

/-- ITS FALSE NEIGHBOUR: 'it returns false'. Refute it at one input. -/
def fnTwiceWrong : ChangeSpec := { name := "fnTwice", fn := fun _ => fun
  | [d] => { results := [.lit (.bool false)], args := [d] }
  | _ => none }
def FnTwiceWrongFalsely : Prop := fnTwiceRow.holds Try.pinned (OpenSpec.ofChange fnTwiceWrong)

/-- 'laws.FnExactUnrolledSize': WHATEVER THE INPUT: true; the input reads as it did. -/
def fnExactUnrolledSizeSpec : ChangeSpec := { name := "fnExactUnrolledSize", fn := fun _ => fun
  | [d] => { results := [.lit (.bool true)], args := [d] }
  | _ => none }
def fnExactUnrolledSizeRow : OpenClaim := { program := "ytnilhlbklaefeaa", sum := "2664cdd156a44e64d046c9313b2aad08633a3a40472a6287602493174d744218", func := "loop.example/g00979/laws.FnExactUnrolledSize", spec := "fnExactUnrolledSize", unfollowed := true, recurses := true, apart := false }
def FnExactUnrolledSizeSaid : Prop := fnExactUnrolledSizeRow.holds Try.pinned (OpenSpec.ofChange fnExactUnrolledSizeSpec)

/-- ITS FALSE NEIGHBOUR: 'it returns false'. Refute it at one input. -/
def fnExactUnrolledSizeWrong : ChangeSpec := { name := "fnExactUnrolledSize", fn := fun _ => fun
  | [d] => { results := [.lit (.bool false)], args := [d] }
  | _ => none }
def FnExactUnrolledSizeWrongFalsely : Prop := fnExactUnrolledSizeRow.holds Try.pinned (OpenSpec.ofChange fnExactUnrolledSizeWrong)

/-- 'laws.FnExactUnroll': WHATEVER THE INPUT: true; the input reads as it did. -/
def fnExactUnrollSpec : ChangeSpec := { name := "fnExactUnroll", fn := fun _ => fun
  | [d] => { results := [.lit (.bool true)], args := [d] }
  | _ => none }
def fnExactUnrollRow : OpenClaim := { program := "ytnilhlbklaefeaa", sum := "2664cdd156a44e64d046c9313b2aad08633a3a40472a6287602493174d744218", func := "loop.example/g00979/laws.FnExactUnroll", spec := "fnExactUnroll", unfollowed := true, recurses := true, apart := false }
def FnExactUnrollSaid : Prop := fnExactUnrollRow.holds Try.pinned (OpenSpec.ofChange fnExactUnrollSpec)

/-- ITS FALSE NEIGHBOUR: 'it returns false'. Refute it at one input. -/
def fnExactUnrollWrong : ChangeSpec := { name := "fnExactUnroll", fn := fun _ => fun
  | [d] => { results := [.lit (.bool false)], args := [d] }
  | _ => none }
def FnExactUnrollWrongFalsely : Prop := fnExactUnrollRow.holds Try.pinned (OpenSpec.ofChange fnExactUnrollWrong)

/-- 'laws.FnExactLoopDepth': WHATEVER THE INPUT: true; the input reads as it did. -/
def fnExactLoopDepthSpec : ChangeSpec := { name := "fnExactLoopDepth", fn := fun _ => fun
  | [d] => { results := [.lit (.bool true)], args := [d] }
  | _ => none }
def fnExactLoopDepthRow : OpenClaim := { program := "ytnilhlbklaefeaa", sum := "2664cdd156a44e64d046c9313b2aad08633a3a40472a6287602493174d744218", func := "loop.example/g00979/laws.FnExactLoopDepth", spec := "fnExactLoopDepth", unfollowed := true, recurses := true, apart := false }
def FnExactLoopDepthSaid : Prop := fnExactLoopDepthRow.holds Try.pinned (OpenSpec.ofChange fnExactLoopDepthSpec)

/-- ITS FALSE NEIGHBOUR: 'it returns false'. Refute it at one input. -/
def fnExactLoopDepthWrong : ChangeSpec := { name := "fnExactLoopDepth", fn := fun _ => fun
  | [d] => { results := [.lit (.bool false)], args := [d] }
  | _ => none }
def FnExactLoopDepthWrongFalsely : Prop := fnExactLoopDepthRow.holds Try.pinned (OpenSpec.ofChange fnExactLoopDepthWrong)

/-- 'laws.FnExactOutputCount': WHATEVER THE INPUT: true; the input reads as it did. -/
def fnExactOutputCountSpec : ChangeSpec := { name := "fnExactOutputCount", fn := fun _ => fun
  | [d] => { results := [.lit (.bool true)], args := [d] }
  | _ => none }
def fnExactOutputCountRow : OpenClaim := { program := "ytnilhlbklaefeaa", sum := "2664cdd156a44e64d046c9313b2aad08633a3a40472a6287602493174d744218", func := "loop.example/g00979/laws.FnExactOutputCount", spec := "fnExactOutputCount", unfollowed := true, recurses := true, apart := false }
def FnExactOutputCountSaid : Prop := fnExactOutputCountRow.holds Try.pinned (OpenSpec.ofChange fnExactOutputCountSpec)

/-- ITS FALSE NEIGHBOUR: 'it returns false'. Refute it at one input. -/
def fnExactOutputCountWrong : ChangeSpec := { name := "fnExactOutputCount", fn := fun _ => fun
  | [d] => { results := [.lit (.bool false)], args := [d] }
  | _ => none }
def FnExactOutputCountWrongFalsely : Prop := fnExactOutputCountRow.holds Try.pinned (OpenSpec.ofChange fnExactOutputCountWrong)

/- THE SECOND FORM. 'bulk': how many values and letters a reading holds, each counted each time it is reached (what is shared counts as often as it is met; a slice's spare places count too). A statement '..UptoSaid' is the law's where the arguments, and the package variables that the reading takes, are together of bulk at most 1048576: NARROWER than '..Said'. Prove '..Said' where nothing that the law and all that it calls make is longer than what came in: it says more and counts as full. Else prove '..UptoSaid'. A law counts once. -/
mutual
def uptoBulk {H : Type} : DataW H → Nat
  | .lit (.string bytes) => bytes.length + 1
  | .lit _ => 1
  | .nil => 1
  | .ptr d => uptoBulk d + 1
  | .slice elems spare => uptoBulkAll elems + uptoBulkAll spare + 1
  | .agg parts => uptoBulkAll parts + 1
  | .iface _ d => uptoBulk d + 1
  | .map entries => uptoBulkEntries entries + 1
  | .held _ => 1
def uptoBulkAll {H : Type} : List (DataW H) → Nat
  | [] => 0
  | d :: r => uptoBulk d + uptoBulkAll r
def uptoBulkEntries {H : Type} : List (Lit × DataW H) → Nat
  | [] => 0
  | x :: r => uptoBulkEntry x + uptoBulkEntries r
def uptoBulkEntry {H : Type} : Lit × DataW H → Nat
  | (.string bytes, d) => bytes.length + uptoBulk d + 1
  | (_, d) => uptoBulk d + 1
 end
def uptoSmall : (H : Type) → List (DataW H) → Bool := fun _ ds => decide (uptoBulkAll ds ≤ 1048576)
def OpenSpec.upto (s : _root_.Go.ChangeSpec) : _root_.Go.OpenSpec := { _root_.Go.OpenSpec.ofChange s with cond := some uptoSmall }

/-- 'laws.FnUnrolled', WHERE WHAT IT READS IS OF BULK AT MOST 1048576: true; the input reads as it did. -/
def fnUnrolledUptoRow : OpenClaim := { program := "ytnilhlbklaefeaa", sum := "2664cdd156a44e64d046c9313b2aad08633a3a40472a6287602493174d744218", func := "loop.example/g00979/laws.FnUnrolled", spec := "fnUnrolled", unfollowed := true, recurses := true, apart := false, narrowed := true }
def FnUnrolledUptoSaid : Prop := fnUnrolledUptoRow.holds Try.pinned (OpenSpec.upto fnUnrolledSpec)

/-- 'laws.FnTwice', WHERE WHAT IT READS IS OF BULK AT MOST 1048576: true; the input reads as it did. -/
def fnTwiceUptoRow : OpenClaim := { program := "ytnilhlbklaefeaa", sum := "2664cdd156a44e64d046c9313b2aad08633a3a40472a6287602493174d744218", func := "loop.example/g00979/laws.FnTwice", spec := "fnTwice", unfollowed := true, recurses := true, apart := false, narrowed := true }
def FnTwiceUptoSaid : Prop := fnTwiceUptoRow.holds Try.pinned (OpenSpec.upto fnTwiceSpec)

/-- 'laws.FnExactUnrolledSize', WHERE WHAT IT READS IS OF BULK AT MOST 1048576: true; the input reads as it did. -/
def fnExactUnrolledSizeUptoRow : OpenClaim := { program := "ytnilhlbklaefeaa", sum := "2664cdd156a44e64d046c9313b2aad08633a3a40472a6287602493174d744218", func := "loop.example/g00979/laws.FnExactUnrolledSize", spec := "fnExactUnrolledSize", unfollowed := true, recurses := true, apart := false, narrowed := true }
def FnExactUnrolledSizeUptoSaid : Prop := fnExactUnrolledSizeUptoRow.holds Try.pinned (OpenSpec.upto fnExactUnrolledSizeSpec)

/-- 'laws.FnExactUnroll', WHERE WHAT IT READS IS OF BULK AT MOST 1048576: true; the input reads as it did. -/
def fnExactUnrollUptoRow : OpenClaim := { program := "ytnilhlbklaefeaa", sum := "2664cdd156a44e64d046c9313b2aad08633a3a40472a6287602493174d744218", func := "loop.example/g00979/laws.FnExactUnroll", spec := "fnExactUnroll", unfollowed := true, recurses := true, apart := false, narrowed := true }
def FnExactUnrollUptoSaid : Prop := fnExactUnrollUptoRow.holds Try.pinned (OpenSpec.upto fnExactUnrollSpec)

/-- 'laws.FnExactLoopDepth', WHERE WHAT IT READS IS OF BULK AT MOST 1048576: true; the input reads as it did. -/
def fnExactLoopDepthUptoRow : OpenClaim := { program := "ytnilhlbklaefeaa", sum := "2664cdd156a44e64d046c9313b2aad08633a3a40472a6287602493174d744218", func := "loop.example/g00979/laws.FnExactLoopDepth", spec := "fnExactLoopDepth", unfollowed := true, recurses := true, apart := false, narrowed := true }
def FnExactLoopDepthUptoSaid : Prop := fnExactLoopDepthUptoRow.holds Try.pinned (OpenSpec.upto fnExactLoopDepthSpec)

/-- 'laws.FnExactOutputCount', WHERE WHAT IT READS IS OF BULK AT MOST 1048576: true; the input reads as it did. -/
def fnExactOutputCountUptoRow : OpenClaim := { program := "ytnilhlbklaefeaa", sum := "2664cdd156a44e64d046c9313b2aad08633a3a40472a6287602493174d744218", func := "loop.example/g00979/laws.FnExactOutputCount", spec := "fnExactOutputCount", unfollowed := true, recurses := true, apart := false, narrowed := true }
def FnExactOutputCountUptoSaid : Prop := fnExactOutputCountUptoRow.holds Try.pinned (OpenSpec.upto fnExactOutputCountSpec)

end Rows
end Go.Proofs.Ytnilhlbklaefeaa

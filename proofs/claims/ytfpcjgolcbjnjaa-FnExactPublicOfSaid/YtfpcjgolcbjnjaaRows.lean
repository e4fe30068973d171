/-
  No cell of these rows narrows 'for every input' (looked for: loops, veiled, ifaces, maps, wideKeys, modest, calm, conditions, laid).
  DERIVED. THE GIVEN ROWS OF THIS SEAT. 7 by the template 'for every input the law returns true; each argument reads behind the call as it read before'; 0 by the template 'total and deterministic' (their statements: YtfpcjgolcbjnjaaTotals.lean).
  GIVEN WITH THE SEED: the statements are not yours to turn. If you find one false, say at which input.
  Laid BY PROGRAM, IN A SANDBOX (cutbox-rows.mjs): the forced cells as the released guide's own fill.sh prints them over the translation 9bb04997f0ff1385… (all of the seat's roots in one cut). By AI agents, Wed Nov 11 2026. No macro, syntax, notation, axiom, sorry.
-/
import Derived.Test.YtfpcjgolcbjnjaaChecked
import GoSem.Claim
import GoSem.ClaimJoined
import GoSem.ClaimMapViews
import Derived.JoinedTies
import Derived.KernelRfl
namespace Go.Proofs.Ytfpcjgolcbjnjaa
/- THE CELL 'sum', in the pinned program and in every row, IS THE sha256 OF THE DUMP (.gsa) THAT YtfpcjgolcbjnjaaProg.lean LOADS. Nothing in Lean hashes anything: it is a label: what it is worth is what the hold of that sum in a sandbox is worth. -/
noncomputable def Try.pinned : Pinned := { name := "ytfpcjgolcbjnjaa", sum := "9bb04997f0ff13851a048b3648ffbc6d845c996198e56f4b9b548495d3eb0555", checked := Try.checked }
namespace Rows
def none {H : Type} : Left H := { results := [], args := [] }

/-- 'laws.FnTables': WHATEVER THE INPUT: true; the input reads as it did. -/
def fnTablesSpec : ChangeSpec := { name := "fnTables", fn := fun _ => fun
  | [d] => { results := [.lit (.bool true)], args := [d] }
  | _ => none }
def fnTablesRow : OpenClaim := { program := "ytfpcjgolcbjnjaa", sum := "9bb04997f0ff13851a048b3648ffbc6d845c996198e56f4b9b548495d3eb0555", func := "loop.example/g00979/laws.FnTables", spec := "fnTables", unfollowed := true, recurses := true, apart := false }
def FnTablesSaid : Prop := fnTablesRow.holds Try.pinned (OpenSpec.ofChange fnTablesSpec)

/-- ITS FALSE NEIGHBOUR: 'it returns false'. Refute it at one input. -/
def fnTablesWrong : ChangeSpec := { name := "fnTables", fn := fun _ => fun
  | [d] => { results := [.lit (.bool false)], args := [d] }
  | _ => none }
def FnTablesWrongFalsely : Prop := fnTablesRow.holds Try.pinned (OpenSpec.ofChange fnTablesWrong)

/-- 'laws.FnFlippedInputs': WHATEVER THE INPUT: true; the input reads as it did. -/
def fnFlippedInputsSpec : ChangeSpec := { name := "fnFlippedInputs", fn := fun _ => fun
  | [d] => { results := [.lit (.bool true)], args := [d] }
  | _ => none }
def fnFlippedInputsRow : OpenClaim := { program := "ytfpcjgolcbjnjaa", sum := "9bb04997f0ff13851a048b3648ffbc6d845c996198e56f4b9b548495d3eb0555", func := "loop.example/g00979/laws.FnFlippedInputs", spec := "fnFlippedInputs", unfollowed := true, recurses := true, apart := false }
def FnFlippedInputsSaid : Prop := fnFlippedInputsRow.holds Try.pinned (OpenSpec.ofChange fnFlippedInputsSpec)

/-- ITS FALSE NEIGHBOUR: 'it returns false'. Refute it at one input. -/
def fnFlippedInputsWrong : ChangeSpec := { name := "fnFlippedInputs", fn := fun _ => fun
  | [d] => { results := [.lit (.bool false)], args := [d] }
  | _ => none }
def FnFlippedInputsWrongFalsely : Prop := fnFlippedInputsRow.holds Try.pinned (OpenSpec.ofChange fnFlippedInputsWrong)

/-- 'laws.FnExactInputZero': WHATEVER THE INPUT: true; the input reads as it did. -/
def fnExactInputZeroSpec : ChangeSpec := { name := "fnExactInputZero", fn := fun _ => fun
  | [d1, d2] => { results := [.lit (.bool true)], args := [d1, d2] }
  | _ => none }
def fnExactInputZeroRow : OpenClaim := { program := "ytfpcjgolcbjnjaa", sum := "9bb04997f0ff13851a048b3648ffbc6d845c996198e56f4b9b548495d3eb0555", func := "loop.example/g00979/laws.FnExactInputZero", spec := "fnExactInputZero", unfollowed := true, recurses := true, apart := false }
def FnExactInputZeroSaid : Prop := fnExactInputZeroRow.holds Try.pinned (OpenSpec.ofChange fnExactInputZeroSpec)

/-- ITS FALSE NEIGHBOUR: 'it returns false'. Refute it at one input. -/
def fnExactInputZeroWrong : ChangeSpec := { name := "fnExactInputZero", fn := fun _ => fun
  | [d1, d2] => { results := [.lit (.bool false)], args := [d1, d2] }
  | _ => none }
def FnExactInputZeroWrongFalsely : Prop := fnExactInputZeroRow.holds Try.pinned (OpenSpec.ofChange fnExactInputZeroWrong)

/-- 'laws.FnExactGarble': WHATEVER THE INPUT: true; the input reads as it did. -/
def fnExactGarbleSpec : ChangeSpec := { name := "fnExactGarble", fn := fun _ => fun
  | [d1, d2] => { results := [.lit (.bool true)], args := [d1, d2] }
  | _ => none }
def fnExactGarbleRow : OpenClaim := { program := "ytfpcjgolcbjnjaa", sum := "9bb04997f0ff13851a048b3648ffbc6d845c996198e56f4b9b548495d3eb0555", func := "loop.example/g00979/laws.FnExactGarble", spec := "fnExactGarble", unfollowed := true, recurses := true, apart := false }
def FnExactGarbleSaid : Prop := fnExactGarbleRow.holds Try.pinned (OpenSpec.ofChange fnExactGarbleSpec)

/-- ITS FALSE NEIGHBOUR: 'it returns false'. Refute it at one input. -/
def fnExactGarbleWrong : ChangeSpec := { name := "fnExactGarble", fn := fun _ => fun
  | [d1, d2] => { results := [.lit (.bool false)], args := [d1, d2] }
  | _ => none }
def FnExactGarbleWrongFalsely : Prop := fnExactGarbleRow.holds Try.pinned (OpenSpec.ofChange fnExactGarbleWrong)

/-- 'laws.FnExactGarbledOk': WHATEVER THE INPUT: true; the input reads as it did. -/
def fnExactGarbledOkSpec : ChangeSpec := { name := "fnExactGarbledOk", fn := fun _ => fun
  | [d1, d2] => { results := [.lit (.bool true)], args := [d1, d2] }
  | _ => none }
def fnExactGarbledOkRow : OpenClaim := { program := "ytfpcjgolcbjnjaa", sum := "9bb04997f0ff13851a048b3648ffbc6d845c996198e56f4b9b548495d3eb0555", func := "loop.example/g00979/laws.FnExactGarbledOk", spec := "fnExactGarbledOk", unfollowed := true, recurses := true, apart := false }
def FnExactGarbledOkSaid : Prop := fnExactGarbledOkRow.holds Try.pinned (OpenSpec.ofChange fnExactGarbledOkSpec)

/-- ITS FALSE NEIGHBOUR: 'it returns false'. Refute it at one input. -/
def fnExactGarbledOkWrong : ChangeSpec := { name := "fnExactGarbledOk", fn := fun _ => fun
  | [d1, d2] => { results := [.lit (.bool false)], args := [d1, d2] }
  | _ => none }
def FnExactGarbledOkWrongFalsely : Prop := fnExactGarbledOkRow.holds Try.pinned (OpenSpec.ofChange fnExactGarbledOkWrong)

/-- 'laws.FnExactPublicOf': WHATEVER THE INPUT: true; the input reads as it did. -/
def fnExactPublicOfSpec : ChangeSpec := { name := "fnExactPublicOf", fn := fun _ => fun
  | [d1, d2] => { results := [.lit (.bool true)], args := [d1, d2] }
  | _ => none }
def fnExactPublicOfRow : OpenClaim := { program := "ytfpcjgolcbjnjaa", sum := "9bb04997f0ff13851a048b3648ffbc6d845c996198e56f4b9b548495d3eb0555", func := "loop.example/g00979/laws.FnExactPublicOf", spec := "fnExactPublicOf", unfollowed := true, recurses := true, apart := false }
def FnExactPublicOfSaid : Prop := fnExactPublicOfRow.holds Try.pinned (OpenSpec.ofChange fnExactPublicOfSpec)

/-- ITS FALSE NEIGHBOUR: 'it returns false'. Refute it at one input. -/
def fnExactPublicOfWrong : ChangeSpec := { name := "fnExactPublicOf", fn := fun _ => fun
  | [d1, d2] => { results := [.lit (.bool false)], args := [d1, d2] }
  | _ => none }
def FnExactPublicOfWrongFalsely : Prop := fnExactPublicOfRow.holds Try.pinned (OpenSpec.ofChange fnExactPublicOfWrong)

/-- 'laws.FnExactInputLabels': WHATEVER THE INPUT: true; the input reads as it did. -/
def fnExactInputLabelsSpec : ChangeSpec := { name := "fnExactInputLabels", fn := fun _ => fun
  | [d1, d2] => { results := [.lit (.bool true)], args := [d1, d2] }
  | _ => none }
def fnExactInputLabelsRow : OpenClaim := { program := "ytfpcjgolcbjnjaa", sum := "9bb04997f0ff13851a048b3648ffbc6d845c996198e56f4b9b548495d3eb0555", func := "loop.example/g00979/laws.FnExactInputLabels", spec := "fnExactInputLabels", unfollowed := true, recurses := true, apart := false }
def FnExactInputLabelsSaid : Prop := fnExactInputLabelsRow.holds Try.pinned (OpenSpec.ofChange fnExactInputLabelsSpec)

/-- ITS FALSE NEIGHBOUR: 'it returns false'. Refute it at one input. -/
def fnExactInputLabelsWrong : ChangeSpec := { name := "fnExactInputLabels", fn := fun _ => fun
  | [d1, d2] => { results := [.lit (.bool false)], args := [d1, d2] }
  | _ => none }
def FnExactInputLabelsWrongFalsely : Prop := fnExactInputLabelsRow.holds Try.pinned (OpenSpec.ofChange fnExactInputLabelsWrong)

/- THE SECOND FORM. 'bulk': how many values and letters a reading holds, each counted each time it is reached (what is shared counts as often as it is met; a slice's spare places count too). A statement '..UptoSaid' is the law's where the arguments, and the package variables that the reading takes, are together of bulk at most 1048576: NARROWER than '..Said'. Prove '..Said' where nothing that the law and all that it calls make is longer than what came in: it says more and counts as full. Else prove '..UptoSaid'. A law counts once. -/
mutual
def uptoBulk {H : Type} : DataW H → Nat
  | .lit (.string bytes) => bytes.length + 1
  | .lit _ => 1
  | .nil => 1
  | .ptr d => uptoBulk d + 1
  | .slice elems spare => uptoBulkAll elems + uptoBulkAll spare + 1
  | .agg parts => uptoBulkAll parts + 1
  | .iface _ d => uptoBulk d + 1
  | .map entries => uptoBulkEntries entries + 1
  | .held _ => 1
def uptoBulkAll {H : Type} : List (DataW H) → Nat
  | [] => 0
  | d :: r => uptoBulk d + uptoBulkAll r
def uptoBulkEntries {H : Type} : List (Lit × DataW H) → Nat
  | [] => 0
  | x :: r => uptoBulkEntry x + uptoBulkEntries r
def uptoBulkEntry {H : Type} : Lit × DataW H → Nat
  | (.string bytes, d) => bytes.length + uptoBulk d + 1
  | (_, d) => uptoBulk d + 1
 end
def uptoSmall : (H : Type) → List (DataW H) → Bool := fun _ ds => decide (uptoBulkAll ds ≤ 1048576)
def OpenSpec.upto (s : _root_.Go.ChangeSpec) : _root_.Go.OpenSpec := { _root_.Go.OpenSpec.ofChange s with cond := some uptoSmall }

/-- 'laws.FnTables', WHERE WHAT IT READS IS OF BULK AT MOST 1048576: true; the input reads as it did. -/
def fnTablesUptoRow : OpenClaim := { program := "ytfpcjgolcbjnjaa", sum := "9bb04997f0ff13851a048b3648ffbc6d845c996198e56f4b9b548495d3eb0555", func := "loop.example/g00979/laws.FnTables", spec := "fnTables", unfollowed := true, recurses := true, apart := false, narrowed := true }
def FnTablesUptoSaid : Prop := fnTablesUptoRow.holds Try.pinned (OpenSpec.upto fnTablesSpec)

/-- 'laws.FnFlippedInputs', WHERE WHAT IT READS IS OF BULK AT MOST 1048576: true; the input reads as it did. -/
def fnFlippedInputsUptoRow : OpenClaim := { program := "ytfpcjgolcbjnjaa", sum := "9bb04997f0ff13851a048b3648ffbc6d845c996198e56f4b9b548495d3eb0555", func := "loop.example/g00979/laws.FnFlippedInputs", spec := "fnFlippedInputs", unfollowed := true, recurses := true, apart := false, narrowed := true }
def FnFlippedInputsUptoSaid : Prop := fnFlippedInputsUptoRow.holds Try.pinned (OpenSpec.upto fnFlippedInputsSpec)

/-- 'laws.FnExactInputZero', WHERE WHAT IT READS IS OF BULK AT MOST 1048576: true; the input reads as it did. -/
def fnExactInputZeroUptoRow : OpenClaim := { program := "ytfpcjgolcbjnjaa", sum := "9bb04997f0ff13851a048b3648ffbc6d845c996198e56f4b9b548495d3eb0555", func := "loop.example/g00979/laws.FnExactInputZero", spec := "fnExactInputZero", unfollowed := true, recurses := true, apart := false, narrowed := true }
def FnExactInputZeroUptoSaid : Prop := fnExactInputZeroUptoRow.holds Try.pinned (OpenSpec.upto fnExactInputZeroSpec)

/-- 'laws.FnExactGarble', WHERE WHAT IT READS IS OF BULK AT MOST 1048576: true; the input reads as it did. -/
def fnExactGarbleUptoRow : OpenClaim := { program := "ytfpcjgolcbjnjaa", sum := "9bb04997f0ff13851a048b3648ffbc6d845c996198e56f4b9b548495d3eb0555", func := "loop.example/g00979/laws.FnExactGarble", spec := "fnExactGarble", unfollowed := true, recurses := true, apart := false, narrowed := true }
def FnExactGarbleUptoSaid : Prop := fnExactGarbleUptoRow.holds Try.pinned (OpenSpec.upto fnExactGarbleSpec)

/-- 'laws.FnExactGarbledOk', WHERE WHAT IT READS IS OF BULK AT MOST 1048576: true; the input reads as it did. -/
def fnExactGarbledOkUptoRow : OpenClaim := { program := "ytfpcjgolcbjnjaa", sum := "9bb04997f0ff13851a048b3648ffbc6d845c996198e56f4b9b548495d3eb0555", func := "loop.example/g00979/laws.FnExactGarbledOk", spec := "fnExactGarbledOk", unfollowed := true, recurses := true, apart := false, narrowed := true }
def FnExactGarbledOkUptoSaid : Prop := fnExactGarbledOkUptoRow.holds Try.pinned (OpenSpec.upto fnExactGarbledOkSpec)

/-- 'laws.FnExactPublicOf', WHERE WHAT IT READS IS OF BULK AT MOST 1048576: true; the input reads as it did. -/
def fnExactPublicOfUptoRow : OpenClaim := { program := "ytfpcjgolcbjnjaa", sum := "9bb04997f0ff13851a048b3648ffbc6d845c996198e56f4b9b548495d3eb0555", func := "loop.example/g00979/laws.FnExactPublicOf", spec := "fnExactPublicOf", unfollowed := true, recurses := true, apart := false, narrowed := true }
def FnExactPublicOfUptoSaid : Prop := fnExactPublicOfUptoRow.holds Try.pinned (OpenSpec.upto fnExactPublicOfSpec)

/-- 'laws.FnExactInputLabels', WHERE WHAT IT READS IS OF BULK AT MOST 1048576: true; the input reads as it did. -/
def fnExactInputLabelsUptoRow : OpenClaim := { program := "ytfpcjgolcbjnjaa", sum := "9bb04997f0ff13851a048b3648ffbc6d845c996198e56f4b9b548495d3eb0555", func := "loop.example/g00979/laws.FnExactInputLabels", spec := "fnExactInputLabels", unfollowed := true, recurses := true, apart := false, narrowed := true }
def FnExactInputLabelsUptoSaid : Prop := fnExactInputLabelsUptoRow.holds Try.pinned (OpenSpec.upto fnExactInputLabelsSpec)

end Rows
end Go.Proofs.Ytfpcjgolcbjnjaa

/-
  No cell of these rows narrows 'for every input' (looked for: loops, veiled, ifaces, maps, wideKeys, modest, calm, conditions, laid).
  DERIVED. THE GIVEN ROWS OF THIS SEAT. 7 by the template 'for every input the law returns true; each argument reads behind the call as it read before'; 0 by the template 'total and deterministic' (their statements: YtjfgninlnlhibaaTotals.lean).
  GIVEN WITH THE SEED: the statements are not yours to turn. If you find one false, say at which input.
  Laid BY PROGRAM, IN A SANDBOX (cutbox-rows.mjs): the forced cells as the released guide's own fill.sh prints them over the translation fced70aabdb4fb92… (all of the seat's roots in one cut). By AI agents, Wed Nov 11 2026. No macro, syntax, notation, axiom, sorry.
-/
import Derived.Test.YtjfgninlnlhibaaChecked
import GoSem.Claim
import GoSem.ClaimJoined
import GoSem.ClaimMapViews
import Derived.JoinedTies
import Derived.KernelRfl
namespace Go.Proofs.Ytjfgninlnlhibaa
/- THE CELL 'sum', in the pinned program and in every row, IS THE sha256 OF THE DUMP (.gsa) THAT YtjfgninlnlhibaaProg.lean LOADS. Nothing in Lean hashes anything: it is a label: what it is worth is what the hold of that sum in a sandbox is worth. -/
noncomputable def Try.pinned : Pinned := { name := "ytjfgninlnlhibaa", sum := "fced70aabdb4fb92ce82f47360102a1790ba3de58d7be9b511f816a65e14fa70", checked := Try.checked }
namespace Rows
def none {H : Type} : Left H := { results := [], args := [] }

/-- 'laws.FnTapes': WHATEVER THE INPUT: true; the input reads as it did. -/
def fnTapesSpec : ChangeSpec := { name := "fnTapes", fn := fun _ => fun
  | [d] => { results := [.lit (.bool true)], args := [d] }
  | _ => none }
def fnTapesRow : OpenClaim := { program := "ytjfgninlnlhibaa", sum := "fced70aabdb4fb92ce82f47360102a1790ba3de58d7be9b511f816a65e14fa70", func := "loop.example/g00979/laws.FnTapes", spec := "fnTapes", unfollowed := true, recurses := true, apart := false }
def FnTapesSaid : Prop := fnTapesRow.holds Try.pinned (OpenSpec.ofChange fnTapesSpec)

/-- ITS FALSE NEIGHBOUR: 'it returns false'. Refute it at one input. -/
def fnTapesWrong : ChangeSpec := { name := "fnTapes", fn := fun _ => fun
  | [d] => { results := [.lit (.bool false)], args := [d] }
  | _ => none }
def FnTapesWrongFalsely : Prop := fnTapesRow.holds Try.pinned (OpenSpec.ofChange fnTapesWrong)

/-- 'laws.FnForked': WHATEVER THE INPUT: true; the input reads as it did. -/
def fnForkedSpec : ChangeSpec := { name := "fnForked", fn := fun _ => fun
  | [d] => { results := [.lit (.bool true)], args := [d] }
  | _ => none }
def fnForkedRow : OpenClaim := { program := "ytjfgninlnlhibaa", sum := "fced70aabdb4fb92ce82f47360102a1790ba3de58d7be9b511f816a65e14fa70", func := "loop.example/g00979/laws.FnForked", spec := "fnForked", unfollowed := true, recurses := true, apart := false }
def FnForkedSaid : Prop := fnForkedRow.holds Try.pinned (OpenSpec.ofChange fnForkedSpec)

/-- ITS FALSE NEIGHBOUR: 'it returns false'. Refute it at one input. -/
def fnForkedWrong : ChangeSpec := { name := "fnForked", fn := fun _ => fun
  | [d] => { results := [.lit (.bool false)], args := [d] }
  | _ => none }
def FnForkedWrongFalsely : Prop := fnForkedRow.holds Try.pinned (OpenSpec.ofChange fnForkedWrong)

/-- 'laws.FnExactTapeOk': WHATEVER THE INPUT: true; the input reads as it did. -/
def fnExactTapeOkSpec : ChangeSpec := { name := "fnExactTapeOk", fn := fun _ => fun
  | [d] => { results := [.lit (.bool true)], args := [d] }
  | _ => none }
def fnExactTapeOkRow : OpenClaim := { program := "ytjfgninlnlhibaa", sum := "fced70aabdb4fb92ce82f47360102a1790ba3de58d7be9b511f816a65e14fa70", func := "loop.example/g00979/laws.FnExactTapeOk", spec := "fnExactTapeOk", apart := false }
def FnExactTapeOkSaid : Prop := fnExactTapeOkRow.holds Try.pinned (OpenSpec.ofChange fnExactTapeOkSpec)

/-- ITS FALSE NEIGHBOUR: 'it returns false'. Refute it at one input. -/
def fnExactTapeOkWrong : ChangeSpec := { name := "fnExactTapeOk", fn := fun _ => fun
  | [d] => { results := [.lit (.bool false)], args := [d] }
  | _ => none }
def FnExactTapeOkWrongFalsely : Prop := fnExactTapeOkRow.holds Try.pinned (OpenSpec.ofChange fnExactTapeOkWrong)

/-- 'laws.FnExactTapeWord': WHATEVER THE INPUT: true; the input reads as it did. -/
def fnExactTapeWordSpec : ChangeSpec := { name := "fnExactTapeWord", fn := fun _ => fun
  | [d] => { results := [.lit (.bool true)], args := [d] }
  | _ => none }
def fnExactTapeWordRow : OpenClaim := { program := "ytjfgninlnlhibaa", sum := "fced70aabdb4fb92ce82f47360102a1790ba3de58d7be9b511f816a65e14fa70", func := "loop.example/g00979/laws.FnExactTapeWord", spec := "fnExactTapeWord", unfollowed := true, recurses := true, apart := false }
def FnExactTapeWordSaid : Prop := fnExactTapeWordRow.holds Try.pinned (OpenSpec.ofChange fnExactTapeWordSpec)

/-- ITS FALSE NEIGHBOUR: 'it returns false'. Refute it at one input. -/
def fnExactTapeWordWrong : ChangeSpec := { name := "fnExactTapeWord", fn := fun _ => fun
  | [d] => { results := [.lit (.bool false)], args := [d] }
  | _ => none }
def FnExactTapeWordWrongFalsely : Prop := fnExactTapeWordRow.holds Try.pinned (OpenSpec.ofChange fnExactTapeWordWrong)

/-- 'laws.FnExactTapeBelow': WHATEVER THE INPUT: true; the input reads as it did. -/
def fnExactTapeBelowSpec : ChangeSpec := { name := "fnExactTapeBelow", fn := fun _ => fun
  | [d1, d2] => { results := [.lit (.bool true)], args := [d1, d2] }
  | _ => none }
def fnExactTapeBelowRow : OpenClaim := { program := "ytjfgninlnlhibaa", sum := "fced70aabdb4fb92ce82f47360102a1790ba3de58d7be9b511f816a65e14fa70", func := "loop.example/g00979/laws.FnExactTapeBelow", spec := "fnExactTapeBelow", unfollowed := true, recurses := true, apart := false }
def FnExactTapeBelowSaid : Prop := fnExactTapeBelowRow.holds Try.pinned (OpenSpec.ofChange fnExactTapeBelowSpec)

/-- ITS FALSE NEIGHBOUR: 'it returns false'. Refute it at one input. -/
def fnExactTapeBelowWrong : ChangeSpec := { name := "fnExactTapeBelow", fn := fun _ => fun
  | [d1, d2] => { results := [.lit (.bool false)], args := [d1, d2] }
  | _ => none }
def FnExactTapeBelowWrongFalsely : Prop := fnExactTapeBelowRow.holds Try.pinned (OpenSpec.ofChange fnExactTapeBelowWrong)

/-- 'laws.FnExactTapeList': WHATEVER THE INPUT: true; the input reads as it did. -/
def fnExactTapeListSpec : ChangeSpec := { name := "fnExactTapeList", fn := fun _ => fun
  | [d1, d2, d3] => { results := [.lit (.bool true)], args := [d1, d2, d3] }
  | _ => none }
def fnExactTapeListRow : OpenClaim := { program := "ytjfgninlnlhibaa", sum := "fced70aabdb4fb92ce82f47360102a1790ba3de58d7be9b511f816a65e14fa70", func := "loop.example/g00979/laws.FnExactTapeList", spec := "fnExactTapeList", unfollowed := true, recurses := true, apart := false }
def FnExactTapeListSaid : Prop := fnExactTapeListRow.holds Try.pinned (OpenSpec.ofChange fnExactTapeListSpec)

/-- ITS FALSE NEIGHBOUR: 'it returns false'. Refute it at one input. -/
def fnExactTapeListWrong : ChangeSpec := { name := "fnExactTapeList", fn := fun _ => fun
  | [d1, d2, d3] => { results := [.lit (.bool false)], args := [d1, d2, d3] }
  | _ => none }
def FnExactTapeListWrongFalsely : Prop := fnExactTapeListRow.holds Try.pinned (OpenSpec.ofChange fnExactTapeListWrong)

/-- 'laws.FnExactTapeFork': WHATEVER THE INPUT: true; the input reads as it did. -/
def fnExactTapeForkSpec : ChangeSpec := { name := "fnExactTapeFork", fn := fun _ => fun
  | [d1, d2] => { results := [.lit (.bool true)], args := [d1, d2] }
  | _ => none }
def fnExactTapeForkRow : OpenClaim := { program := "ytjfgninlnlhibaa", sum := "fced70aabdb4fb92ce82f47360102a1790ba3de58d7be9b511f816a65e14fa70", func := "loop.example/g00979/laws.FnExactTapeFork", spec := "fnExactTapeFork", apart := false }
def FnExactTapeForkSaid : Prop := fnExactTapeForkRow.holds Try.pinned (OpenSpec.ofChange fnExactTapeForkSpec)

/-- ITS FALSE NEIGHBOUR: 'it returns false'. Refute it at one input. -/
def fnExactTapeForkWrong : ChangeSpec := { name := "fnExactTapeFork", fn := fun _ => fun
  | [d1, d2] => { results := [.lit (.bool false)], args := [d1, d2] }
  | _ => none }
def FnExactTapeForkWrongFalsely : Prop := fnExactTapeForkRow.holds Try.pinned (OpenSpec.ofChange fnExactTapeForkWrong)

/- THE SECOND FORM. 'bulk': how many values and letters a reading holds, each counted each time it is reached (what is shared counts as often as it is met; a slice's spare places count too). A statement '..UptoSaid' is the law's where the arguments, and the package variables that the reading takes, are together of bulk at most 1048576: NARROWER than '..Said'. Prove '..Said' where nothing that the law and all that it calls make is longer than what came in: it says more and counts as full. Else prove '..UptoSaid'. A law counts once. -/
mutual
def uptoBulk {H : Type} : DataW H → Nat
  | .lit (.string bytes) => bytes.length + 1
  | .lit _ => 1
  | .nil => 1
  | .ptr d => uptoBulk d + 1
  | .slice elems spare => uptoBulkAll elems + uptoBulkAll spare + 1
  | .agg parts => uptoBulkAll parts + 1
  | .iface _ d => uptoBulk d + 1
  | .map entries => uptoBulkEntries entries + 1
  | .held _ => 1
def uptoBulkAll {H : Type} : List (DataW H) → Nat
  | [] => 0
  | d :: r => uptoBulk d + uptoBulkAll r
def uptoBulkEntries {H : Type} : List (Lit × DataW H) → Nat
  | [] => 0
  | x :: r => uptoBulkEntry x + uptoBulkEntries r
def uptoBulkEntry {H : Type} : Lit × DataW H → Nat
  | (.string bytes, d) => bytes.length + uptoBulk d + 1
  | (_, d) => uptoBulk d + 1
 end
def uptoSmall : (H : Type) → List (DataW H) → Bool := fun _ ds => decide (uptoBulkAll ds ≤ 1048576)
def OpenSpec.upto (s : _root_.Go.ChangeSpec) : _root_.Go.OpenSpec := { _root_.Go.OpenSpec.ofChange s with cond := some uptoSmall }

/-- 'laws.FnTapes', WHERE WHAT IT READS IS OF BULK AT MOST 1048576: true; the input reads as it did. -/
def fnTapesUptoRow : OpenClaim := { program := "ytjfgninlnlhibaa", sum := "fced70aabdb4fb92ce82f47360102a1790ba3de58d7be9b511f816a65e14fa70", func := "loop.example/g00979/laws.FnTapes", spec := "fnTapes", unfollowed := true, recurses := true, apart := false, narrowed := true }
def FnTapesUptoSaid : Prop := fnTapesUptoRow.holds Try.pinned (OpenSpec.upto fnTapesSpec)

/-- 'laws.FnForked', WHERE WHAT IT READS IS OF BULK AT MOST 1048576: true; the input reads as it did. -/
def fnForkedUptoRow : OpenClaim := { program := "ytjfgninlnlhibaa", sum := "fced70aabdb4fb92ce82f47360102a1790ba3de58d7be9b511f816a65e14fa70", func := "loop.example/g00979/laws.FnForked", spec := "fnForked", unfollowed := true, recurses := true, apart := false, narrowed := true }
def FnForkedUptoSaid : Prop := fnForkedUptoRow.holds Try.pinned (OpenSpec.upto fnForkedSpec)

/-- 'laws.FnExactTapeOk', WHERE WHAT IT READS IS OF BULK AT MOST 1048576: true; the input reads as it did. -/
def fnExactTapeOkUptoRow : OpenClaim := { program := "ytjfgninlnlhibaa", sum := "fced70aabdb4fb92ce82f47360102a1790ba3de58d7be9b511f816a65e14fa70", func := "loop.example/g00979/laws.FnExactTapeOk", spec := "fnExactTapeOk", apart := false, narrowed := true }
def FnExactTapeOkUptoSaid : Prop := fnExactTapeOkUptoRow.holds Try.pinned (OpenSpec.upto fnExactTapeOkSpec)

/-- 'laws.FnExactTapeWord', WHERE WHAT IT READS IS OF BULK AT MOST 1048576: true; the input reads as it did. -/
def fnExactTapeWordUptoRow : OpenClaim := { program := "ytjfgninlnlhibaa", sum := "fced70aabdb4fb92ce82f47360102a1790ba3de58d7be9b511f816a65e14fa70", func := "loop.example/g00979/laws.FnExactTapeWord", spec := "fnExactTapeWord", unfollowed := true, recurses := true, apart := false, narrowed := true }
def FnExactTapeWordUptoSaid : Prop := fnExactTapeWordUptoRow.holds Try.pinned (OpenSpec.upto fnExactTapeWordSpec)

/-- 'laws.FnExactTapeBelow', WHERE WHAT IT READS IS OF BULK AT MOST 1048576: true; the input reads as it did. -/
def fnExactTapeBelowUptoRow : OpenClaim := { program := "ytjfgninlnlhibaa", sum := "fced70aabdb4fb92ce82f47360102a1790ba3de58d7be9b511f816a65e14fa70", func := "loop.example/g00979/laws.FnExactTapeBelow", spec := "fnExactTapeBelow", unfollowed := true, recurses := true, apart := false, narrowed := true }
def FnExactTapeBelowUptoSaid : Prop := fnExactTapeBelowUptoRow.holds Try.pinned (OpenSpec.upto fnExactTapeBelowSpec)

/-- 'laws.FnExactTapeList', WHERE WHAT IT READS IS OF BULK AT MOST 1048576: true; the input reads as it did. -/
def fnExactTapeListUptoRow : OpenClaim := { program := "ytjfgninlnlhibaa", sum := "fced70aabdb4fb92ce82f47360102a1790ba3de58d7be9b511f816a65e14fa70", func := "loop.example/g00979/laws.FnExactTapeList", spec := "fnExactTapeList", unfollowed := true, recurses := true, apart := false, narrowed := true }
def FnExactTapeListUptoSaid : Prop := fnExactTapeListUptoRow.holds Try.pinned (OpenSpec.upto fnExactTapeListSpec)

/-- 'laws.FnExactTapeFork', WHERE WHAT IT READS IS OF BULK AT MOST 1048576: true; the input reads as it did. -/
def fnExactTapeForkUptoRow : OpenClaim := { program := "ytjfgninlnlhibaa", sum := "fced70aabdb4fb92ce82f47360102a1790ba3de58d7be9b511f816a65e14fa70", func := "loop.example/g00979/laws.FnExactTapeFork", spec := "fnExactTapeFork", apart := false, narrowed := true }
def FnExactTapeForkUptoSaid : Prop := fnExactTapeForkUptoRow.holds Try.pinned (OpenSpec.upto fnExactTapeForkSpec)

end Rows
end Go.Proofs.Ytjfgninlnlhibaa

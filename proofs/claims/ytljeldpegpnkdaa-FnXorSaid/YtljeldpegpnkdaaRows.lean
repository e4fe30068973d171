/-
  No cell of these rows narrows 'for every input' (looked for: loops, veiled, ifaces, maps, wideKeys, modest, calm, conditions, laid).
  DERIVED. THE GIVEN ROWS OF THIS SEAT. 7 by the template 'for every input the law returns true; each argument reads behind the call as it read before'; 0 by the template 'total and deterministic' (their statements: YtljeldpegpnkdaaTotals.lean).
  GIVEN WITH THE SEED: the statements are not yours to turn. If you find one false, say at which input.
  Laid BY PROGRAM, IN A SANDBOX (cutbox-rows.mjs): the forced cells as the released guide's own fill.sh prints them over the translation 0a81f1664ae8dd51… (all of the seat's roots in one cut). By AI agents, Wed Nov 11 2026. No macro, syntax, notation, axiom, sorry.
-/
import Derived.Test.YtljeldpegpnkdaaChecked
import GoSem.Claim
import GoSem.ClaimJoined
import GoSem.ClaimMapViews
import Derived.JoinedTies
import Derived.KernelRfl
namespace Go.Proofs.Ytljeldpegpnkdaa
/- THE CELL 'sum', in the pinned program and in every row, IS THE sha256 OF THE DUMP (.gsa) THAT YtljeldpegpnkdaaProg.lean LOADS. Nothing in Lean hashes anything: it is a label: what it is worth is what the hold of that sum in a sandbox is worth. -/
noncomputable def Try.pinned : Pinned := { name := "ytljeldpegpnkdaa", sum := "0a81f1664ae8dd51f805b3fd8434d81e32d510c8398089887ad2a0037a98be07", checked := Try.checked }
namespace Rows
def none {H : Type} : Left H := { results := [], args := [] }

/-- 'laws.FnMixing': WHATEVER THE INPUT: true; the input reads as it did. -/
def fnMixingSpec : ChangeSpec := { name := "fnMixing", fn := fun _ => fun
  | [d] => { results := [.lit (.bool true)], args := [d] }
  | _ => none }
def fnMixingRow : OpenClaim := { program := "ytljeldpegpnkdaa", sum := "0a81f1664ae8dd51f805b3fd8434d81e32d510c8398089887ad2a0037a98be07", func := "loop.example/g00979/laws.FnMixing", spec := "fnMixing", apart := false }
def FnMixingSaid : Prop := fnMixingRow.holds Try.pinned (OpenSpec.ofChange fnMixingSpec)

/-- ITS FALSE NEIGHBOUR: 'it returns false'. Refute it at one input. -/
def fnMixingWrong : ChangeSpec := { name := "fnMixing", fn := fun _ => fun
  | [d] => { results := [.lit (.bool false)], args := [d] }
  | _ => none }
def FnMixingWrongFalsely : Prop := fnMixingRow.holds Try.pinned (OpenSpec.ofChange fnMixingWrong)

/-- 'laws.FnXor': WHATEVER THE INPUT: true; the input reads as it did. -/
def fnXorSpec : ChangeSpec := { name := "fnXor", fn := fun _ => fun
  | [d] => { results := [.lit (.bool true)], args := [d] }
  | _ => none }
def fnXorRow : OpenClaim := { program := "ytljeldpegpnkdaa", sum := "0a81f1664ae8dd51f805b3fd8434d81e32d510c8398089887ad2a0037a98be07", func := "loop.example/g00979/laws.FnXor", spec := "fnXor", apart := false }
def FnXorSaid : Prop := fnXorRow.holds Try.pinned (OpenSpec.ofChange fnXorSpec)

/-- ITS FALSE NEIGHBOUR: 'it returns false'. Refute it at one input. -/
def fnXorWrong : ChangeSpec := { name := "fnXor", fn := fun _ => fun
  | [d] => { results := [.lit (.bool false)], args := [d] }
  | _ => none }
def FnXorWrongFalsely : Prop := fnXorRow.holds Try.pinned (OpenSpec.ofChange fnXorWrong)

/-- 'laws.FnExactIsWord': WHATEVER THE INPUT: true; the input reads as it did. -/
def fnExactIsWordSpec : ChangeSpec := { name := "fnExactIsWord", fn := fun _ => fun
  | [d] => { results := [.lit (.bool true)], args := [d] }
  | _ => none }
def fnExactIsWordRow : OpenClaim := { program := "ytljeldpegpnkdaa", sum := "0a81f1664ae8dd51f805b3fd8434d81e32d510c8398089887ad2a0037a98be07", func := "loop.example/g00979/laws.FnExactIsWord", spec := "fnExactIsWord", apart := false }
def FnExactIsWordSaid : Prop := fnExactIsWordRow.holds Try.pinned (OpenSpec.ofChange fnExactIsWordSpec)

/-- ITS FALSE NEIGHBOUR: 'it returns false'. Refute it at one input. -/
def fnExactIsWordWrong : ChangeSpec := { name := "fnExactIsWord", fn := fun _ => fun
  | [d] => { results := [.lit (.bool false)], args := [d] }
  | _ => none }
def FnExactIsWordWrongFalsely : Prop := fnExactIsWordRow.holds Try.pinned (OpenSpec.ofChange fnExactIsWordWrong)

/-- 'laws.FnExactXorWords': WHATEVER THE INPUT: true; the input reads as it did. -/
def fnExactXorWordsSpec : ChangeSpec := { name := "fnExactXorWords", fn := fun _ => fun
  | [d1, d2] => { results := [.lit (.bool true)], args := [d1, d2] }
  | _ => none }
def fnExactXorWordsRow : OpenClaim := { program := "ytljeldpegpnkdaa", sum := "0a81f1664ae8dd51f805b3fd8434d81e32d510c8398089887ad2a0037a98be07", func := "loop.example/g00979/laws.FnExactXorWords", spec := "fnExactXorWords", apart := false }
def FnExactXorWordsSaid : Prop := fnExactXorWordsRow.holds Try.pinned (OpenSpec.ofChange fnExactXorWordsSpec)

/-- ITS FALSE NEIGHBOUR: 'it returns false'. Refute it at one input. -/
def fnExactXorWordsWrong : ChangeSpec := { name := "fnExactXorWords", fn := fun _ => fun
  | [d1, d2] => { results := [.lit (.bool false)], args := [d1, d2] }
  | _ => none }
def FnExactXorWordsWrongFalsely : Prop := fnExactXorWordsRow.holds Try.pinned (OpenSpec.ofChange fnExactXorWordsWrong)

/-- 'laws.FnExactLowBit': WHATEVER THE INPUT: true; the input reads as it did. -/
def fnExactLowBitSpec : ChangeSpec := { name := "fnExactLowBit", fn := fun _ => fun
  | [d] => { results := [.lit (.bool true)], args := [d] }
  | _ => none }
def fnExactLowBitRow : OpenClaim := { program := "ytljeldpegpnkdaa", sum := "0a81f1664ae8dd51f805b3fd8434d81e32d510c8398089887ad2a0037a98be07", func := "loop.example/g00979/laws.FnExactLowBit", spec := "fnExactLowBit", apart := false }
def FnExactLowBitSaid : Prop := fnExactLowBitRow.holds Try.pinned (OpenSpec.ofChange fnExactLowBitSpec)

/-- ITS FALSE NEIGHBOUR: 'it returns false'. Refute it at one input. -/
def fnExactLowBitWrong : ChangeSpec := { name := "fnExactLowBit", fn := fun _ => fun
  | [d] => { results := [.lit (.bool false)], args := [d] }
  | _ => none }
def FnExactLowBitWrongFalsely : Prop := fnExactLowBitRow.holds Try.pinned (OpenSpec.ofChange fnExactLowBitWrong)

/-- 'laws.FnExactMix': WHATEVER THE INPUT: true; the input reads as it did. -/
def fnExactMixSpec : ChangeSpec := { name := "fnExactMix", fn := fun _ => fun
  | [d] => { results := [.lit (.bool true)], args := [d] }
  | _ => none }
def fnExactMixRow : OpenClaim := { program := "ytljeldpegpnkdaa", sum := "0a81f1664ae8dd51f805b3fd8434d81e32d510c8398089887ad2a0037a98be07", func := "loop.example/g00979/laws.FnExactMix", spec := "fnExactMix", apart := false }
def FnExactMixSaid : Prop := fnExactMixRow.holds Try.pinned (OpenSpec.ofChange fnExactMixSpec)

/-- ITS FALSE NEIGHBOUR: 'it returns false'. Refute it at one input. -/
def fnExactMixWrong : ChangeSpec := { name := "fnExactMix", fn := fun _ => fun
  | [d] => { results := [.lit (.bool false)], args := [d] }
  | _ => none }
def FnExactMixWrongFalsely : Prop := fnExactMixRow.holds Try.pinned (OpenSpec.ofChange fnExactMixWrong)

/-- 'laws.FnExactKeyed': WHATEVER THE INPUT: true; the input reads as it did. -/
def fnExactKeyedSpec : ChangeSpec := { name := "fnExactKeyed", fn := fun _ => fun
  | [d1, d2, d3] => { results := [.lit (.bool true)], args := [d1, d2, d3] }
  | _ => none }
def fnExactKeyedRow : OpenClaim := { program := "ytljeldpegpnkdaa", sum := "0a81f1664ae8dd51f805b3fd8434d81e32d510c8398089887ad2a0037a98be07", func := "loop.example/g00979/laws.FnExactKeyed", spec := "fnExactKeyed", apart := false }
def FnExactKeyedSaid : Prop := fnExactKeyedRow.holds Try.pinned (OpenSpec.ofChange fnExactKeyedSpec)

/-- ITS FALSE NEIGHBOUR: 'it returns false'. Refute it at one input. -/
def fnExactKeyedWrong : ChangeSpec := { name := "fnExactKeyed", fn := fun _ => fun
  | [d1, d2, d3] => { results := [.lit (.bool false)], args := [d1, d2, d3] }
  | _ => none }
def FnExactKeyedWrongFalsely : Prop := fnExactKeyedRow.holds Try.pinned (OpenSpec.ofChange fnExactKeyedWrong)

/- THE SECOND FORM. 'bulk': how many values and letters a reading holds, each counted each time it is reached (what is shared counts as often as it is met; a slice's spare places count too). A statement '..UptoSaid' is the law's where the arguments, and the package variables that the reading takes, are together of bulk at most 1048576: NARROWER than '..Said'. Prove '..Said' where nothing that the law and all that it calls make is longer than what came in: it says more and counts as full. Else prove '..UptoSaid'. A law counts once. -/
mutual
def uptoBulk {H : Type} : DataW H → Nat
  | .lit (.string bytes) => bytes.length + 1
  | .lit _ => 1
  | .nil => 1
  | .ptr d => uptoBulk d + 1
  | .slice elems spare => uptoBulkAll elems + uptoBulkAll spare + 1
  | .agg parts => uptoBulkAll parts + 1
  | .iface _ d => uptoBulk d + 1
  | .map entries => uptoBulkEntries entries + 1
  | .held _ => 1
def uptoBulkAll {H : Type} : List (DataW H) → Nat
  | [] => 0
  | d :: r => uptoBulk d + uptoBulkAll r
def uptoBulkEntries {H : Type} : List (Lit × DataW H) → Nat
  | [] => 0
  | x :: r => uptoBulkEntry x + uptoBulkEntries r
def uptoBulkEntry {H : Type} : Lit × DataW H → Nat
  | (.string bytes, d) => bytes.length + uptoBulk d + 1
  | (_, d) => uptoBulk d + 1
 end
def uptoSmall : (H : Type) → List (DataW H) → Bool := fun _ ds => decide (uptoBulkAll ds ≤ 1048576)
def OpenSpec.upto (s : _root_.Go.ChangeSpec) : _root_.Go.OpenSpec := { _root_.Go.OpenSpec.ofChange s with cond := some uptoSmall }

/-- 'laws.FnMixing', WHERE WHAT IT READS IS OF BULK AT MOST 1048576: true; the input reads as it did. -/
def fnMixingUptoRow : OpenClaim := { program := "ytljeldpegpnkdaa", sum := "0a81f1664ae8dd51f805b3fd8434d81e32d510c8398089887ad2a0037a98be07", func := "loop.example/g00979/laws.FnMixing", spec := "fnMixing", apart := false, narrowed := true }
def FnMixingUptoSaid : Prop := fnMixingUptoRow.holds Try.pinned (OpenSpec.upto fnMixingSpec)

/-- 'laws.FnXor', WHERE WHAT IT READS IS OF BULK AT MOST 1048576: true; the input reads as it did. -/
def fnXorUptoRow : OpenClaim := { program := "ytljeldpegpnkdaa", sum := "0a81f1664ae8dd51f805b3fd8434d81e32d510c8398089887ad2a0037a98be07", func := "loop.example/g00979/laws.FnXor", spec := "fnXor", apart := false, narrowed := true }
def FnXorUptoSaid : Prop := fnXorUptoRow.holds Try.pinned (OpenSpec.upto fnXorSpec)

/-- 'laws.FnExactIsWord', WHERE WHAT IT READS IS OF BULK AT MOST 1048576: true; the input reads as it did. -/
def fnExactIsWordUptoRow : OpenClaim := { program := "ytljeldpegpnkdaa", sum := "0a81f1664ae8dd51f805b3fd8434d81e32d510c8398089887ad2a0037a98be07", func := "loop.example/g00979/laws.FnExactIsWord", spec := "fnExactIsWord", apart := false, narrowed := true }
def FnExactIsWordUptoSaid : Prop := fnExactIsWordUptoRow.holds Try.pinned (OpenSpec.upto fnExactIsWordSpec)

/-- 'laws.FnExactXorWords', WHERE WHAT IT READS IS OF BULK AT MOST 1048576: true; the input reads as it did. -/
def fnExactXorWordsUptoRow : OpenClaim := { program := "ytljeldpegpnkdaa", sum := "0a81f1664ae8dd51f805b3fd8434d81e32d510c8398089887ad2a0037a98be07", func := "loop.example/g00979/laws.FnExactXorWords", spec := "fnExactXorWords", apart := false, narrowed := true }
def FnExactXorWordsUptoSaid : Prop := fnExactXorWordsUptoRow.holds Try.pinned (OpenSpec.upto fnExactXorWordsSpec)

/-- 'laws.FnExactLowBit', WHERE WHAT IT READS IS OF BULK AT MOST 1048576: true; the input reads as it did. -/
def fnExactLowBitUptoRow : OpenClaim := { program := "ytljeldpegpnkdaa", sum := "0a81f1664ae8dd51f805b3fd8434d81e32d510c8398089887ad2a0037a98be07", func := "loop.example/g00979/laws.FnExactLowBit", spec := "fnExactLowBit", apart := false, narrowed := true }
def FnExactLowBitUptoSaid : Prop := fnExactLowBitUptoRow.holds Try.pinned (OpenSpec.upto fnExactLowBitSpec)

/-- 'laws.FnExactMix', WHERE WHAT IT READS IS OF BULK AT MOST 1048576: true; the input reads as it did. -/
def fnExactMixUptoRow : OpenClaim := { program := "ytljeldpegpnkdaa", sum := "0a81f1664ae8dd51f805b3fd8434d81e32d510c8398089887ad2a0037a98be07", func := "loop.example/g00979/laws.FnExactMix", spec := "fnExactMix", apart := false, narrowed := true }
def FnExactMixUptoSaid : Prop := fnExactMixUptoRow.holds Try.pinned (OpenSpec.upto fnExactMixSpec)

/-- 'laws.FnExactKeyed', WHERE WHAT IT READS IS OF BULK AT MOST 1048576: true; the input reads as it did. -/
def fnExactKeyedUptoRow : OpenClaim := { program := "ytljeldpegpnkdaa", sum := "0a81f1664ae8dd51f805b3fd8434d81e32d510c8398089887ad2a0037a98be07", func := "loop.example/g00979/laws.FnExactKeyed", spec := "fnExactKeyed", apart := false, narrowed := true }
def FnExactKeyedUptoSaid : Prop := fnExactKeyedUptoRow.holds Try.pinned (OpenSpec.upto fnExactKeyedSpec)

end Rows
end Go.Proofs.Ytljeldpegpnkdaa

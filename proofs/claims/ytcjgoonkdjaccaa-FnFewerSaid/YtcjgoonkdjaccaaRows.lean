/-
  No cell of these rows narrows 'for every input' (looked for: loops, veiled, ifaces, maps, wideKeys, modest, calm, conditions, laid).
  DERIVED. THE GIVEN ROWS OF THIS SEAT. 9 by the template 'for every input the law returns true; each argument reads behind the call as it read before'; 0 by the template 'total and deterministic' (their statements: YtcjgoonkdjaccaaTotals.lean).
  GIVEN WITH THE SEED: the statements are not yours to turn. If you find one false, say at which input.
  Laid BY PROGRAM, IN A SANDBOX (cutbox-rows.mjs): the forced cells as the released guide's own fill.sh prints them over the translation f3d913a436fb4925… (all of the seat's roots in one cut). By AI agents, Wed Nov 11 2026. No macro, syntax, notation, axiom, sorry.
-/
import Derived.Test.YtcjgoonkdjaccaaChecked
import GoSem.Claim
import GoSem.ClaimJoined
import GoSem.ClaimMapViews
import Derived.JoinedTies
import Derived.KernelRfl
namespace Go.Proofs.Ytcjgoonkdjaccaa
/- THE CELL 'sum', in the pinned program and in every row, IS THE sha256 OF THE DUMP (.gsa) THAT YtcjgoonkdjaccaaProg.lean LOADS. Nothing in Lean hashes anything: it is a label: what it is worth is what the hold of that sum in a sandbox is worth. -/
noncomputable def Try.pinned : Pinned := { name := "ytcjgoonkdjaccaa", sum := "f3d913a436fb49255f5217492c6512ee3c402d92c1bdefcbf2c5d3a7f6a895af", checked := Try.checked }
namespace Rows
def none {H : Type} : Left H := { results := [], args := [] }

/-- 'laws.FnThreshold': WHATEVER THE INPUT: true; the input reads as it did. -/
def fnThresholdSpec : ChangeSpec := { name := "fnThreshold", fn := fun _ => fun
  | [d] => { results := [.lit (.bool true)], args := [d] }
  | _ => none }
def fnThresholdRow : OpenClaim := { program := "ytcjgoonkdjaccaa", sum := "f3d913a436fb49255f5217492c6512ee3c402d92c1bdefcbf2c5d3a7f6a895af", func := "loop.example/g00979/laws.FnThreshold", spec := "fnThreshold", unfollowed := true, recurses := true, apart := false }
def FnThresholdSaid : Prop := fnThresholdRow.holds Try.pinned (OpenSpec.ofChange fnThresholdSpec)

/-- ITS FALSE NEIGHBOUR: 'it returns false'. Refute it at one input. -/
def fnThresholdWrong : ChangeSpec := { name := "fnThreshold", fn := fun _ => fun
  | [d] => { results := [.lit (.bool false)], args := [d] }
  | _ => none }
def FnThresholdWrongFalsely : Prop := fnThresholdRow.holds Try.pinned (OpenSpec.ofChange fnThresholdWrong)

/-- 'laws.FnFewer': WHATEVER THE INPUT: true; the input reads as it did. -/
def fnFewerSpec : ChangeSpec := { name := "fnFewer", fn := fun _ => fun
  | [d] => { results := [.lit (.bool true)], args := [d] }
  | _ => none }
def fnFewerRow : OpenClaim := { program := "ytcjgoonkdjaccaa", sum := "f3d913a436fb49255f5217492c6512ee3c402d92c1bdefcbf2c5d3a7f6a895af", func := "loop.example/g00979/laws.FnFewer", spec := "fnFewer", unfollowed := true, recurses := true, apart := false }
def FnFewerSaid : Prop := fnFewerRow.holds Try.pinned (OpenSpec.ofChange fnFewerSpec)

/-- ITS FALSE NEIGHBOUR: 'it returns false'. Refute it at one input. -/
def fnFewerWrong : ChangeSpec := { name := "fnFewer", fn := fun _ => fun
  | [d] => { results := [.lit (.bool false)], args := [d] }
  | _ => none }
def FnFewerWrongFalsely : Prop := fnFewerRow.holds Try.pinned (OpenSpec.ofChange fnFewerWrong)

/-- 'laws.FnWrongShare': WHATEVER THE INPUT: true; the input reads as it did. -/
def fnWrongShareSpec : ChangeSpec := { name := "fnWrongShare", fn := fun _ => fun
  | [d] => { results := [.lit (.bool true)], args := [d] }
  | _ => none }
def fnWrongShareRow : OpenClaim := { program := "ytcjgoonkdjaccaa", sum := "f3d913a436fb49255f5217492c6512ee3c402d92c1bdefcbf2c5d3a7f6a895af", func := "loop.example/g00979/laws.FnWrongShare", spec := "fnWrongShare", unfollowed := true, recurses := true, apart := false }
def FnWrongShareSaid : Prop := fnWrongShareRow.holds Try.pinned (OpenSpec.ofChange fnWrongShareSpec)

/-- ITS FALSE NEIGHBOUR: 'it returns false'. Refute it at one input. -/
def fnWrongShareWrong : ChangeSpec := { name := "fnWrongShare", fn := fun _ => fun
  | [d] => { results := [.lit (.bool false)], args := [d] }
  | _ => none }
def FnWrongShareWrongFalsely : Prop := fnWrongShareRow.holds Try.pinned (OpenSpec.ofChange fnWrongShareWrong)

/-- 'laws.FnLinearShares': WHATEVER THE INPUT: true; the input reads as it did. -/
def fnLinearSharesSpec : ChangeSpec := { name := "fnLinearShares", fn := fun _ => fun
  | [d] => { results := [.lit (.bool true)], args := [d] }
  | _ => none }
def fnLinearSharesRow : OpenClaim := { program := "ytcjgoonkdjaccaa", sum := "f3d913a436fb49255f5217492c6512ee3c402d92c1bdefcbf2c5d3a7f6a895af", func := "loop.example/g00979/laws.FnLinearShares", spec := "fnLinearShares", unfollowed := true, recurses := true, apart := false }
def FnLinearSharesSaid : Prop := fnLinearSharesRow.holds Try.pinned (OpenSpec.ofChange fnLinearSharesSpec)

/-- ITS FALSE NEIGHBOUR: 'it returns false'. Refute it at one input. -/
def fnLinearSharesWrong : ChangeSpec := { name := "fnLinearShares", fn := fun _ => fun
  | [d] => { results := [.lit (.bool false)], args := [d] }
  | _ => none }
def FnLinearSharesWrongFalsely : Prop := fnLinearSharesRow.holds Try.pinned (OpenSpec.ofChange fnLinearSharesWrong)

/-- 'laws.FnExactPolyAt': WHATEVER THE INPUT: true; the input reads as it did. -/
def fnExactPolyAtSpec : ChangeSpec := { name := "fnExactPolyAt", fn := fun _ => fun
  | [d1, d2, d3] => { results := [.lit (.bool true)], args := [d1, d2, d3] }
  | _ => none }
def fnExactPolyAtRow : OpenClaim := { program := "ytcjgoonkdjaccaa", sum := "f3d913a436fb49255f5217492c6512ee3c402d92c1bdefcbf2c5d3a7f6a895af", func := "loop.example/g00979/laws.FnExactPolyAt", spec := "fnExactPolyAt", unfollowed := true, recurses := true, apart := false }
def FnExactPolyAtSaid : Prop := fnExactPolyAtRow.holds Try.pinned (OpenSpec.ofChange fnExactPolyAtSpec)

/-- ITS FALSE NEIGHBOUR: 'it returns false'. Refute it at one input. -/
def fnExactPolyAtWrong : ChangeSpec := { name := "fnExactPolyAt", fn := fun _ => fun
  | [d1, d2, d3] => { results := [.lit (.bool false)], args := [d1, d2, d3] }
  | _ => none }
def FnExactPolyAtWrongFalsely : Prop := fnExactPolyAtRow.holds Try.pinned (OpenSpec.ofChange fnExactPolyAtWrong)

/-- 'laws.FnExactSharePoly': WHATEVER THE INPUT: true; the input reads as it did. -/
def fnExactSharePolySpec : ChangeSpec := { name := "fnExactSharePoly", fn := fun _ => fun
  | [d1, d2, d3, d4, d5] => { results := [.lit (.bool true)], args := [d1, d2, d3, d4, d5] }
  | _ => none }
def fnExactSharePolyRow : OpenClaim := { program := "ytcjgoonkdjaccaa", sum := "f3d913a436fb49255f5217492c6512ee3c402d92c1bdefcbf2c5d3a7f6a895af", func := "loop.example/g00979/laws.FnExactSharePoly", spec := "fnExactSharePoly", unfollowed := true, recurses := true, apart := false }
def FnExactSharePolySaid : Prop := fnExactSharePolyRow.holds Try.pinned (OpenSpec.ofChange fnExactSharePolySpec)

/-- ITS FALSE NEIGHBOUR: 'it returns false'. Refute it at one input. -/
def fnExactSharePolyWrong : ChangeSpec := { name := "fnExactSharePoly", fn := fun _ => fun
  | [d1, d2, d3, d4, d5] => { results := [.lit (.bool false)], args := [d1, d2, d3, d4, d5] }
  | _ => none }
def FnExactSharePolyWrongFalsely : Prop := fnExactSharePolyRow.holds Try.pinned (OpenSpec.ofChange fnExactSharePolyWrong)

/-- 'laws.FnExactOpenPoly': WHATEVER THE INPUT: true; the input reads as it did. -/
def fnExactOpenPolySpec : ChangeSpec := { name := "fnExactOpenPoly", fn := fun _ => fun
  | [d1, d2, d3] => { results := [.lit (.bool true)], args := [d1, d2, d3] }
  | _ => none }
def fnExactOpenPolyRow : OpenClaim := { program := "ytcjgoonkdjaccaa", sum := "f3d913a436fb49255f5217492c6512ee3c402d92c1bdefcbf2c5d3a7f6a895af", func := "loop.example/g00979/laws.FnExactOpenPoly", spec := "fnExactOpenPoly", unfollowed := true, recurses := true, apart := false }
def FnExactOpenPolySaid : Prop := fnExactOpenPolyRow.holds Try.pinned (OpenSpec.ofChange fnExactOpenPolySpec)

/-- ITS FALSE NEIGHBOUR: 'it returns false'. Refute it at one input. -/
def fnExactOpenPolyWrong : ChangeSpec := { name := "fnExactOpenPoly", fn := fun _ => fun
  | [d1, d2, d3] => { results := [.lit (.bool false)], args := [d1, d2, d3] }
  | _ => none }
def FnExactOpenPolyWrongFalsely : Prop := fnExactOpenPolyRow.holds Try.pinned (OpenSpec.ofChange fnExactOpenPolyWrong)

/-- 'laws.FnExactPolyConsistent': WHATEVER THE INPUT: true; the input reads as it did. -/
def fnExactPolyConsistentSpec : ChangeSpec := { name := "fnExactPolyConsistent", fn := fun _ => fun
  | [d1, d2, d3] => { results := [.lit (.bool true)], args := [d1, d2, d3] }
  | _ => none }
def fnExactPolyConsistentRow : OpenClaim := { program := "ytcjgoonkdjaccaa", sum := "f3d913a436fb49255f5217492c6512ee3c402d92c1bdefcbf2c5d3a7f6a895af", func := "loop.example/g00979/laws.FnExactPolyConsistent", spec := "fnExactPolyConsistent", unfollowed := true, recurses := true, apart := false }
def FnExactPolyConsistentSaid : Prop := fnExactPolyConsistentRow.holds Try.pinned (OpenSpec.ofChange fnExactPolyConsistentSpec)

/-- ITS FALSE NEIGHBOUR: 'it returns false'. Refute it at one input. -/
def fnExactPolyConsistentWrong : ChangeSpec := { name := "fnExactPolyConsistent", fn := fun _ => fun
  | [d1, d2, d3] => { results := [.lit (.bool false)], args := [d1, d2, d3] }
  | _ => none }
def FnExactPolyConsistentWrongFalsely : Prop := fnExactPolyConsistentRow.holds Try.pinned (OpenSpec.ofChange fnExactPolyConsistentWrong)

/-- 'laws.FnExactCountPolys': WHATEVER THE INPUT: true; the input reads as it did. -/
def fnExactCountPolysSpec : ChangeSpec := { name := "fnExactCountPolys", fn := fun _ => fun
  | [d1, d2, d3, d4, d5] => { results := [.lit (.bool true)], args := [d1, d2, d3, d4, d5] }
  | _ => none }
def fnExactCountPolysRow : OpenClaim := { program := "ytcjgoonkdjaccaa", sum := "f3d913a436fb49255f5217492c6512ee3c402d92c1bdefcbf2c5d3a7f6a895af", func := "loop.example/g00979/laws.FnExactCountPolys", spec := "fnExactCountPolys", unfollowed := true, recurses := true, apart := false }
def FnExactCountPolysSaid : Prop := fnExactCountPolysRow.holds Try.pinned (OpenSpec.ofChange fnExactCountPolysSpec)

/-- ITS FALSE NEIGHBOUR: 'it returns false'. Refute it at one input. -/
def fnExactCountPolysWrong : ChangeSpec := { name := "fnExactCountPolys", fn := fun _ => fun
  | [d1, d2, d3, d4, d5] => { results := [.lit (.bool false)], args := [d1, d2, d3, d4, d5] }
  | _ => none }
def FnExactCountPolysWrongFalsely : Prop := fnExactCountPolysRow.holds Try.pinned (OpenSpec.ofChange fnExactCountPolysWrong)

/- THE SECOND FORM. 'bulk': how many values and letters a reading holds, each counted each time it is reached (what is shared counts as often as it is met; a slice's spare places count too). A statement '..UptoSaid' is the law's where the arguments, and the package variables that the reading takes, are together of bulk at most 1048576: NARROWER than '..Said'. Prove '..Said' where nothing that the law and all that it calls make is longer than what came in: it says more and counts as full. Else prove '..UptoSaid'. A law counts once. -/
mutual
def uptoBulk {H : Type} : DataW H → Nat
  | .lit (.string bytes) => bytes.length + 1
  | .lit _ => 1
  | .nil => 1
  | .ptr d => uptoBulk d + 1
  | .slice elems spare => uptoBulkAll elems + uptoBulkAll spare + 1
  | .agg parts => uptoBulkAll parts + 1
  | .iface _ d => uptoBulk d + 1
  | .map entries => uptoBulkEntries entries + 1
  | .held _ => 1
def uptoBulkAll {H : Type} : List (DataW H) → Nat
  | [] => 0
  | d :: r => uptoBulk d + uptoBulkAll r
def uptoBulkEntries {H : Type} : List (Lit × DataW H) → Nat
  | [] => 0
  | x :: r => uptoBulkEntry x + uptoBulkEntries r
def uptoBulkEntry {H : Type} : Lit × DataW H → Nat
  | (.string bytes, d) => bytes.length + uptoBulk d + 1
  | (_, d) => uptoBulk d + 1
 end
def uptoSmall : (H : Type) → List (DataW H) → Bool := fun _ ds => decide (uptoBulkAll ds ≤ 1048576)
def OpenSpec.upto (s : _root_.Go.ChangeSpec) : _root_.Go.OpenSpec := { _root_.Go.OpenSpec.ofChange s with cond := some uptoSmall }

/-- 'laws.FnThreshold', WHERE WHAT IT READS IS OF BULK AT MOST 1048576: true; the input reads as it did. -/
def fnThresholdUptoRow : OpenClaim := { program := "ytcjgoonkdjaccaa", sum := "f3d913a436fb49255f5217492c6512ee3c402d92c1bdefcbf2c5d3a7f6a895af", func := "loop.example/g00979/laws.FnThreshold", spec := "fnThreshold", unfollowed := true, recurses := true, apart := false, narrowed := true }
def FnThresholdUptoSaid : Prop := fnThresholdUptoRow.holds Try.pinned (OpenSpec.upto fnThresholdSpec)

/-- 'laws.FnFewer', WHERE WHAT IT READS IS OF BULK AT MOST 1048576: true; the input reads as it did. -/
def fnFewerUptoRow : OpenClaim := { program := "ytcjgoonkdjaccaa", sum := "f3d913a436fb49255f5217492c6512ee3c402d92c1bdefcbf2c5d3a7f6a895af", func := "loop.example/g00979/laws.FnFewer", spec := "fnFewer", unfollowed := true, recurses := true, apart := false, narrowed := true }
def FnFewerUptoSaid : Prop := fnFewerUptoRow.holds Try.pinned (OpenSpec.upto fnFewerSpec)

/-- 'laws.FnWrongShare', WHERE WHAT IT READS IS OF BULK AT MOST 1048576: true; the input reads as it did. -/
def fnWrongShareUptoRow : OpenClaim := { program := "ytcjgoonkdjaccaa", sum := "f3d913a436fb49255f5217492c6512ee3c402d92c1bdefcbf2c5d3a7f6a895af", func := "loop.example/g00979/laws.FnWrongShare", spec := "fnWrongShare", unfollowed := true, recurses := true, apart := false, narrowed := true }
def FnWrongShareUptoSaid : Prop := fnWrongShareUptoRow.holds Try.pinned (OpenSpec.upto fnWrongShareSpec)

/-- 'laws.FnLinearShares', WHERE WHAT IT READS IS OF BULK AT MOST 1048576: true; the input reads as it did. -/
def fnLinearSharesUptoRow : OpenClaim := { program := "ytcjgoonkdjaccaa", sum := "f3d913a436fb49255f5217492c6512ee3c402d92c1bdefcbf2c5d3a7f6a895af", func := "loop.example/g00979/laws.FnLinearShares", spec := "fnLinearShares", unfollowed := true, recurses := true, apart := false, narrowed := true }
def FnLinearSharesUptoSaid : Prop := fnLinearSharesUptoRow.holds Try.pinned (OpenSpec.upto fnLinearSharesSpec)

/-- 'laws.FnExactPolyAt', WHERE WHAT IT READS IS OF BULK AT MOST 1048576: true; the input reads as it did. -/
def fnExactPolyAtUptoRow : OpenClaim := { program := "ytcjgoonkdjaccaa", sum := "f3d913a436fb49255f5217492c6512ee3c402d92c1bdefcbf2c5d3a7f6a895af", func := "loop.example/g00979/laws.FnExactPolyAt", spec := "fnExactPolyAt", unfollowed := true, recurses := true, apart := false, narrowed := true }
def FnExactPolyAtUptoSaid : Prop := fnExactPolyAtUptoRow.holds Try.pinned (OpenSpec.upto fnExactPolyAtSpec)

/-- 'laws.FnExactSharePoly', WHERE WHAT IT READS IS OF BULK AT MOST 1048576: true; the input reads as it did. -/
def fnExactSharePolyUptoRow : OpenClaim := { program := "ytcjgoonkdjaccaa", sum := "f3d913a436fb49255f5217492c6512ee3c402d92c1bdefcbf2c5d3a7f6a895af", func := "loop.example/g00979/laws.FnExactSharePoly", spec := "fnExactSharePoly", unfollowed := true, recurses := true, apart := false, narrowed := true }
def FnExactSharePolyUptoSaid : Prop := fnExactSharePolyUptoRow.holds Try.pinned (OpenSpec.upto fnExactSharePolySpec)

/-- 'laws.FnExactOpenPoly', WHERE WHAT IT READS IS OF BULK AT MOST 1048576: true; the input reads as it did. -/
def fnExactOpenPolyUptoRow : OpenClaim := { program := "ytcjgoonkdjaccaa", sum := "f3d913a436fb49255f5217492c6512ee3c402d92c1bdefcbf2c5d3a7f6a895af", func := "loop.example/g00979/laws.FnExactOpenPoly", spec := "fnExactOpenPoly", unfollowed := true, recurses := true, apart := false, narrowed := true }
def FnExactOpenPolyUptoSaid : Prop := fnExactOpenPolyUptoRow.holds Try.pinned (OpenSpec.upto fnExactOpenPolySpec)

/-- 'laws.FnExactPolyConsistent', WHERE WHAT IT READS IS OF BULK AT MOST 1048576: true; the input reads as it did. -/
def fnExactPolyConsistentUptoRow : OpenClaim := { program := "ytcjgoonkdjaccaa", sum := "f3d913a436fb49255f5217492c6512ee3c402d92c1bdefcbf2c5d3a7f6a895af", func := "loop.example/g00979/laws.FnExactPolyConsistent", spec := "fnExactPolyConsistent", unfollowed := true, recurses := true, apart := false, narrowed := true }
def FnExactPolyConsistentUptoSaid : Prop := fnExactPolyConsistentUptoRow.holds Try.pinned (OpenSpec.upto fnExactPolyConsistentSpec)

/-- 'laws.FnExactCountPolys', WHERE WHAT IT READS IS OF BULK AT MOST 1048576: true; the input reads as it did. -/
def fnExactCountPolysUptoRow : OpenClaim := { program := "ytcjgoonkdjaccaa", sum := "f3d913a436fb49255f5217492c6512ee3c402d92c1bdefcbf2c5d3a7f6a895af", func := "loop.example/g00979/laws.FnExactCountPolys", spec := "fnExactCountPolys", unfollowed := true, recurses := true, apart := false, narrowed := true }
def FnExactCountPolysUptoSaid : Prop := fnExactCountPolysUptoRow.holds Try.pinned (OpenSpec.upto fnExactCountPolysSpec)

end Rows
end Go.Proofs.Ytcjgoonkdjaccaa

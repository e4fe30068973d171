/-
  No cell of these rows narrows 'for every input' (looked for: loops, veiled, ifaces, maps, wideKeys, modest, calm, conditions, laid).
  DERIVED. THE GIVEN ROWS OF THIS SEAT. 9 by the template 'for every input the law returns true; each argument reads behind the call as it read before'; 0 by the template 'total and deterministic' (their statements: YtkcknejkldhmaabTotals.lean).
  GIVEN WITH THE SEED: the statements are not yours to turn. If you find one false, say at which input.
  Laid BY PROGRAM, IN A SANDBOX (cutbox-rows.mjs): the forced cells as the released guide's own fill.sh prints them over the translation 108d3b713e07d8bf… (all of the seat's roots in one cut). By AI agents, Wed Nov 11 2026. No macro, syntax, notation, axiom, sorry.
-/
import Derived.Test.YtkcknejkldhmaabChecked
import GoSem.Claim
import GoSem.ClaimJoined
import GoSem.ClaimMapViews
import Derived.JoinedTies
import Derived.KernelRfl
namespace Go.Proofs.Ytkcknejkldhmaab
/- THE CELL 'sum', in the pinned program and in every row, IS THE sha256 OF THE DUMP (.gsa) THAT YtkcknejkldhmaabProg.lean LOADS. Nothing in Lean hashes anything: it is a label: what it is worth is what the hold of that sum in a sandbox is worth. -/
noncomputable def Try.pinned : Pinned := { name := "ytkcknejkldhmaab", sum := "108d3b713e07d8bfea8e08aa8d3c8f2828cbb7ac1b60384fbd331fa264849a5e", checked := Try.checked }
namespace Rows
def none {H : Type} : Left H := { results := [], args := [] }

/-- 'laws.FnArithmetic': WHATEVER THE INPUT: true; the input reads as it did. -/
def fnArithmeticSpec : ChangeSpec := { name := "fnArithmetic", fn := fun _ => fun
  | [d] => { results := [.lit (.bool true)], args := [d] }
  | _ => none }
def fnArithmeticRow : OpenClaim := { program := "ytkcknejkldhmaab", sum := "108d3b713e07d8bfea8e08aa8d3c8f2828cbb7ac1b60384fbd331fa264849a5e", func := "loop.example/g00979/laws.FnArithmetic", spec := "fnArithmetic", unfollowed := true, recurses := true, apart := false }
def FnArithmeticSaid : Prop := fnArithmeticRow.holds Try.pinned (OpenSpec.ofChange fnArithmeticSpec)

/-- ITS FALSE NEIGHBOUR: 'it returns false'. Refute it at one input. -/
def fnArithmeticWrong : ChangeSpec := { name := "fnArithmetic", fn := fun _ => fun
  | [d] => { results := [.lit (.bool false)], args := [d] }
  | _ => none }
def FnArithmeticWrongFalsely : Prop := fnArithmeticRow.holds Try.pinned (OpenSpec.ofChange fnArithmeticWrong)

/-- 'laws.FnComparisons': WHATEVER THE INPUT: true; the input reads as it did. -/
def fnComparisonsSpec : ChangeSpec := { name := "fnComparisons", fn := fun _ => fun
  | [d] => { results := [.lit (.bool true)], args := [d] }
  | _ => none }
def fnComparisonsRow : OpenClaim := { program := "ytkcknejkldhmaab", sum := "108d3b713e07d8bfea8e08aa8d3c8f2828cbb7ac1b60384fbd331fa264849a5e", func := "loop.example/g00979/laws.FnComparisons", spec := "fnComparisons", unfollowed := true, recurses := true, apart := false }
def FnComparisonsSaid : Prop := fnComparisonsRow.holds Try.pinned (OpenSpec.ofChange fnComparisonsSpec)

/-- ITS FALSE NEIGHBOUR: 'it returns false'. Refute it at one input. -/
def fnComparisonsWrong : ChangeSpec := { name := "fnComparisons", fn := fun _ => fun
  | [d] => { results := [.lit (.bool false)], args := [d] }
  | _ => none }
def FnComparisonsWrongFalsely : Prop := fnComparisonsRow.holds Try.pinned (OpenSpec.ofChange fnComparisonsWrong)

/-- 'laws.FnExactWordConst': WHATEVER THE INPUT: true; the input reads as it did. -/
def fnExactWordConstSpec : ChangeSpec := { name := "fnExactWordConst", fn := fun _ => fun
  | [d1, d2] => { results := [.lit (.bool true)], args := [d1, d2] }
  | _ => none }
def fnExactWordConstRow : OpenClaim := { program := "ytkcknejkldhmaab", sum := "108d3b713e07d8bfea8e08aa8d3c8f2828cbb7ac1b60384fbd331fa264849a5e", func := "loop.example/g00979/laws.FnExactWordConst", spec := "fnExactWordConst", unfollowed := true, recurses := true, apart := false }
def FnExactWordConstSaid : Prop := fnExactWordConstRow.holds Try.pinned (OpenSpec.ofChange fnExactWordConstSpec)

/-- ITS FALSE NEIGHBOUR: 'it returns false'. Refute it at one input. -/
def fnExactWordConstWrong : ChangeSpec := { name := "fnExactWordConst", fn := fun _ => fun
  | [d1, d2] => { results := [.lit (.bool false)], args := [d1, d2] }
  | _ => none }
def FnExactWordConstWrongFalsely : Prop := fnExactWordConstRow.holds Try.pinned (OpenSpec.ofChange fnExactWordConstWrong)

/-- 'laws.FnExactWordAdd': WHATEVER THE INPUT: true; the input reads as it did. -/
def fnExactWordAddSpec : ChangeSpec := { name := "fnExactWordAdd", fn := fun _ => fun
  | [d1, d2, d3] => { results := [.lit (.bool true)], args := [d1, d2, d3] }
  | _ => none }
def fnExactWordAddRow : OpenClaim := { program := "ytkcknejkldhmaab", sum := "108d3b713e07d8bfea8e08aa8d3c8f2828cbb7ac1b60384fbd331fa264849a5e", func := "loop.example/g00979/laws.FnExactWordAdd", spec := "fnExactWordAdd", unfollowed := true, recurses := true, apart := false }
def FnExactWordAddSaid : Prop := fnExactWordAddRow.holds Try.pinned (OpenSpec.ofChange fnExactWordAddSpec)

/-- ITS FALSE NEIGHBOUR: 'it returns false'. Refute it at one input. -/
def fnExactWordAddWrong : ChangeSpec := { name := "fnExactWordAdd", fn := fun _ => fun
  | [d1, d2, d3] => { results := [.lit (.bool false)], args := [d1, d2, d3] }
  | _ => none }
def FnExactWordAddWrongFalsely : Prop := fnExactWordAddRow.holds Try.pinned (OpenSpec.ofChange fnExactWordAddWrong)

/-- 'laws.FnExactWordSub': WHATEVER THE INPUT: true; the input reads as it did. -/
def fnExactWordSubSpec : ChangeSpec := { name := "fnExactWordSub", fn := fun _ => fun
  | [d1, d2, d3] => { results := [.lit (.bool true)], args := [d1, d2, d3] }
  | _ => none }
def fnExactWordSubRow : OpenClaim := { program := "ytkcknejkldhmaab", sum := "108d3b713e07d8bfea8e08aa8d3c8f2828cbb7ac1b60384fbd331fa264849a5e", func := "loop.example/g00979/laws.FnExactWordSub", spec := "fnExactWordSub", unfollowed := true, recurses := true, apart := false }
def FnExactWordSubSaid : Prop := fnExactWordSubRow.holds Try.pinned (OpenSpec.ofChange fnExactWordSubSpec)

/-- ITS FALSE NEIGHBOUR: 'it returns false'. Refute it at one input. -/
def fnExactWordSubWrong : ChangeSpec := { name := "fnExactWordSub", fn := fun _ => fun
  | [d1, d2, d3] => { results := [.lit (.bool false)], args := [d1, d2, d3] }
  | _ => none }
def FnExactWordSubWrongFalsely : Prop := fnExactWordSubRow.holds Try.pinned (OpenSpec.ofChange fnExactWordSubWrong)

/-- 'laws.FnExactWordLess': WHATEVER THE INPUT: true; the input reads as it did. -/
def fnExactWordLessSpec : ChangeSpec := { name := "fnExactWordLess", fn := fun _ => fun
  | [d1, d2, d3] => { results := [.lit (.bool true)], args := [d1, d2, d3] }
  | _ => none }
def fnExactWordLessRow : OpenClaim := { program := "ytkcknejkldhmaab", sum := "108d3b713e07d8bfea8e08aa8d3c8f2828cbb7ac1b60384fbd331fa264849a5e", func := "loop.example/g00979/laws.FnExactWordLess", spec := "fnExactWordLess", unfollowed := true, recurses := true, apart := false }
def FnExactWordLessSaid : Prop := fnExactWordLessRow.holds Try.pinned (OpenSpec.ofChange fnExactWordLessSpec)

/-- ITS FALSE NEIGHBOUR: 'it returns false'. Refute it at one input. -/
def fnExactWordLessWrong : ChangeSpec := { name := "fnExactWordLess", fn := fun _ => fun
  | [d1, d2, d3] => { results := [.lit (.bool false)], args := [d1, d2, d3] }
  | _ => none }
def FnExactWordLessWrongFalsely : Prop := fnExactWordLessRow.holds Try.pinned (OpenSpec.ofChange fnExactWordLessWrong)

/-- 'laws.FnExactWordEqual': WHATEVER THE INPUT: true; the input reads as it did. -/
def fnExactWordEqualSpec : ChangeSpec := { name := "fnExactWordEqual", fn := fun _ => fun
  | [d1, d2, d3] => { results := [.lit (.bool true)], args := [d1, d2, d3] }
  | _ => none }
def fnExactWordEqualRow : OpenClaim := { program := "ytkcknejkldhmaab", sum := "108d3b713e07d8bfea8e08aa8d3c8f2828cbb7ac1b60384fbd331fa264849a5e", func := "loop.example/g00979/laws.FnExactWordEqual", spec := "fnExactWordEqual", unfollowed := true, recurses := true, apart := false }
def FnExactWordEqualSaid : Prop := fnExactWordEqualRow.holds Try.pinned (OpenSpec.ofChange fnExactWordEqualSpec)

/-- ITS FALSE NEIGHBOUR: 'it returns false'. Refute it at one input. -/
def fnExactWordEqualWrong : ChangeSpec := { name := "fnExactWordEqual", fn := fun _ => fun
  | [d1, d2, d3] => { results := [.lit (.bool false)], args := [d1, d2, d3] }
  | _ => none }
def FnExactWordEqualWrongFalsely : Prop := fnExactWordEqualRow.holds Try.pinned (OpenSpec.ofChange fnExactWordEqualWrong)

/-- 'laws.FnExactWordMux': WHATEVER THE INPUT: true; the input reads as it did. -/
def fnExactWordMuxSpec : ChangeSpec := { name := "fnExactWordMux", fn := fun _ => fun
  | [d1, d2, d3, d4] => { results := [.lit (.bool true)], args := [d1, d2, d3, d4] }
  | _ => none }
def fnExactWordMuxRow : OpenClaim := { program := "ytkcknejkldhmaab", sum := "108d3b713e07d8bfea8e08aa8d3c8f2828cbb7ac1b60384fbd331fa264849a5e", func := "loop.example/g00979/laws.FnExactWordMux", spec := "fnExactWordMux", unfollowed := true, recurses := true, apart := false }
def FnExactWordMuxSaid : Prop := fnExactWordMuxRow.holds Try.pinned (OpenSpec.ofChange fnExactWordMuxSpec)

/-- ITS FALSE NEIGHBOUR: 'it returns false'. Refute it at one input. -/
def fnExactWordMuxWrong : ChangeSpec := { name := "fnExactWordMux", fn := fun _ => fun
  | [d1, d2, d3, d4] => { results := [.lit (.bool false)], args := [d1, d2, d3, d4] }
  | _ => none }
def FnExactWordMuxWrongFalsely : Prop := fnExactWordMuxRow.holds Try.pinned (OpenSpec.ofChange fnExactWordMuxWrong)

/-- 'laws.FnExactWordMul': WHATEVER THE INPUT: true; the input reads as it did. -/
def fnExactWordMulSpec : ChangeSpec := { name := "fnExactWordMul", fn := fun _ => fun
  | [d1, d2, d3] => { results := [.lit (.bool true)], args := [d1, d2, d3] }
  | _ => none }
def fnExactWordMulRow : OpenClaim := { program := "ytkcknejkldhmaab", sum := "108d3b713e07d8bfea8e08aa8d3c8f2828cbb7ac1b60384fbd331fa264849a5e", func := "loop.example/g00979/laws.FnExactWordMul", spec := "fnExactWordMul", unfollowed := true, recurses := true, apart := false }
def FnExactWordMulSaid : Prop := fnExactWordMulRow.holds Try.pinned (OpenSpec.ofChange fnExactWordMulSpec)

/-- ITS FALSE NEIGHBOUR: 'it returns false'. Refute it at one input. -/
def fnExactWordMulWrong : ChangeSpec := { name := "fnExactWordMul", fn := fun _ => fun
  | [d1, d2, d3] => { results := [.lit (.bool false)], args := [d1, d2, d3] }
  | _ => none }
def FnExactWordMulWrongFalsely : Prop := fnExactWordMulRow.holds Try.pinned (OpenSpec.ofChange fnExactWordMulWrong)

/- THE SECOND FORM. 'bulk': how many values and letters a reading holds, each counted each time it is reached (what is shared counts as often as it is met; a slice's spare places count too). A statement '..UptoSaid' is the law's where the arguments, and the package variables that the reading takes, are together of bulk at most 1048576: NARROWER than '..Said'. Prove '..Said' where nothing that the law and all that it calls make is longer than what came in: it says more and counts as full. Else prove '..UptoSaid'. A law counts once. -/
mutual
def uptoBulk {H : Type} : DataW H → Nat
  | .lit (.string bytes) => bytes.length + 1
  | .lit _ => 1
  | .nil => 1
  | .ptr d => uptoBulk d + 1
  | .slice elems spare => uptoBulkAll elems + uptoBulkAll spare + 1
  | .agg parts => uptoBulkAll parts + 1
  | .iface _ d => uptoBulk d + 1
  | .map entries => uptoBulkEntries entries + 1
  | .held _ => 1
def uptoBulkAll {H : Type} : List (DataW H) → Nat
  | [] => 0
  | d :: r => uptoBulk d + uptoBulkAll r
def uptoBulkEntries {H : Type} : List (Lit × DataW H) → Nat
  | [] => 0
  | x :: r => uptoBulkEntry x + uptoBulkEntries r
def uptoBulkEntry {H : Type} : Lit × DataW H → Nat
  | (.string bytes, d) => bytes.length + uptoBulk d + 1
  | (_, d) => uptoBulk d + 1
 end
def uptoSmall : (H : Type) → List (DataW H) → Bool := fun _ ds => decide (uptoBulkAll ds ≤ 1048576)
def OpenSpec.upto (s : _root_.Go.ChangeSpec) : _root_.Go.OpenSpec := { _root_.Go.OpenSpec.ofChange s with cond := some uptoSmall }

/-- 'laws.FnArithmetic', WHERE WHAT IT READS IS OF BULK AT MOST 1048576: true; the input reads as it did. -/
def fnArithmeticUptoRow : OpenClaim := { program := "ytkcknejkldhmaab", sum := "108d3b713e07d8bfea8e08aa8d3c8f2828cbb7ac1b60384fbd331fa264849a5e", func := "loop.example/g00979/laws.FnArithmetic", spec := "fnArithmetic", unfollowed := true, recurses := true, apart := false, narrowed := true }
def FnArithmeticUptoSaid : Prop := fnArithmeticUptoRow.holds Try.pinned (OpenSpec.upto fnArithmeticSpec)

/-- 'laws.FnComparisons', WHERE WHAT IT READS IS OF BULK AT MOST 1048576: true; the input reads as it did. -/
def fnComparisonsUptoRow : OpenClaim := { program := "ytkcknejkldhmaab", sum := "108d3b713e07d8bfea8e08aa8d3c8f2828cbb7ac1b60384fbd331fa264849a5e", func := "loop.example/g00979/laws.FnComparisons", spec := "fnComparisons", unfollowed := true, recurses := true, apart := false, narrowed := true }
def FnComparisonsUptoSaid : Prop := fnComparisonsUptoRow.holds Try.pinned (OpenSpec.upto fnComparisonsSpec)

/-- 'laws.FnExactWordConst', WHERE WHAT IT READS IS OF BULK AT MOST 1048576: true; the input reads as it did. -/
def fnExactWordConstUptoRow : OpenClaim := { program := "ytkcknejkldhmaab", sum := "108d3b713e07d8bfea8e08aa8d3c8f2828cbb7ac1b60384fbd331fa264849a5e", func := "loop.example/g00979/laws.FnExactWordConst", spec := "fnExactWordConst", unfollowed := true, recurses := true, apart := false, narrowed := true }
def FnExactWordConstUptoSaid : Prop := fnExactWordConstUptoRow.holds Try.pinned (OpenSpec.upto fnExactWordConstSpec)

/-- 'laws.FnExactWordAdd', WHERE WHAT IT READS IS OF BULK AT MOST 1048576: true; the input reads as it did. -/
def fnExactWordAddUptoRow : OpenClaim := { program := "ytkcknejkldhmaab", sum := "108d3b713e07d8bfea8e08aa8d3c8f2828cbb7ac1b60384fbd331fa264849a5e", func := "loop.example/g00979/laws.FnExactWordAdd", spec := "fnExactWordAdd", unfollowed := true, recurses := true, apart := false, narrowed := true }
def FnExactWordAddUptoSaid : Prop := fnExactWordAddUptoRow.holds Try.pinned (OpenSpec.upto fnExactWordAddSpec)

/-- 'laws.FnExactWordSub', WHERE WHAT IT READS IS OF BULK AT MOST 1048576: true; the input reads as it did. -/
def fnExactWordSubUptoRow : OpenClaim := { program := "ytkcknejkldhmaab", sum := "108d3b713e07d8bfea8e08aa8d3c8f2828cbb7ac1b60384fbd331fa264849a5e", func := "loop.example/g00979/laws.FnExactWordSub", spec := "fnExactWordSub", unfollowed := true, recurses := true, apart := false, narrowed := true }
def FnExactWordSubUptoSaid : Prop := fnExactWordSubUptoRow.holds Try.pinned (OpenSpec.upto fnExactWordSubSpec)

/-- 'laws.FnExactWordLess', WHERE WHAT IT READS IS OF BULK AT MOST 1048576: true; the input reads as it did. -/
def fnExactWordLessUptoRow : OpenClaim := { program := "ytkcknejkldhmaab", sum := "108d3b713e07d8bfea8e08aa8d3c8f2828cbb7ac1b60384fbd331fa264849a5e", func := "loop.example/g00979/laws.FnExactWordLess", spec := "fnExactWordLess", unfollowed := true, recurses := true, apart := false, narrowed := true }
def FnExactWordLessUptoSaid : Prop := fnExactWordLessUptoRow.holds Try.pinned (OpenSpec.upto fnExactWordLessSpec)

/-- 'laws.FnExactWordEqual', WHERE WHAT IT READS IS OF BULK AT MOST 1048576: true; the input reads as it did. -/
def fnExactWordEqualUptoRow : OpenClaim := { program := "ytkcknejkldhmaab", sum := "108d3b713e07d8bfea8e08aa8d3c8f2828cbb7ac1b60384fbd331fa264849a5e", func := "loop.example/g00979/laws.FnExactWordEqual", spec := "fnExactWordEqual", unfollowed := true, recurses := true, apart := false, narrowed := true }
def FnExactWordEqualUptoSaid : Prop := fnExactWordEqualUptoRow.holds Try.pinned (OpenSpec.upto fnExactWordEqualSpec)

/-- 'laws.FnExactWordMux', WHERE WHAT IT READS IS OF BULK AT MOST 1048576: true; the input reads as it did. -/
def fnExactWordMuxUptoRow : OpenClaim := { program := "ytkcknejkldhmaab", sum := "108d3b713e07d8bfea8e08aa8d3c8f2828cbb7ac1b60384fbd331fa264849a5e", func := "loop.example/g00979/laws.FnExactWordMux", spec := "fnExactWordMux", unfollowed := true, recurses := true, apart := false, narrowed := true }
def FnExactWordMuxUptoSaid : Prop := fnExactWordMuxUptoRow.holds Try.pinned (OpenSpec.upto fnExactWordMuxSpec)

/-- 'laws.FnExactWordMul', WHERE WHAT IT READS IS OF BULK AT MOST 1048576: true; the input reads as it did. -/
def fnExactWordMulUptoRow : OpenClaim := { program := "ytkcknejkldhmaab", sum := "108d3b713e07d8bfea8e08aa8d3c8f2828cbb7ac1b60384fbd331fa264849a5e", func := "loop.example/g00979/laws.FnExactWordMul", spec := "fnExactWordMul", unfollowed := true, recurses := true, apart := false, narrowed := true }
def FnExactWordMulUptoSaid : Prop := fnExactWordMulUptoRow.holds Try.pinned (OpenSpec.upto fnExactWordMulSpec)

end Rows
end Go.Proofs.Ytkcknejkldhmaab

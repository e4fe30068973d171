/-
  No cell of these rows narrows 'for every input' (looked for: loops, veiled, ifaces, maps, wideKeys, modest, calm, conditions, laid).
  DERIVED. THE GIVEN ROWS OF THIS SEAT. 8 by the template 'for every input the law returns true; each argument reads behind the call as it read before'; 0 by the template 'total and deterministic' (their statements: YtjhgjfipfjackaaTotals.lean).
  GIVEN WITH THE SEED: the statements are not yours to turn. If you find one false, say at which input.
  Laid BY PROGRAM, IN A SANDBOX (cutbox-rows.mjs): the forced cells as the released guide's own fill.sh prints them over the translation 1d8de33b90e7bc83… (all of the seat's roots in one cut). By AI agents, Wed Nov 11 2026. No macro, syntax, notation, axiom, sorry.
-/
import Derived.Test.YtjhgjfipfjackaaChecked
import GoSem.Claim
import GoSem.ClaimJoined
import GoSem.ClaimMapViews
import Derived.JoinedTies
import Derived.KernelRfl
namespace Go.Proofs.Ytjhgjfipfjackaa
/- THE CELL 'sum', in the pinned program and in every row, IS THE sha256 OF THE DUMP (.gsa) THAT YtjhgjfipfjackaaProg.lean LOADS. Nothing in Lean hashes anything: it is a label: what it is worth is what the hold of that sum in a sandbox is worth. -/
noncomputable def Try.pinned : Pinned := { name := "ytjhgjfipfjackaa", sum := "1d8de33b90e7bc83826dfe088ee848c9232387e83879c902079b30cc31603ab1", checked := Try.checked }
namespace Rows
def none {H : Type} : Left H := { results := [], args := [] }

/-- 'laws.FnAdditive': WHATEVER THE INPUT: true; the input reads as it did. -/
def fnAdditiveSpec : ChangeSpec := { name := "fnAdditive", fn := fun _ => fun
  | [d] => { results := [.lit (.bool true)], args := [d] }
  | _ => none }
def fnAdditiveRow : OpenClaim := { program := "ytjhgjfipfjackaa", sum := "1d8de33b90e7bc83826dfe088ee848c9232387e83879c902079b30cc31603ab1", func := "loop.example/g00979/laws.FnAdditive", spec := "fnAdditive", unfollowed := true, recurses := true, apart := false }
def FnAdditiveSaid : Prop := fnAdditiveRow.holds Try.pinned (OpenSpec.ofChange fnAdditiveSpec)

/-- ITS FALSE NEIGHBOUR: 'it returns false'. Refute it at one input. -/
def fnAdditiveWrong : ChangeSpec := { name := "fnAdditive", fn := fun _ => fun
  | [d] => { results := [.lit (.bool false)], args := [d] }
  | _ => none }
def FnAdditiveWrongFalsely : Prop := fnAdditiveRow.holds Try.pinned (OpenSpec.ofChange fnAdditiveWrong)

/-- 'laws.FnAllButOne': WHATEVER THE INPUT: true; the input reads as it did. -/
def fnAllButOneSpec : ChangeSpec := { name := "fnAllButOne", fn := fun _ => fun
  | [d] => { results := [.lit (.bool true)], args := [d] }
  | _ => none }
def fnAllButOneRow : OpenClaim := { program := "ytjhgjfipfjackaa", sum := "1d8de33b90e7bc83826dfe088ee848c9232387e83879c902079b30cc31603ab1", func := "loop.example/g00979/laws.FnAllButOne", spec := "fnAllButOne", apart := false }
def FnAllButOneSaid : Prop := fnAllButOneRow.holds Try.pinned (OpenSpec.ofChange fnAllButOneSpec)

/-- ITS FALSE NEIGHBOUR: 'it returns false'. Refute it at one input. -/
def fnAllButOneWrong : ChangeSpec := { name := "fnAllButOne", fn := fun _ => fun
  | [d] => { results := [.lit (.bool false)], args := [d] }
  | _ => none }
def FnAllButOneWrongFalsely : Prop := fnAllButOneRow.holds Try.pinned (OpenSpec.ofChange fnAllButOneWrong)

/-- 'laws.FnExactShareAdd': WHATEVER THE INPUT: true; the input reads as it did. -/
def fnExactShareAddSpec : ChangeSpec := { name := "fnExactShareAdd", fn := fun _ => fun
  | [d1, d2, d3, d4] => { results := [.lit (.bool true)], args := [d1, d2, d3, d4] }
  | _ => none }
def fnExactShareAddRow : OpenClaim := { program := "ytjhgjfipfjackaa", sum := "1d8de33b90e7bc83826dfe088ee848c9232387e83879c902079b30cc31603ab1", func := "loop.example/g00979/laws.FnExactShareAdd", spec := "fnExactShareAdd", unfollowed := true, recurses := true, apart := false }
def FnExactShareAddSaid : Prop := fnExactShareAddRow.holds Try.pinned (OpenSpec.ofChange fnExactShareAddSpec)

/-- ITS FALSE NEIGHBOUR: 'it returns false'. Refute it at one input. -/
def fnExactShareAddWrong : ChangeSpec := { name := "fnExactShareAdd", fn := fun _ => fun
  | [d1, d2, d3, d4] => { results := [.lit (.bool false)], args := [d1, d2, d3, d4] }
  | _ => none }
def FnExactShareAddWrongFalsely : Prop := fnExactShareAddRow.holds Try.pinned (OpenSpec.ofChange fnExactShareAddWrong)

/-- 'laws.FnExactOpenAdd': WHATEVER THE INPUT: true; the input reads as it did. -/
def fnExactOpenAddSpec : ChangeSpec := { name := "fnExactOpenAdd", fn := fun _ => fun
  | [d1, d2] => { results := [.lit (.bool true)], args := [d1, d2] }
  | _ => none }
def fnExactOpenAddRow : OpenClaim := { program := "ytjhgjfipfjackaa", sum := "1d8de33b90e7bc83826dfe088ee848c9232387e83879c902079b30cc31603ab1", func := "loop.example/g00979/laws.FnExactOpenAdd", spec := "fnExactOpenAdd", apart := false }
def FnExactOpenAddSaid : Prop := fnExactOpenAddRow.holds Try.pinned (OpenSpec.ofChange fnExactOpenAddSpec)

/-- ITS FALSE NEIGHBOUR: 'it returns false'. Refute it at one input. -/
def fnExactOpenAddWrong : ChangeSpec := { name := "fnExactOpenAdd", fn := fun _ => fun
  | [d1, d2] => { results := [.lit (.bool false)], args := [d1, d2] }
  | _ => none }
def FnExactOpenAddWrongFalsely : Prop := fnExactOpenAddRow.holds Try.pinned (OpenSpec.ofChange fnExactOpenAddWrong)

/-- 'laws.FnExactAddShares': WHATEVER THE INPUT: true; the input reads as it did. -/
def fnExactAddSharesSpec : ChangeSpec := { name := "fnExactAddShares", fn := fun _ => fun
  | [d1, d2, d3] => { results := [.lit (.bool true)], args := [d1, d2, d3] }
  | _ => none }
def fnExactAddSharesRow : OpenClaim := { program := "ytjhgjfipfjackaa", sum := "1d8de33b90e7bc83826dfe088ee848c9232387e83879c902079b30cc31603ab1", func := "loop.example/g00979/laws.FnExactAddShares", spec := "fnExactAddShares", unfollowed := true, recurses := true, apart := false }
def FnExactAddSharesSaid : Prop := fnExactAddSharesRow.holds Try.pinned (OpenSpec.ofChange fnExactAddSharesSpec)

/-- ITS FALSE NEIGHBOUR: 'it returns false'. Refute it at one input. -/
def fnExactAddSharesWrong : ChangeSpec := { name := "fnExactAddShares", fn := fun _ => fun
  | [d1, d2, d3] => { results := [.lit (.bool false)], args := [d1, d2, d3] }
  | _ => none }
def FnExactAddSharesWrongFalsely : Prop := fnExactAddSharesRow.holds Try.pinned (OpenSpec.ofChange fnExactAddSharesWrong)

/-- 'laws.FnExactScaleShares': WHATEVER THE INPUT: true; the input reads as it did. -/
def fnExactScaleSharesSpec : ChangeSpec := { name := "fnExactScaleShares", fn := fun _ => fun
  | [d1, d2, d3] => { results := [.lit (.bool true)], args := [d1, d2, d3] }
  | _ => none }
def fnExactScaleSharesRow : OpenClaim := { program := "ytjhgjfipfjackaa", sum := "1d8de33b90e7bc83826dfe088ee848c9232387e83879c902079b30cc31603ab1", func := "loop.example/g00979/laws.FnExactScaleShares", spec := "fnExactScaleShares", unfollowed := true, recurses := true, apart := false }
def FnExactScaleSharesSaid : Prop := fnExactScaleSharesRow.holds Try.pinned (OpenSpec.ofChange fnExactScaleSharesSpec)

/-- ITS FALSE NEIGHBOUR: 'it returns false'. Refute it at one input. -/
def fnExactScaleSharesWrong : ChangeSpec := { name := "fnExactScaleShares", fn := fun _ => fun
  | [d1, d2, d3] => { results := [.lit (.bool false)], args := [d1, d2, d3] }
  | _ => none }
def FnExactScaleSharesWrongFalsely : Prop := fnExactScaleSharesRow.holds Try.pinned (OpenSpec.ofChange fnExactScaleSharesWrong)

/-- 'laws.FnExactAddConstant': WHATEVER THE INPUT: true; the input reads as it did. -/
def fnExactAddConstantSpec : ChangeSpec := { name := "fnExactAddConstant", fn := fun _ => fun
  | [d1, d2, d3] => { results := [.lit (.bool true)], args := [d1, d2, d3] }
  | _ => none }
def fnExactAddConstantRow : OpenClaim := { program := "ytjhgjfipfjackaa", sum := "1d8de33b90e7bc83826dfe088ee848c9232387e83879c902079b30cc31603ab1", func := "loop.example/g00979/laws.FnExactAddConstant", spec := "fnExactAddConstant", unfollowed := true, recurses := true, apart := false }
def FnExactAddConstantSaid : Prop := fnExactAddConstantRow.holds Try.pinned (OpenSpec.ofChange fnExactAddConstantSpec)

/-- ITS FALSE NEIGHBOUR: 'it returns false'. Refute it at one input. -/
def fnExactAddConstantWrong : ChangeSpec := { name := "fnExactAddConstant", fn := fun _ => fun
  | [d1, d2, d3] => { results := [.lit (.bool false)], args := [d1, d2, d3] }
  | _ => none }
def FnExactAddConstantWrongFalsely : Prop := fnExactAddConstantRow.holds Try.pinned (OpenSpec.ofChange fnExactAddConstantWrong)

/-- 'laws.FnExactCountSharings': WHATEVER THE INPUT: true; the input reads as it did. -/
def fnExactCountSharingsSpec : ChangeSpec := { name := "fnExactCountSharings", fn := fun _ => fun
  | [d1, d2, d3, d4] => { results := [.lit (.bool true)], args := [d1, d2, d3, d4] }
  | _ => none }
def fnExactCountSharingsRow : OpenClaim := { program := "ytjhgjfipfjackaa", sum := "1d8de33b90e7bc83826dfe088ee848c9232387e83879c902079b30cc31603ab1", func := "loop.example/g00979/laws.FnExactCountSharings", spec := "fnExactCountSharings", recurses := true, apart := false }
def FnExactCountSharingsSaid : Prop := fnExactCountSharingsRow.holds Try.pinned (OpenSpec.ofChange fnExactCountSharingsSpec)

/-- ITS FALSE NEIGHBOUR: 'it returns false'. Refute it at one input. -/
def fnExactCountSharingsWrong : ChangeSpec := { name := "fnExactCountSharings", fn := fun _ => fun
  | [d1, d2, d3, d4] => { results := [.lit (.bool false)], args := [d1, d2, d3, d4] }
  | _ => none }
def FnExactCountSharingsWrongFalsely : Prop := fnExactCountSharingsRow.holds Try.pinned (OpenSpec.ofChange fnExactCountSharingsWrong)

/- THE SECOND FORM. 'bulk': how many values and letters a reading holds, each counted each time it is reached (what is shared counts as often as it is met; a slice's spare places count too). A statement '..UptoSaid' is the law's where the arguments, and the package variables that the reading takes, are together of bulk at most 1048576: NARROWER than '..Said'. Prove '..Said' where nothing that the law and all that it calls make is longer than what came in: it says more and counts as full. Else prove '..UptoSaid'. A law counts once. -/
mutual
def uptoBulk {H : Type} : DataW H → Nat
  | .lit (.string bytes) => bytes.length + 1
  | .lit _ => 1
  | .nil => 1
  | .ptr d => uptoBulk d + 1
  | .slice elems spare => uptoBulkAll elems + uptoBulkAll spare + 1
  | .agg parts => uptoBulkAll parts + 1
  | .iface _ d => uptoBulk d + 1
  | .map entries => uptoBulkEntries entries + 1
  | .held _ => 1
def uptoBulkAll {H : Type} : List (DataW H) → Nat
  | [] => 0
  | d :: r => uptoBulk d + uptoBulkAll r
def uptoBulkEntries {H : Type} : List (Lit × DataW H) → Nat
  | [] => 0
  | x :: r => uptoBulkEntry x + uptoBulkEntries r
def uptoBulkEntry {H : Type} : Lit × DataW H → Nat
  | (.string bytes, d) => bytes.length + uptoBulk d + 1
  | (_, d) => uptoBulk d + 1
 end
def uptoSmall : (H : Type) → List (DataW H) → Bool := fun _ ds => decide (uptoBulkAll ds ≤ 1048576)
def OpenSpec.upto (s : _root_.Go.ChangeSpec) : _root_.Go.OpenSpec := { _root_.Go.OpenSpec.ofChange s with cond := some uptoSmall }

/-- 'laws.FnAdditive', WHERE WHAT IT READS IS OF BULK AT MOST 1048576: true; the input reads as it did. -/
def fnAdditiveUptoRow : OpenClaim := { program := "ytjhgjfipfjackaa", sum := "1d8de33b90e7bc83826dfe088ee848c9232387e83879c902079b30cc31603ab1", func := "loop.example/g00979/laws.FnAdditive", spec := "fnAdditive", unfollowed := true, recurses := true, apart := false, narrowed := true }
def FnAdditiveUptoSaid : Prop := fnAdditiveUptoRow.holds Try.pinned (OpenSpec.upto fnAdditiveSpec)

/-- 'laws.FnAllButOne', WHERE WHAT IT READS IS OF BULK AT MOST 1048576: true; the input reads as it did. -/
def fnAllButOneUptoRow : OpenClaim := { program := "ytjhgjfipfjackaa", sum := "1d8de33b90e7bc83826dfe088ee848c9232387e83879c902079b30cc31603ab1", func := "loop.example/g00979/laws.FnAllButOne", spec := "fnAllButOne", apart := false, narrowed := true }
def FnAllButOneUptoSaid : Prop := fnAllButOneUptoRow.holds Try.pinned (OpenSpec.upto fnAllButOneSpec)

/-- 'laws.FnExactShareAdd', WHERE WHAT IT READS IS OF BULK AT MOST 1048576: true; the input reads as it did. -/
def fnExactShareAddUptoRow : OpenClaim := { program := "ytjhgjfipfjackaa", sum := "1d8de33b90e7bc83826dfe088ee848c9232387e83879c902079b30cc31603ab1", func := "loop.example/g00979/laws.FnExactShareAdd", spec := "fnExactShareAdd", unfollowed := true, recurses := true, apart := false, narrowed := true }
def FnExactShareAddUptoSaid : Prop := fnExactShareAddUptoRow.holds Try.pinned (OpenSpec.upto fnExactShareAddSpec)

/-- 'laws.FnExactOpenAdd', WHERE WHAT IT READS IS OF BULK AT MOST 1048576: true; the input reads as it did. -/
def fnExactOpenAddUptoRow : OpenClaim := { program := "ytjhgjfipfjackaa", sum := "1d8de33b90e7bc83826dfe088ee848c9232387e83879c902079b30cc31603ab1", func := "loop.example/g00979/laws.FnExactOpenAdd", spec := "fnExactOpenAdd", apart := false, narrowed := true }
def FnExactOpenAddUptoSaid : Prop := fnExactOpenAddUptoRow.holds Try.pinned (OpenSpec.upto fnExactOpenAddSpec)

/-- 'laws.FnExactAddShares', WHERE WHAT IT READS IS OF BULK AT MOST 1048576: true; the input reads as it did. -/
def fnExactAddSharesUptoRow : OpenClaim := { program := "ytjhgjfipfjackaa", sum := "1d8de33b90e7bc83826dfe088ee848c9232387e83879c902079b30cc31603ab1", func := "loop.example/g00979/laws.FnExactAddShares", spec := "fnExactAddShares", unfollowed := true, recurses := true, apart := false, narrowed := true }
def FnExactAddSharesUptoSaid : Prop := fnExactAddSharesUptoRow.holds Try.pinned (OpenSpec.upto fnExactAddSharesSpec)

/-- 'laws.FnExactScaleShares', WHERE WHAT IT READS IS OF BULK AT MOST 1048576: true; the input reads as it did. -/
def fnExactScaleSharesUptoRow : OpenClaim := { program := "ytjhgjfipfjackaa", sum := "1d8de33b90e7bc83826dfe088ee848c9232387e83879c902079b30cc31603ab1", func := "loop.example/g00979/laws.FnExactScaleShares", spec := "fnExactScaleShares", unfollowed := true, recurses := true, apart := false, narrowed := true }
def FnExactScaleSharesUptoSaid : Prop := fnExactScaleSharesUptoRow.holds Try.pinned (OpenSpec.upto fnExactScaleSharesSpec)

/-- 'laws.FnExactAddConstant', WHERE WHAT IT READS IS OF BULK AT MOST 1048576: true; the input reads as it did. -/
def fnExactAddConstantUptoRow : OpenClaim := { program := "ytjhgjfipfjackaa", sum := "1d8de33b90e7bc83826dfe088ee848c9232387e83879c902079b30cc31603ab1", func := "loop.example/g00979/laws.FnExactAddConstant", spec := "fnExactAddConstant", unfollowed := true, recurses := true, apart := false, narrowed := true }
def FnExactAddConstantUptoSaid : Prop := fnExactAddConstantUptoRow.holds Try.pinned (OpenSpec.upto fnExactAddConstantSpec)

/-- 'laws.FnExactCountSharings', WHERE WHAT IT READS IS OF BULK AT MOST 1048576: true; the input reads as it did. -/
def fnExactCountSharingsUptoRow : OpenClaim := { program := "ytjhgjfipfjackaa", sum := "1d8de33b90e7bc83826dfe088ee848c9232387e83879c902079b30cc31603ab1", func := "loop.example/g00979/laws.FnExactCountSharings", spec := "fnExactCountSharings", recurses := true, apart := false, narrowed := true }
def FnExactCountSharingsUptoSaid : Prop := fnExactCountSharingsUptoRow.holds Try.pinned (OpenSpec.upto fnExactCountSharingsSpec)

end Rows
end Go.Proofs.Ytjhgjfipfjackaa

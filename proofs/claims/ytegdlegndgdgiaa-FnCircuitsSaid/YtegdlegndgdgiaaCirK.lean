/- A great region of the law FnCircuits, taken out of its function: the order of its operations. No condition. -/
import Derived.Test.YtegdlegndgdgiaaProg
import Derived.Test.YtegdlegndgdgiaaB1
import Derived.Lib.QuietBelow
namespace Go.Proofs.Ytegdlegndgdgiaa
open Go Go.RowKit
/-- The region of a number in a function's code. -/
def regionIn (id : Nat) : Code → Option (Array Oper)
  | .region i ops _ => if i = id then some ops else none
  | .seq a b => match regionIn id a with
    | some r => some r
    | none => regionIn id b
  | .cond _ a b => match regionIn id a with
    | some r => some r
    | none => regionIn id b
  | .block _ c => regionIn id c
  | .loop c => regionIn id c
  | .scope c => regionIn id c
  | _ => none
noncomputable def opsCircuits : Array Oper := (Try.f4.body.bind (regionIn 13)).getD #[]
theorem lexCircuits : Region.lexB .any opsCircuits = true := by kernel_rfl
theorem lexOf {l : Array Oper} (h : l = opsCircuits) : Region.lexB .any l = true := by rw [h]; exact lexCircuits
end Go.Proofs.Ytegdlegndgdgiaa

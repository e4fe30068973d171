/- A bit. No condition. -/
import Derived.WalkKit
namespace Go.Proofs.Ytfpcjgolcbjnjaa
open Go Go.RowKit
def isBit (x : Int) : Prop := 0 ≤ x ∧ x ≤ 1
instance (x : Int) : Decidable (isBit x) := by unfold isBit; infer_instance
end Go.Proofs.Ytfpcjgolcbjnjaa

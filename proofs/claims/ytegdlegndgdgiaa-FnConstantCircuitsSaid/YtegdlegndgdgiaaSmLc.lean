/- The law FnConstantCircuits: the walk. No condition. -/
import Derived.Test.YtegdlegndgdgiaaProg
import Derived.Test.YtegdlegndgdgiaaSmAC
import Derived.Test.YtegdlegndgdgiaaUsQ
namespace Go.Proofs.Ytegdlegndgdgiaa
open Go Go.RowKit
theorem FnConstantCircuits_walk (A : Option Addr) (n c : Nat) (w : World) (hb : Bytes w.heap.size w A n) (hm : n ≤ 9223372036854775807) :
    Calls Try.prog 10 #[.slice A n c] w fun e w' => e = .returned (.bool true) ∧ Below w.heap.size w w' :=
  FnConstantCircuits_from impl_Optimize A n c w hb hm
end Go.Proofs.Ytegdlegndgdgiaa

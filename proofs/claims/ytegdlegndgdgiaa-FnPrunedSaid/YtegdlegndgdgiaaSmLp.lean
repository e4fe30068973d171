/- The law FnPruned: the walk. No condition. -/
import Derived.Test.YtegdlegndgdgiaaProg
import Derived.Test.YtegdlegndgdgiaaSmAA
import Derived.Test.YtegdlegndgdgiaaUsQ
namespace Go.Proofs.Ytegdlegndgdgiaa
open Go Go.RowKit
theorem FnPruned_walk (A : Option Addr) (n c : Nat) (w : World) (hb : Bytes w.heap.size w A n) (hm : n ≤ 9223372036854775807) :
    Calls Try.prog 9 #[.slice A n c] w fun e w' => e = .returned (.bool true) ∧ Below w.heap.size w w' :=
  FnPruned_from impl_Prune impl_LiveGates A n c w hb hm
end Go.Proofs.Ytegdlegndgdgiaa

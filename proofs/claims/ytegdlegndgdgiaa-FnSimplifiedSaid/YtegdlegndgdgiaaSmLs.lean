/- The law FnSimplified: the walk. No condition. -/
import Derived.Test.YtegdlegndgdgiaaProg
import Derived.Test.YtegdlegndgdgiaaSmAB
import Derived.Test.YtegdlegndgdgiaaUsQ
namespace Go.Proofs.Ytegdlegndgdgiaa
open Go Go.RowKit
theorem FnSimplified_walk (A : Option Addr) (n c : Nat) (w : World) (hb : Bytes w.heap.size w A n) (hm : n ≤ 9223372036854775807) :
    Calls Try.prog 8 #[.slice A n c] w fun e w' => e = .returned (.bool true) ∧ Below w.heap.size w w' :=
  FnSimplified_from impl_Simplify impl_Optimize impl_Prune A n c w hb hm
end Go.Proofs.Ytegdlegndgdgiaa

/- Contracts of programs in the exact laws' form. No condition. -/
import Derived.Test.YtgnpfhopigcikaaProg
import Derived.Test.YtgnpfhopigcikaaPg8
import Derived.Test.YtgnpfhopigcikaaPgS
import Derived.Test.YtgnpfhopigcikaaAgg
namespace Go.Proofs.Ytgnpfhopigcikaa
open Go Go.RowKit
theorem ex_spec_ProgramOk (A : Option Addr) (n cp : Nat) (ss : List St) (w : World) (hr : Ints w A (flat ss)) (hl : ss.length = n) (hn : n ≤ 2000000) : Calls Try.prog 20 #[.slice A n cp] w (Post_bool (decide (progI ss)) w) := spec_ProgramOk A n cp ss w hr hl hn
theorem ex_impl_ProgramOk (A : Option Addr) (n cp : Nat) (ss : List St) (w : World) (hr : Ints w A (flat ss)) (hl : ss.length = n) (hn : n ≤ 2000000) : Calls Try.prog 15 #[.slice A n cp] w (Post_bool (decide (progI ss)) w) := impl_ProgramOk A n cp ss w hr hl hn
theorem ex_spec_PartiesOf (A : Option Addr) (n cp : Nat) (ss : List St) (w : World) (hr : Ints w A (flat ss)) (hl : ss.length = n) (hn : n ≤ 2000000) : Calls Try.prog 28 #[.slice A n cp] w (Post_int (partsI ss) w) := spec_PartiesOf A n cp ss w hr hl hn
theorem ex_impl_PartiesOf (A : Option Addr) (n cp : Nat) (ss : List St) (w : World) (hr : Ints w A (flat ss)) (hl : ss.length = n) (hn : n ≤ 2000000) : Calls Try.prog 16 #[.slice A n cp] w (Post_int (partsI ss) w) := impl_PartiesOf A n cp ss w hr hl hn
end Go.Proofs.Ytgnpfhopigcikaa

/- Contracts of stage 10 in the exact laws' form. No condition. -/
import Derived.Test.YtnilhlbklaefeaaProg
import Derived.Test.YtnilhlbklaefeaaAgg
import Derived.Test.YtnilhlbklaefeaaUnC
import Derived.Test.YtnilhlbklaefeaaUnDi
import Derived.Test.YtnilhlbklaefeaaUnDs
import Derived.Test.YtnilhlbklaefeaaUnSi
namespace Go.Proofs.Ytnilhlbklaefeaa
open Go Go.RowKit
theorem ex_spec_UnrolledSize (A : Option Addr) (n cp : Nat) (ss : List St) (w : World) (hr : Ints w A (flat ss)) (hl : ss.length = n) (hn : n ≤ 2000000) : Calls Try.prog 18 #[.slice A n cp] w (Post_int (sizeI ss) w) := spec_UnrolledSize A n cp ss w hr hl hn
theorem ex_impl_UnrolledSize (A : Option Addr) (n cp : Nat) (ss : List St) (w : World) (hr : Ints w A (flat ss)) (hl : ss.length = n) (hn : n ≤ 2000000) : Calls Try.prog 12 #[.slice A n cp] w (Post_int (sizeI ss) w) := impl_UnrolledSize A n cp ss w hr hl hn
theorem ex_spec_LoopDepth (A : Option Addr) (n cp : Nat) (ss : List St) (w : World) (hr : Ints w A (flat ss)) (hl : ss.length = n) (hn : n ≤ 2000000) : Calls Try.prog 24 #[.slice A n cp] w (Post_int (depthI ss) w) := spec_LoopDepth A n cp ss w hr hl hn
theorem ex_impl_LoopDepth (A : Option Addr) (n cp : Nat) (ss : List St) (w : World) (hr : Ints w A (flat ss)) (hl : ss.length = n) (hn : n ≤ 2000000) : Calls Try.prog 13 #[.slice A n cp] w (Post_int (depthI ss) w) := impl_LoopDepth A n cp ss w hr hl hn
theorem ex_spec_OutputCount (A : Option Addr) (n cp : Nat) (ss : List St) (w : World) (hr : Ints w A (flat ss)) (hl : ss.length = n) (hn : n ≤ 2000000) : Calls Try.prog 25 #[.slice A n cp] w (Post_int (outsI ss) w) := spec_OutputCount A n cp ss w hr hl hn
theorem ex_impl_OutputCount (A : Option Addr) (n cp : Nat) (ss : List St) (w : World) (hr : Ints w A (flat ss)) (hl : ss.length = n) (hn : n ≤ 2000000) : Calls Try.prog 15 #[.slice A n cp] w (Post_int (outsI ss) w) := impl_OutputCount A n cp ss w hr hl hn
end Go.Proofs.Ytnilhlbklaefeaa

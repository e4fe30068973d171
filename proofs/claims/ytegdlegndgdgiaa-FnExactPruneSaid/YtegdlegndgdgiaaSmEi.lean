/- Simplification: the contracts of stage 16's exact laws: the program's. No condition. -/
import Derived.Test.YtegdlegndgdgiaaProg
import Derived.Test.YtegdlegndgdgiaaSmEx
import Derived.Test.YtegdlegndgdgiaaUsQ
namespace Go.Proofs.Ytegdlegndgdgiaa
open Go Go.RowKit
theorem ex_impl_Simplify (A0 : Option Addr) (n0 c0 : Nat) (z0 : List Int) (A1 : Option Addr) (n1 c1 : Nat) (z1 : List Int) (w : World) (h0 : Ints w A0 z0) (l0 : z0.length = n0 * 3) (m0 : n0 ≤ 2000000) (h1 : Ints w A1 z1) (l1 : z1.length = n1) (m1 : n1 ≤ 2000000) :
    Calls Try.prog 46 #[.agg #[.slice A0 n0 c0, .slice A1 n1 c1]] w (Post_Circuit (simZ z0 n0 z1) (simO z0 n0 z1) w) :=
  impl_Simplify A0 n0 c0 z0 A1 n1 c1 z1 w h0 l0 m0 h1 l1 m1
theorem ex_impl_Prune (A0 : Option Addr) (n0 c0 : Nat) (z0 : List Int) (A1 : Option Addr) (n1 c1 : Nat) (z1 : List Int) (w : World) (h0 : Ints w A0 z0) (l0 : z0.length = n0 * 3) (m0 : n0 ≤ 2000000) (h1 : Ints w A1 z1) (l1 : z1.length = n1) (m1 : n1 ≤ 2000000) :
    Calls Try.prog 51 #[.agg #[.slice A0 n0 c0, .slice A1 n1 c1]] w (Post_Circuit (pruZ z0 n0 z1) (pruO z0 n0 z1) w) :=
  impl_Prune A0 n0 c0 z0 A1 n1 c1 z1 w h0 l0 m0 h1 l1 m1
theorem ex_impl_Optimize (A0 : Option Addr) (n0 c0 : Nat) (z0 : List Int) (A1 : Option Addr) (n1 c1 : Nat) (z1 : List Int) (w : World) (h0 : Ints w A0 z0) (l0 : z0.length = n0 * 3) (m0 : n0 ≤ 2000000) (h1 : Ints w A1 z1) (l1 : z1.length = n1) (m1 : n1 ≤ 2000000) :
    Calls Try.prog 47 #[.agg #[.slice A0 n0 c0, .slice A1 n1 c1]] w (Post_Circuit (optZ z0 n0 z1) (optO z0 n0 z1) w) :=
  impl_Optimize A0 n0 c0 z0 A1 n1 c1 z1 w h0 l0 m0 h1 l1 m1
theorem ex_impl_LiveGates (A0 : Option Addr) (n0 c0 : Nat) (z0 : List Int) (A1 : Option Addr) (n1 c1 : Nat) (z1 : List Int) (w : World) (h0 : Ints w A0 z0) (l0 : z0.length = n0 * 3) (m0 : n0 ≤ 2000000) (h1 : Ints w A1 z1) (l1 : z1.length = n1) (m1 : n1 ≤ 2000000) :
    Calls Try.prog 52 #[.agg #[.slice A0 n0 c0, .slice A1 n1 c1]] w (Post_int (livI z0 n0 z1) w) :=
  impl_LiveGates A0 n0 c0 z0 A1 n1 c1 z1 w h0 l0 m0 h1 l1 m1
end Go.Proofs.Ytegdlegndgdgiaa

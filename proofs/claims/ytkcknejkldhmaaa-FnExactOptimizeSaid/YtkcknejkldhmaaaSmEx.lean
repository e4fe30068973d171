/- Simplification: the contracts of stage 16's exact laws: the model's. No condition. -/
import Derived.Test.YtkcknejkldhmaaaProg
import Derived.Test.YtkcknejkldhmaaaSmY
namespace Go.Proofs.Ytkcknejkldhmaaa
open Go Go.RowKit
theorem ex_spec_Simplify (A0 : Option Addr) (n0 c0 : Nat) (z0 : List Int) (A1 : Option Addr) (n1 c1 : Nat) (z1 : List Int) (w : World) (h0 : Ints w A0 z0) (l0 : z0.length = n0 * 3) (m0 : n0 ≤ 2000000) (h1 : Ints w A1 z1) (l1 : z1.length = n1) (m1 : n1 ≤ 2000000) :
    Calls Try.prog 33 #[.agg #[.slice A0 n0 c0, .slice A1 n1 c1]] w (Post_Circuit (simZ z0 n0 z1) (simO z0 n0 z1) w) :=
  spec_Simplify A0 n0 c0 z0 A1 n1 c1 z1 w h0 l0 m0 h1 l1 m1
theorem ex_spec_Prune (A0 : Option Addr) (n0 c0 : Nat) (z0 : List Int) (A1 : Option Addr) (n1 c1 : Nat) (z1 : List Int) (w : World) (h0 : Ints w A0 z0) (l0 : z0.length = n0 * 3) (m0 : n0 ≤ 2000000) (h1 : Ints w A1 z1) (l1 : z1.length = n1) (m1 : n1 ≤ 2000000) :
    Calls Try.prog 38 #[.agg #[.slice A0 n0 c0, .slice A1 n1 c1]] w (Post_Circuit (pruZ z0 n0 z1) (pruO z0 n0 z1) w) :=
  spec_Prune A0 n0 c0 z0 A1 n1 c1 z1 w h0 l0 m0 h1 l1 m1
theorem ex_spec_LiveGates (A0 : Option Addr) (n0 c0 : Nat) (z0 : List Int) (A1 : Option Addr) (n1 c1 : Nat) (z1 : List Int) (w : World) (h0 : Ints w A0 z0) (l0 : z0.length = n0 * 3) (m0 : n0 ≤ 2000000) (h1 : Ints w A1 z1) (l1 : z1.length = n1) (m1 : n1 ≤ 2000000) :
    Calls Try.prog 39 #[.agg #[.slice A0 n0 c0, .slice A1 n1 c1]] w (Post_int (livI z0 n0 z1) w) :=
  spec_LiveGates A0 n0 c0 z0 A1 n1 c1 z1 w h0 l0 m0 h1 l1 m1
theorem ex_spec_Optimize (A0 : Option Addr) (n0 c0 : Nat) (z0 : List Int) (A1 : Option Addr) (n1 c1 : Nat) (z1 : List Int) (w : World) (h0 : Ints w A0 z0) (l0 : z0.length = n0 * 3) (m0 : n0 ≤ 2000000) (h1 : Ints w A1 z1) (l1 : z1.length = n1) (m1 : n1 ≤ 2000000) :
    Calls Try.prog 40 #[.agg #[.slice A0 n0 c0, .slice A1 n1 c1]] w (Post_Circuit (optZ z0 n0 z1) (optO z0 n0 z1) w) :=
  spec_Optimize A0 n0 c0 z0 A1 n1 c1 z1 w h0 l0 m0 h1 l1 m1
end Go.Proofs.Ytkcknejkldhmaaa

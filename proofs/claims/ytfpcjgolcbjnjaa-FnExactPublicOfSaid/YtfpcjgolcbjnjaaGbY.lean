/- PublicOf: the contracts in the exact law's words. -/
import Derived.Test.YtfpcjgolcbjnjaaProg
import Derived.Test.YtfpcjgolcbjnjaaGbV
import Derived.Test.YtfpcjgolcbjnjaaGbZ
namespace Go.Proofs.Ytfpcjgolcbjnjaa
open Go Go.RowKit
theorem ex_impl_PublicOf (A0 : Option Addr) (n0 c0 : Nat) (z0 : List Int) (A1 : Option Addr) (n1 c1 : Nat) (z1 : List Int) (d : Int) (A2 : Option Addr) (n2 c2 : Nat) (zs : List Int) (A3 : Option Addr) (n3 c3 : Nat) (ts : List Int) (w : World) (h0 : Ints w A0 z0) (l0 : z0.length = n0 * 3) (m0 : n0 ≤ 2000000) (h1 : Ints w A1 z1) (l1 : z1.length = n1) (m1 : n1 ≤ 2000000) (h2 : Ints w A2 zs) (l2 : zs.length = n2) (m2 : n2 ≤ 2000000) (h3 : Ints w A3 ts) (l3 : ts.length = n3) (m3 : n3 ≤ 2000000) :
    Calls Try.prog 13 #[.agg #[.slice A0 n0 c0, .slice A1 n1 c1], .agg #[.int .i64 d, .slice A2 n2 c2, .slice A3 n3 c3]] w (Post_Public_bool (pubT z0 n0 z1 d zs ts) (pubC z0 n0 z1 d zs ts) (pubD z0 n0 z1 d zs ts) (decide (gOk z0 n0 z1 d zs ts)) w) := impl_PublicOf A0 n0 c0 z0 A1 n1 c1 z1 d A2 n2 c2 zs A3 n3 c3 ts w h0 l0 m0 h1 l1 m1 h2 l2 m2 h3 l3 m3
theorem ex_spec_PublicOf (A0 : Option Addr) (n0 c0 : Nat) (z0 : List Int) (A1 : Option Addr) (n1 c1 : Nat) (z1 : List Int) (d : Int) (A2 : Option Addr) (n2 c2 : Nat) (zs : List Int) (A3 : Option Addr) (n3 c3 : Nat) (ts : List Int) (w : World) (h0 : Ints w A0 z0) (l0 : z0.length = n0 * 3) (m0 : n0 ≤ 2000000) (h1 : Ints w A1 z1) (l1 : z1.length = n1) (m1 : n1 ≤ 2000000) (h2 : Ints w A2 zs) (l2 : zs.length = n2) (m2 : n2 ≤ 2000000) (h3 : Ints w A3 ts) (l3 : ts.length = n3) (m3 : n3 ≤ 2000000) :
    Calls Try.prog 34 #[.agg #[.slice A0 n0 c0, .slice A1 n1 c1], .agg #[.int .i64 d, .slice A2 n2 c2, .slice A3 n3 c3]] w (Post_Public_bool (pubT z0 n0 z1 d zs ts) (pubC z0 n0 z1 d zs ts) (pubD z0 n0 z1 d zs ts) (decide (gOk z0 n0 z1 d zs ts)) w) := spec_PublicOf A0 n0 c0 z0 A1 n1 c1 z1 d A2 n2 c2 zs A3 n3 c3 ts w h0 l0 m0 h1 l1 m1 h2 l2 m2 h3 l3 m3
end Go.Proofs.Ytfpcjgolcbjnjaa

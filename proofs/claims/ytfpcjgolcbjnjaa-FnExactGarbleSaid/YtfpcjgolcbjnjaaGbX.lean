/- Garbling: the contracts in the exact laws' words. -/
import Derived.Test.YtfpcjgolcbjnjaaProg
import Derived.Test.YtfpcjgolcbjnjaaB1
import Derived.Test.YtfpcjgolcbjnjaaGbI
import Derived.Test.YtfpcjgolcbjnjaaGbL
import Derived.Test.YtfpcjgolcbjnjaaGbH
import Derived.Test.YtfpcjgolcbjnjaaGbQ
import Derived.Test.YtfpcjgolcbjnjaaGbR
namespace Go.Proofs.Ytfpcjgolcbjnjaa
open Go Go.RowKit
theorem ex_impl_InputZero (s a k : Int) (w : World) : Calls Try.prog 15 #[.agg #[.int .i64 s, .int .i64 a], .int .i64 k] w (Post_int (izI s a k) w) := impl_InputZero s a k w
theorem ex_spec_InputZero (s a k : Int) (w : World) : Calls Try.prog 20 #[.agg #[.int .i64 s, .int .i64 a], .int .i64 k] w (Post_int (izI s a k) w) := spec_InputZero s a k w
theorem ex_impl_InputLabels (s a : Int) (A : Option Addr) (n c : Nat) (bs : List Int) (w : World) (hb : Ints w A bs) (lb : bs.length = n) (mb : n ≤ 2000000) :
    Calls Try.prog 14 #[.agg #[.int .i64 s, .int .i64 a], .slice A n c] w (Post_A (inI s a bs) w) := impl_InputLabels s a A n c bs w hb lb mb
theorem ex_spec_InputLabels (s a : Int) (A : Option Addr) (n c : Nat) (bs : List Int) (w : World) (hb : Ints w A bs) (lb : bs.length = n) (mb : n ≤ 2000000) :
    Calls Try.prog 38 #[.agg #[.int .i64 s, .int .i64 a], .slice A n c] w (Post_A (inI s a bs) w) := spec_InputLabels s a A n c bs w hb lb mb
theorem ex_impl_Garble (A0 : Option Addr) (n0 c0 : Nat) (z0 : List Int) (A1 : Option Addr) (n1 c1 : Nat) (z1 : List Int) (s a : Int) (w : World) (h0 : Ints w A0 z0) (l0 : z0.length = n0 * 3) (m0 : n0 ≤ 2000000) (h1 : Ints w A1 z1) (l1 : z1.length = n1) (m1 : n1 ≤ 2000000) :
    Calls Try.prog 12 #[.agg #[.slice A0 n0 c0, .slice A1 n1 c1], .agg #[.int .i64 s, .int .i64 a]] w (Post_Garbled_bool (garD z0 n0 z1 s a) (garZ z0 n0 z1 s a) (garT z0 n0 z1 s a) (decide (garOk z0 n0 z1 s a)) w) := impl_Garble A0 n0 c0 z0 A1 n1 c1 z1 s a w h0 l0 m0 h1 l1 m1
theorem ex_spec_Garble (A0 : Option Addr) (n0 c0 : Nat) (z0 : List Int) (A1 : Option Addr) (n1 c1 : Nat) (z1 : List Int) (s a : Int) (w : World) (h0 : Ints w A0 z0) (l0 : z0.length = n0 * 3) (m0 : n0 ≤ 2000000) (h1 : Ints w A1 z1) (l1 : z1.length = n1) (m1 : n1 ≤ 2000000) :
    Calls Try.prog 23 #[.agg #[.slice A0 n0 c0, .slice A1 n1 c1], .agg #[.int .i64 s, .int .i64 a]] w (Post_Garbled_bool (garD z0 n0 z1 s a) (garZ z0 n0 z1 s a) (garT z0 n0 z1 s a) (decide (garOk z0 n0 z1 s a)) w) := spec_Garble A0 n0 c0 z0 A1 n1 c1 z1 s a w h0 l0 m0 h1 l1 m1
theorem ex_impl_GarbledOk (A0 : Option Addr) (n0 c0 : Nat) (z0 : List Int) (A1 : Option Addr) (n1 c1 : Nat) (z1 : List Int) (d : Int) (A2 : Option Addr) (n2 c2 : Nat) (zs : List Int) (A3 : Option Addr) (n3 c3 : Nat) (ts : List Int) (w : World) (h0 : Ints w A0 z0) (l0 : z0.length = n0 * 3) (m0 : n0 ≤ 2000000) (h1 : Ints w A1 z1) (l1 : z1.length = n1) (m1 : n1 ≤ 2000000) (h2 : Ints w A2 zs) (l2 : zs.length = n2) (m2 : n2 ≤ 2000000) (h3 : Ints w A3 ts) (l3 : ts.length = n3) (m3 : n3 ≤ 2000000) :
    Calls Try.prog 33 #[.agg #[.slice A0 n0 c0, .slice A1 n1 c1], .agg #[.int .i64 d, .slice A2 n2 c2, .slice A3 n3 c3]] w (Post_bool (decide (gOk z0 n0 z1 d zs ts)) w) := impl_GarbledOk A0 n0 c0 z0 A1 n1 c1 z1 d A2 n2 c2 zs A3 n3 c3 ts w h0 l0 m0 h1 l1 m1 h2 l2 m2 h3 l3 m3
theorem ex_spec_GarbledOk (A0 : Option Addr) (n0 c0 : Nat) (z0 : List Int) (A1 : Option Addr) (n1 c1 : Nat) (z1 : List Int) (d : Int) (A2 : Option Addr) (n2 c2 : Nat) (zs : List Int) (A3 : Option Addr) (n3 c3 : Nat) (ts : List Int) (w : World) (h0 : Ints w A0 z0) (l0 : z0.length = n0 * 3) (m0 : n0 ≤ 2000000) (h1 : Ints w A1 z1) (l1 : z1.length = n1) (m1 : n1 ≤ 2000000) (h2 : Ints w A2 zs) (l2 : zs.length = n2) (m2 : n2 ≤ 2000000) (h3 : Ints w A3 ts) (l3 : ts.length = n3) (m3 : n3 ≤ 2000000) :
    Calls Try.prog 31 #[.agg #[.slice A0 n0 c0, .slice A1 n1 c1], .agg #[.int .i64 d, .slice A2 n2 c2, .slice A3 n3 c3]] w (Post_bool (decide (gOk z0 n0 z1 d zs ts)) w) := spec_GarbledOk A0 n0 c0 z0 A1 n1 c1 z1 d A2 n2 c2 zs A3 n3 c3 ts w h0 l0 m0 h1 l1 m1 h2 l2 m2 h3 l3 m3
end Go.Proofs.Ytfpcjgolcbjnjaa

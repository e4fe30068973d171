/- Contracts of stage 11 in the exact laws' form. No condition. -/
import Derived.Test.YtklmhkckhdmelaaProg
import Derived.Test.YtklmhkckhdmelaaAgg
import Derived.Test.YtklmhkckhdmelaaFlowO
namespace Go.Proofs.Ytklmhkckhdmelaa
open Go Go.RowKit
theorem ex_impl_FlowNew (w : World) : Calls Try.prog 14 #[] w (Post_Flow (List.replicate 8 0) [] w) := impl_FlowNew w
theorem ex_spec_FlowNew (w : World) : Calls Try.prog 15 #[] w (Post_Flow (List.replicate 8 0) [] w) := spec_FlowNew w
theorem ex_impl_FlowStep (A0 : Option Addr) (n0 c0 : Nat) (rs : List Int) (A1 : Option Addr) (n1 c1 : Nat) (os : List Int) (op d a b c n : Int) (w : World) (h0 : Ints w A0 rs) (l0 : rs.length = n0) (m0 : n0 ≤ 1999999) (_v0 : ∀ z ∈ rs, (Lit.int .i64 z).wf = true) (h1 : Ints w A1 os) (l1 : os.length = n1) (m1 : n1 ≤ 1999999) (_v1 : ∀ z ∈ os, (Lit.int .i64 z).wf = true) :
    Calls Try.prog 23 #[.agg #[.slice A0 n0 c0, .slice A1 n1 c1], .agg #[.int .i64 op, .int .i64 d, .int .i64 a, .int .i64 b, .int .i64 c, .int .i64 n]] w (Post_Flow (flowR rs op d a b c n) (flowO rs os op d a b c n) w) :=
  impl_FlowStep A0 n0 c0 rs A1 n1 c1 os op d a b c n w h0 l0 m0 h1 l1 m1
theorem ex_spec_FlowStep (A0 : Option Addr) (n0 c0 : Nat) (rs : List Int) (A1 : Option Addr) (n1 c1 : Nat) (os : List Int) (op d a b c n : Int) (w : World) (h0 : Ints w A0 rs) (l0 : rs.length = n0) (m0 : n0 ≤ 1999999) (v0 : ∀ z ∈ rs, (Lit.int .i64 z).wf = true) (h1 : Ints w A1 os) (l1 : os.length = n1) (m1 : n1 ≤ 1999999) (_v1 : ∀ z ∈ os, (Lit.int .i64 z).wf = true) :
    Calls Try.prog 20 #[.agg #[.slice A0 n0 c0, .slice A1 n1 c1], .agg #[.int .i64 op, .int .i64 d, .int .i64 a, .int .i64 b, .int .i64 c, .int .i64 n]] w (Post_Flow (flowR rs op d a b c n) (flowO rs os op d a b c n) w) :=
  spec_FlowStep A0 n0 c0 rs A1 n1 c1 os op d a b c n w h0 l0 m0 h1 l1 m1 v0
theorem ex_impl_OutputDeps (A : Option Addr) (n cp : Nat) (ss : List St) (w : World) (hr : Ints w A (flat ss)) (hl : ss.length = n) (hn : n ≤ 2000000) : Calls Try.prog 10 #[.slice A n cp] w (Post_A_bool (depsI ss) (decide (unrI ss)) w) := impl_OutputDeps A n cp ss w hr hl hn
theorem ex_spec_OutputDeps (A : Option Addr) (n cp : Nat) (ss : List St) (w : World) (hr : Ints w A (flat ss)) (hl : ss.length = n) (hn : n ≤ 2000000) : Calls Try.prog 25 #[.slice A n cp] w (Post_A_bool (depsI ss) (decide (unrI ss)) w) := spec_OutputDeps A n cp ss w hr hl hn
theorem ex_impl_FlowOk (A : Option Addr) (n cp : Nat) (ss : List St) (B : Option Addr) (nb cb : Nat) (al : List Int) (w : World) (hr : Ints w A (flat ss)) (hl : ss.length = n) (hn : n ≤ 2000000) (hb : Ints w B al) (lb : al.length = nb) (mb : nb ≤ 2000000) : Calls Try.prog 12 #[.slice A n cp, .slice B nb cb] w (Post_bool (decide (flowOkI ss al)) w) := impl_FlowOk A n cp ss B nb cb al w hr hl hn hb lb mb
theorem ex_spec_FlowOk (A : Option Addr) (n cp : Nat) (ss : List St) (B : Option Addr) (nb cb : Nat) (al : List Int) (w : World) (hr : Ints w A (flat ss)) (hl : ss.length = n) (hn : n ≤ 2000000) (hb : Ints w B al) (lb : al.length = nb) (mb : nb ≤ 2000000) : Calls Try.prog 32 #[.slice A n cp, .slice B nb cb] w (Post_bool (decide (flowOkI ss al)) w) := spec_FlowOk A n cp ss B nb cb al w hr hl hn hb lb mb
end Go.Proofs.Ytklmhkckhdmelaa

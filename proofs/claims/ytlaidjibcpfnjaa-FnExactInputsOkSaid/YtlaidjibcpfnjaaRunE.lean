/- Contracts of stage 12 in the exact laws' form. No condition. -/
import Derived.Test.YtlaidjibcpfnjaaProg
import Derived.Test.YtlaidjibcpfnjaaB2
import Derived.Test.YtlaidjibcpfnjaaRunP
namespace Go.Proofs.Ytlaidjibcpfnjaa
open Go Go.RowKit
theorem ex_impl_StateNew (w : World) : Calls Try.prog 21 #[] w (Post_State (List.replicate 8 0) [] w) := impl_StateNew w
theorem ex_spec_StateNew (w : World) : Calls Try.prog 29 #[] w (Post_State (List.replicate 8 0) [] w) := spec_StateNew w
theorem ex_impl_StateOk (A0 : Option Addr) (n0 c0 : Nat) (rs : List Int) (A1 : Option Addr) (n1 c1 : Nat) (os : List Int) (w : World) (h0 : Ints w A0 rs) (l0 : rs.length = n0) (m0 : n0 ≤ 1000000000000) (h1 : Ints w A1 os) (l1 : os.length = n1) (m1 : n1 ≤ 1000000000000) :
    Calls Try.prog 23 #[.agg #[.slice A0 n0 c0, .slice A1 n1 c1]] w (Post_bool (decide (stOk rs os)) w) := impl_StateOk A0 n0 c0 rs A1 n1 c1 os w h0 l0 m0 h1 l1 m1
theorem ex_spec_StateOk (A0 : Option Addr) (n0 c0 : Nat) (rs : List Int) (A1 : Option Addr) (n1 c1 : Nat) (os : List Int) (w : World) (h0 : Ints w A0 rs) (l0 : rs.length = n0) (m0 : n0 ≤ 1000000000000) (h1 : Ints w A1 os) (l1 : os.length = n1) (m1 : n1 ≤ 1000000000000) :
    Calls Try.prog 34 #[.agg #[.slice A0 n0 c0, .slice A1 n1 c1]] w (Post_bool (decide (stOk rs os)) w) := spec_StateOk A0 n0 c0 rs A1 n1 c1 os w h0 l0 m0 h1 l1 m1
theorem ex_impl_InputsOk (A : Option Addr) (n c : Nat) (I : List (List Int)) (w : World) (hz : Rows w.heap.size w A I) (hl : I.length = n) (hn : n ≤ 1000000000000) :
    Calls Try.prog 25 #[.slice A n c] w (Post_bool (decide (insOk I)) w) := (impl_InputsOk A n c I _ rfl w hz hl hn).mono fun _ _ ⟨he, hw⟩ => ⟨he, by subst hw; exact Below.refl _ _⟩
theorem ex_spec_InputsOk (A : Option Addr) (n c : Nat) (I : List (List Int)) (w : World) (hz : Rows w.heap.size w A I) (hl : I.length = n) (hn : n ≤ 1000000000000) :
    Calls Try.prog 37 #[.slice A n c] w (Post_bool (decide (insOk I)) w) := (spec_InputsOk A n c I _ rfl w hz hl hn).mono fun _ _ ⟨he, hw⟩ => ⟨he, by subst hw; exact Below.refl _ _⟩
theorem ex_impl_StepState (A0 : Option Addr) (n0 c0 : Nat) (rs : List Int) (A1 : Option Addr) (n1 c1 : Nat) (os : List Int) (op d a b c n : Int) (A2 : Option Addr) (n2 c2 : Nat) (I : List (List Int)) (w : World) (h0 : Ints w A0 rs) (l0 : rs.length = n0) (m0 : n0 ≤ 1999999) (h1 : Ints w A1 os) (l1 : os.length = n1) (m1 : n1 ≤ 1999999) (h2 : Rows w.heap.size w A2 I) (l2 : I.length = n2) (m2 : n2 ≤ 1999999) :
    Calls Try.prog 22 #[.agg #[.slice A0 n0 c0, .slice A1 n1 c1], .agg #[.int .i64 op, .int .i64 d, .int .i64 a, .int .i64 b, .int .i64 c, .int .i64 n], .slice A2 n2 c2] w (Post_State (stepR rs os I op d a b c n) (stepO rs os I op d a b c n) w) :=
  impl_StepState A0 A1 A2 c0 c1 n0 n1 n2 c2 rs os I op d a b c n w h0 l0 m0 h1 l1 m1 h2 l2 m2
theorem ex_spec_StepState (A0 : Option Addr) (n0 c0 : Nat) (rs : List Int) (A1 : Option Addr) (n1 c1 : Nat) (os : List Int) (op d a b c n : Int) (A2 : Option Addr) (n2 c2 : Nat) (I : List (List Int)) (w : World) (h0 : Ints w A0 rs) (l0 : rs.length = n0) (m0 : n0 ≤ 1999999) (h1 : Ints w A1 os) (l1 : os.length = n1) (m1 : n1 ≤ 1999999) (h2 : Rows w.heap.size w A2 I) (l2 : I.length = n2) (m2 : n2 ≤ 1999999) :
    Calls Try.prog 40 #[.agg #[.slice A0 n0 c0, .slice A1 n1 c1], .agg #[.int .i64 op, .int .i64 d, .int .i64 a, .int .i64 b, .int .i64 c, .int .i64 n], .slice A2 n2 c2] w (Post_State (stepR rs os I op d a b c n) (stepO rs os I op d a b c n) w) :=
  spec_StepState A0 A1 A2 c0 c1 n0 n1 n2 c2 rs os I op d a b c n w h0 l0 m0 h1 l1 m1 h2 l2 m2
theorem ex_impl_RunProgram (A : Option Addr) (n cp : Nat) (ss : List St) (A2 : Option Addr) (n2 cp2 : Nat) (I : List (List Int)) (w : World) (hr : Ints w A (flat ss)) (hl : ss.length = n) (hn : n ≤ 2000000) (h2 : Rows w.heap.size w A2 I) (l2 : I.length = n2) (m2 : n2 ≤ 1999999) :
    Calls Try.prog 17 #[.slice A n cp, .slice A2 n2 cp2] w (Post_A_bool (runI ss I) (decide (runOk ss I)) w) := impl_RunProgram A n cp ss A2 n2 cp2 I w hr hl hn h2 l2 m2
theorem ex_spec_RunProgram (A : Option Addr) (n cp : Nat) (ss : List St) (A2 : Option Addr) (n2 cp2 : Nat) (I : List (List Int)) (w : World) (hr : Ints w A (flat ss)) (hl : ss.length = n) (hn : n ≤ 2000000) (h2 : Rows w.heap.size w A2 I) (l2 : I.length = n2) (m2 : n2 ≤ 1999999) :
    Calls Try.prog 44 #[.slice A n cp, .slice A2 n2 cp2] w (Post_A_bool (runI ss I) (decide (runOk ss I)) w) := spec_RunProgram A n cp ss A2 n2 cp2 I w hr hl hn h2 l2 m2
theorem ex_impl_Operate (op a b : Int) (w : World) : Calls Try.prog 20 #[.int .i64 op, .int .i64 a, .int .i64 b] w (Post_int (operI op a b) w) := impl_Operate op a b w
theorem ex_spec_Operate (op a b : Int) (w : World) : Calls Try.prog 51 #[.int .i64 op, .int .i64 a, .int .i64 b] w (Post_int (operI op a b) w) := (spec_Operate op a b w).mono fun _ _ ⟨he, hw⟩ => ⟨he, by subst hw; exact Below.refl _ _⟩
end Go.Proofs.Ytlaidjibcpfnjaa

/- Circuit builders: the contracts of stage 14's exact laws. No condition. -/
import Derived.Test.YtkcknejkldhmaabProg
import Derived.Test.YtkcknejkldhmaabCwAdd
import Derived.Test.YtkcknejkldhmaabCwSub
import Derived.Test.YtkcknejkldhmaabCwMul
import Derived.Test.YtkcknejkldhmaabCwLess
import Derived.Test.YtkcknejkldhmaabCwEqual
import Derived.Test.YtkcknejkldhmaabCwMux
import Derived.Test.YtkcknejkldhmaabCwConst
import Derived.Test.YtkcknejkldhmaabCwS1
import Derived.Test.YtkcknejkldhmaabCwS2
import Derived.Test.YtkcknejkldhmaabCwS3
import Derived.Test.YtkcknejkldhmaabCwS4
namespace Go.Proofs.Ytkcknejkldhmaab
open Go Go.RowKit
theorem ex_impl_WordAdd (A0 : Option Addr) (n0 c0 : Nat) (z0 : List Int) (A1 : Option Addr) (n1 c1 : Nat) (z1 : List Int) (A2 : Option Addr) (n2 _c2 : Nat) (us : List Int) (A3 : Option Addr) (n3 _c3 : Nat) (ws : List Int) (w : World) (h0 : Ints w A0 z0) (l0 : z0.length = n0 * 3) (m0 : n0 ≤ 2000000) (h1 : Ints w A1 z1) (l1 : z1.length = n1) (m1 : n1 ≤ 2000000) (h2 : Ints w A2 us) (l2 : us.length = n2) (m2 : n2 ≤ 2000000) (h3 : Ints w A3 ws) (l3 : ws.length = n3) (m3 : n3 ≤ 2000000) :
    Calls Try.prog 15 #[.agg #[.slice A0 n0 c0, .slice A1 n1 c1], .slice A2 n2 n2, .slice A3 n3 n3] w (Post_Circuit_A (wAdd z0 n0 z1 us ws).1 z1 (wAdd z0 n0 z1 us ws).2 w) :=
  impl_WordAdd A0 n0 c0 z0 A1 n1 c1 z1 A2 n2 n2 us A3 n3 n3 ws w h0 l0 m0 h1 l1 m1 h2 l2 m2 (Nat.le_refl _) h3 l3 m3 (Nat.le_refl _)
theorem ex_spec_WordAdd (A0 : Option Addr) (n0 c0 : Nat) (z0 : List Int) (A1 : Option Addr) (n1 c1 : Nat) (z1 : List Int) (A2 : Option Addr) (n2 _c2 : Nat) (us : List Int) (A3 : Option Addr) (n3 _c3 : Nat) (ws : List Int) (w : World) (h0 : Ints w A0 z0) (l0 : z0.length = n0 * 3) (m0 : n0 ≤ 2000000) (h1 : Ints w A1 z1) (l1 : z1.length = n1) (m1 : n1 ≤ 2000000) (h2 : Ints w A2 us) (l2 : us.length = n2) (m2 : n2 ≤ 2000000) (h3 : Ints w A3 ws) (l3 : ws.length = n3) (m3 : n3 ≤ 2000000) :
    Calls Try.prog 33 #[.agg #[.slice A0 n0 c0, .slice A1 n1 c1], .slice A2 n2 n2, .slice A3 n3 n3] w (Post_Circuit_A (wAdd z0 n0 z1 us ws).1 z1 (wAdd z0 n0 z1 us ws).2 w) :=
  spec_WordAdd A0 n0 c0 z0 A1 n1 c1 z1 A2 n2 n2 us A3 n3 n3 ws w h0 l0 m0 h1 l1 m1 h2 l2 m2 h3 l3 m3
theorem ex_impl_WordSub (A0 : Option Addr) (n0 c0 : Nat) (z0 : List Int) (A1 : Option Addr) (n1 c1 : Nat) (z1 : List Int) (A2 : Option Addr) (n2 _c2 : Nat) (us : List Int) (A3 : Option Addr) (n3 _c3 : Nat) (ws : List Int) (w : World) (h0 : Ints w A0 z0) (l0 : z0.length = n0 * 3) (m0 : n0 ≤ 2000000) (h1 : Ints w A1 z1) (l1 : z1.length = n1) (m1 : n1 ≤ 2000000) (h2 : Ints w A2 us) (l2 : us.length = n2) (m2 : n2 ≤ 2000000) (h3 : Ints w A3 ws) (l3 : ws.length = n3) (m3 : n3 ≤ 2000000) :
    Calls Try.prog 16 #[.agg #[.slice A0 n0 c0, .slice A1 n1 c1], .slice A2 n2 n2, .slice A3 n3 n3] w (Post_Circuit_A (wSub z0 n0 z1 us ws).1 z1 (wSub z0 n0 z1 us ws).2 w) :=
  impl_WordSub A0 n0 c0 z0 A1 n1 c1 z1 A2 n2 n2 us A3 n3 n3 ws w h0 l0 m0 h1 l1 m1 h2 l2 m2 (Nat.le_refl _) h3 l3 m3 (Nat.le_refl _)
theorem ex_spec_WordSub (A0 : Option Addr) (n0 c0 : Nat) (z0 : List Int) (A1 : Option Addr) (n1 c1 : Nat) (z1 : List Int) (A2 : Option Addr) (n2 _c2 : Nat) (us : List Int) (A3 : Option Addr) (n3 _c3 : Nat) (ws : List Int) (w : World) (h0 : Ints w A0 z0) (l0 : z0.length = n0 * 3) (m0 : n0 ≤ 2000000) (h1 : Ints w A1 z1) (l1 : z1.length = n1) (m1 : n1 ≤ 2000000) (h2 : Ints w A2 us) (l2 : us.length = n2) (m2 : n2 ≤ 2000000) (h3 : Ints w A3 ws) (l3 : ws.length = n3) (m3 : n3 ≤ 2000000) :
    Calls Try.prog 35 #[.agg #[.slice A0 n0 c0, .slice A1 n1 c1], .slice A2 n2 n2, .slice A3 n3 n3] w (Post_Circuit_A (wSub z0 n0 z1 us ws).1 z1 (wSub z0 n0 z1 us ws).2 w) :=
  spec_WordSub A0 n0 c0 z0 A1 n1 c1 z1 A2 n2 n2 us A3 n3 n3 ws w h0 l0 m0 h1 l1 m1 h2 l2 m2 h3 l3 m3
theorem ex_impl_WordMul (A0 : Option Addr) (n0 c0 : Nat) (z0 : List Int) (A1 : Option Addr) (n1 c1 : Nat) (z1 : List Int) (A2 : Option Addr) (n2 _c2 : Nat) (us : List Int) (A3 : Option Addr) (n3 _c3 : Nat) (ws : List Int) (w : World) (h0 : Ints w A0 z0) (l0 : z0.length = n0 * 3) (m0 : n0 ≤ 2000000) (h1 : Ints w A1 z1) (l1 : z1.length = n1) (m1 : n1 ≤ 2000000) (h2 : Ints w A2 us) (l2 : us.length = n2) (m2 : n2 ≤ 2000000) (h3 : Ints w A3 ws) (l3 : ws.length = n3) (m3 : n3 ≤ 2000000) :
    Calls Try.prog 17 #[.agg #[.slice A0 n0 c0, .slice A1 n1 c1], .slice A2 n2 n2, .slice A3 n3 n3] w (Post_Circuit_A (wMul z0 n0 z1 us ws).1 z1 (wMul z0 n0 z1 us ws).2 w) :=
  impl_WordMul A0 n0 c0 z0 A1 n1 c1 z1 A2 n2 n2 us A3 n3 n3 ws w h0 l0 m0 h1 l1 m1 h2 l2 m2 (Nat.le_refl _) h3 l3 m3 (Nat.le_refl _)
theorem ex_spec_WordMul (A0 : Option Addr) (n0 c0 : Nat) (z0 : List Int) (A1 : Option Addr) (n1 c1 : Nat) (z1 : List Int) (A2 : Option Addr) (n2 _c2 : Nat) (us : List Int) (A3 : Option Addr) (n3 _c3 : Nat) (ws : List Int) (w : World) (h0 : Ints w A0 z0) (l0 : z0.length = n0 * 3) (m0 : n0 ≤ 2000000) (h1 : Ints w A1 z1) (l1 : z1.length = n1) (m1 : n1 ≤ 2000000) (h2 : Ints w A2 us) (l2 : us.length = n2) (m2 : n2 ≤ 2000000) (h3 : Ints w A3 ws) (l3 : ws.length = n3) (m3 : n3 ≤ 2000000) :
    Calls Try.prog 39 #[.agg #[.slice A0 n0 c0, .slice A1 n1 c1], .slice A2 n2 n2, .slice A3 n3 n3] w (Post_Circuit_A (wMul z0 n0 z1 us ws).1 z1 (wMul z0 n0 z1 us ws).2 w) :=
  spec_WordMul A0 n0 c0 z0 A1 n1 c1 z1 A2 n2 n2 us A3 n3 n3 ws w h0 l0 m0 h1 l1 m1 h2 l2 m2 h3 l3 m3
theorem ex_impl_WordLess (A0 : Option Addr) (n0 c0 : Nat) (z0 : List Int) (A1 : Option Addr) (n1 c1 : Nat) (z1 : List Int) (A2 : Option Addr) (n2 _c2 : Nat) (us : List Int) (A3 : Option Addr) (n3 _c3 : Nat) (ws : List Int) (w : World) (h0 : Ints w A0 z0) (l0 : z0.length = n0 * 3) (m0 : n0 ≤ 2000000) (h1 : Ints w A1 z1) (l1 : z1.length = n1) (m1 : n1 ≤ 2000000) (h2 : Ints w A2 us) (l2 : us.length = n2) (m2 : n2 ≤ 2000000) (h3 : Ints w A3 ws) (l3 : ws.length = n3) (m3 : n3 ≤ 2000000) :
    Calls Try.prog 21 #[.agg #[.slice A0 n0 c0, .slice A1 n1 c1], .slice A2 n2 n2, .slice A3 n3 n3] w (Post_Circuit_int (wLess z0 n0 z1 us ws).1 z1 (wLess z0 n0 z1 us ws).2 w) :=
  impl_WordLess A0 n0 c0 z0 A1 n1 c1 z1 A2 n2 n2 us A3 n3 n3 ws w h0 l0 m0 h1 l1 m1 h2 l2 m2 (Nat.le_refl _) h3 l3 m3 (Nat.le_refl _)
theorem ex_spec_WordLess (A0 : Option Addr) (n0 c0 : Nat) (z0 : List Int) (A1 : Option Addr) (n1 c1 : Nat) (z1 : List Int) (A2 : Option Addr) (n2 _c2 : Nat) (us : List Int) (A3 : Option Addr) (n3 _c3 : Nat) (ws : List Int) (w : World) (h0 : Ints w A0 z0) (l0 : z0.length = n0 * 3) (m0 : n0 ≤ 2000000) (h1 : Ints w A1 z1) (l1 : z1.length = n1) (m1 : n1 ≤ 2000000) (h2 : Ints w A2 us) (l2 : us.length = n2) (m2 : n2 ≤ 2000000) (h3 : Ints w A3 ws) (l3 : ws.length = n3) (m3 : n3 ≤ 2000000) :
    Calls Try.prog 36 #[.agg #[.slice A0 n0 c0, .slice A1 n1 c1], .slice A2 n2 n2, .slice A3 n3 n3] w (Post_Circuit_int (wLess z0 n0 z1 us ws).1 z1 (wLess z0 n0 z1 us ws).2 w) :=
  spec_WordLess A0 n0 c0 z0 A1 n1 c1 z1 A2 n2 n2 us A3 n3 n3 ws w h0 l0 m0 h1 l1 m1 h2 l2 m2 h3 l3 m3
theorem ex_impl_WordEqual (A0 : Option Addr) (n0 c0 : Nat) (z0 : List Int) (A1 : Option Addr) (n1 c1 : Nat) (z1 : List Int) (A2 : Option Addr) (n2 _c2 : Nat) (us : List Int) (A3 : Option Addr) (n3 _c3 : Nat) (ws : List Int) (w : World) (h0 : Ints w A0 z0) (l0 : z0.length = n0 * 3) (m0 : n0 ≤ 2000000) (h1 : Ints w A1 z1) (l1 : z1.length = n1) (m1 : n1 ≤ 2000000) (h2 : Ints w A2 us) (l2 : us.length = n2) (m2 : n2 ≤ 2000000) (h3 : Ints w A3 ws) (l3 : ws.length = n3) (m3 : n3 ≤ 2000000) :
    Calls Try.prog 22 #[.agg #[.slice A0 n0 c0, .slice A1 n1 c1], .slice A2 n2 n2, .slice A3 n3 n3] w (Post_Circuit_int (wEqual z0 n0 z1 us ws).1 z1 (wEqual z0 n0 z1 us ws).2 w) :=
  impl_WordEqual A0 n0 c0 z0 A1 n1 c1 z1 A2 n2 n2 us A3 n3 n3 ws w h0 l0 m0 h1 l1 m1 h2 l2 m2 (Nat.le_refl _) h3 l3 m3 (Nat.le_refl _)
theorem ex_spec_WordEqual (A0 : Option Addr) (n0 c0 : Nat) (z0 : List Int) (A1 : Option Addr) (n1 c1 : Nat) (z1 : List Int) (A2 : Option Addr) (n2 _c2 : Nat) (us : List Int) (A3 : Option Addr) (n3 _c3 : Nat) (ws : List Int) (w : World) (h0 : Ints w A0 z0) (l0 : z0.length = n0 * 3) (m0 : n0 ≤ 2000000) (h1 : Ints w A1 z1) (l1 : z1.length = n1) (m1 : n1 ≤ 2000000) (h2 : Ints w A2 us) (l2 : us.length = n2) (m2 : n2 ≤ 2000000) (h3 : Ints w A3 ws) (l3 : ws.length = n3) (m3 : n3 ≤ 2000000) :
    Calls Try.prog 37 #[.agg #[.slice A0 n0 c0, .slice A1 n1 c1], .slice A2 n2 n2, .slice A3 n3 n3] w (Post_Circuit_int (wEqual z0 n0 z1 us ws).1 z1 (wEqual z0 n0 z1 us ws).2 w) :=
  spec_WordEqual A0 n0 c0 z0 A1 n1 c1 z1 A2 n2 n2 us A3 n3 n3 ws w h0 l0 m0 h1 l1 m1 h2 l2 m2 h3 l3 m3
theorem ex_impl_WordMux (A0 : Option Addr) (n0 c0 : Nat) (z0 : List Int) (A1 : Option Addr) (n1 c1 : Nat) (z1 : List Int) (s : Int) (A2 : Option Addr) (n2 _c2 : Nat) (us : List Int) (A3 : Option Addr) (n3 _c3 : Nat) (ws : List Int) (w : World) (h0 : Ints w A0 z0) (l0 : z0.length = n0 * 3) (m0 : n0 ≤ 2000000) (h1 : Ints w A1 z1) (l1 : z1.length = n1) (m1 : n1 ≤ 2000000) (h2 : Ints w A2 us) (l2 : us.length = n2) (m2 : n2 ≤ 2000000) (h3 : Ints w A3 ws) (l3 : ws.length = n3) (m3 : n3 ≤ 2000000) :
    Calls Try.prog 23 #[.agg #[.slice A0 n0 c0, .slice A1 n1 c1], .int .i64 s, .slice A2 n2 n2, .slice A3 n3 n3] w (Post_Circuit_A (wMux z0 n0 z1 s us ws).1 z1 (wMux z0 n0 z1 s us ws).2 w) :=
  impl_WordMux A0 n0 c0 z0 A1 n1 c1 z1 s A2 n2 n2 us A3 n3 n3 ws w h0 l0 m0 h1 l1 m1 h2 l2 m2 h3 l3 m3
theorem ex_spec_WordMux (A0 : Option Addr) (n0 c0 : Nat) (z0 : List Int) (A1 : Option Addr) (n1 c1 : Nat) (z1 : List Int) (s : Int) (A2 : Option Addr) (n2 _c2 : Nat) (us : List Int) (A3 : Option Addr) (n3 _c3 : Nat) (ws : List Int) (w : World) (h0 : Ints w A0 z0) (l0 : z0.length = n0 * 3) (m0 : n0 ≤ 2000000) (h1 : Ints w A1 z1) (l1 : z1.length = n1) (m1 : n1 ≤ 2000000) (h2 : Ints w A2 us) (l2 : us.length = n2) (m2 : n2 ≤ 2000000) (h3 : Ints w A3 ws) (l3 : ws.length = n3) (m3 : n3 ≤ 2000000) :
    Calls Try.prog 38 #[.agg #[.slice A0 n0 c0, .slice A1 n1 c1], .int .i64 s, .slice A2 n2 n2, .slice A3 n3 n3] w (Post_Circuit_A (wMux z0 n0 z1 s us ws).1 z1 (wMux z0 n0 z1 s us ws).2 w) :=
  spec_WordMux A0 n0 c0 z0 A1 n1 c1 z1 s A2 n2 n2 us A3 n3 n3 ws w h0 l0 m0 h1 l1 m1 h2 l2 m2 h3 l3 m3
theorem ex_impl_WordConst (A0 : Option Addr) (n0 c0 : Nat) (z0 : List Int) (A1 : Option Addr) (n1 c1 : Nat) (z1 : List Int) (N : Int) (w : World) (h0 : Ints w A0 z0) (l0 : z0.length = n0 * 3) (m0 : n0 ≤ 2000000) (h1 : Ints w A1 z1) (l1 : z1.length = n1) (m1 : n1 ≤ 2000000) :
    Calls Try.prog 14 #[.agg #[.slice A0 n0 c0, .slice A1 n1 c1], .int .i64 N] w (Post_Circuit_A (wConst z0 n0 z1 N).1 z1 (wConst z0 n0 z1 N).2 w) :=
  impl_WordConst A0 n0 c0 z0 A1 n1 c1 z1 N w h0 l0 m0 h1 l1 m1
theorem ex_spec_WordConst (A0 : Option Addr) (n0 c0 : Nat) (z0 : List Int) (A1 : Option Addr) (n1 c1 : Nat) (z1 : List Int) (N : Int) (w : World) (h0 : Ints w A0 z0) (l0 : z0.length = n0 * 3) (m0 : n0 ≤ 2000000) (h1 : Ints w A1 z1) (l1 : z1.length = n1) (m1 : n1 ≤ 2000000) :
    Calls Try.prog 25 #[.agg #[.slice A0 n0 c0, .slice A1 n1 c1], .int .i64 N] w (Post_Circuit_A (wConst z0 n0 z1 N).1 z1 (wConst z0 n0 z1 N).2 w) :=
  spec_WordConst A0 n0 c0 z0 A1 n1 c1 z1 N w h0 l0 m0 h1 l1 m1
theorem Wrs.of_ok {n : Nat} {us : List Int} (h : wiresOk us n) : Wrs n us := fun _ hi => h _ (gD_mem hi)
section
variable {z : List Int} {n : Nat} (os us ws : List Int) (hz : z.length = n * 3) (hn : n ≤ 1048576)
include hz hn
theorem wAdd_len : (wAdd z n os us ws).1.length ≤ 5700000 ∧ (wAdd z n os us ws).2.length ≤ 1900000 := by
  unfold wAdd
  split
  · rename_i h
    obtain ⟨g, hl, _⟩ := sumA_grw hz (Wrs.of_ok h.2.1.2) (Wrs.of_ok h.2.2.2) (f := 0) (by unfold isBit; omega) (m := 3) h.2.1.1 h.2.2.1
    have := g.len
    have := h.1.2
    omega
  · exact ⟨by show z.length ≤ _; omega, by simp⟩
theorem wSub_len : (wSub z n os us ws).1.length ≤ 5700000 ∧ (wSub z n os us ws).2.length ≤ 1900000 := by
  unfold wSub
  split
  · rename_i h
    obtain ⟨g0, hl0, hs0⟩ := notsAt_grw hz (Wrs.of_ok h.2.2.2) 4 (by have := h.2.2.1; omega)
    obtain ⟨g, hl, _⟩ := sumA_grw g0.len ((Wrs.of_ok h.2.1.2).mono g0.le) hs0 (f := 1) (by unfold isBit; omega) (m := 3) h.2.1.1 hl0
    have := g.len
    have := h.1.2
    omega
  · exact ⟨by show z.length ≤ _; omega, by simp⟩
theorem wMul_len : (wMul z n os us ws).1.length ≤ 5700000 ∧ (wMul z n os us ws).2.length ≤ 1900000 := by
  unfold wMul
  split
  · rename_i h
    obtain ⟨g, hl, _⟩ := mulAt_grw hz (Wrs.of_ok h.2.1.2) (Wrs.of_ok h.2.2.2) h.2.1.1 h.2.2.1 3 (by omega)
    have := g.len
    have := h.1.2
    have e : mulN 3 = 34 := by decide
    omega
  · exact ⟨by show z.length ≤ _; omega, by simp⟩
theorem wLess_len : (wLess z n os us ws).1.length ≤ 5700000 := by
  unfold wLess
  split
  · rename_i h
    obtain ⟨g, _⟩ := lessA_grw hz (Wrs.of_ok h.2.1.2) (Wrs.of_ok h.2.2.2) h.2.1.1 h.2.2.1
    have := g.len
    have := h.1.2
    omega
  · show z.length ≤ _; omega
theorem wEqual_len : (wEqual z n os us ws).1.length ≤ 5700000 := by
  unfold wEqual
  split
  · rename_i h
    obtain ⟨g, _⟩ := equalA_grw hz (Wrs.of_ok h.2.1.2) (Wrs.of_ok h.2.2.2) h.2.1.1 h.2.2.1
    have := g.len
    have := h.1.2
    omega
  · show z.length ≤ _; omega
theorem wMux_len (s : Int) : (wMux z n os s us ws).1.length ≤ 5700000 ∧ (wMux z n os s us ws).2.length ≤ 1900000 := by
  unfold wMux
  split
  · rename_i h
    obtain ⟨g, hl, _⟩ := muxAt_grw hz h.2 (Wrs.of_ok h.1.2.1.2) (Wrs.of_ok h.1.2.2.2) 4 (by have := h.1.2.1.1; omega) (by have := h.1.2.2.1; omega)
    have := g.len
    have := h.1.1.2
    omega
  · exact ⟨by show z.length ≤ _; omega, by simp⟩
end
theorem wConst_len {z : List Int} {n : Nat} (os : List Int) (N : Int) (hz : z.length = n * 3) (hn : n ≤ 1048576) : (wConst z n os N).1.length ≤ 5700000 ∧ (wConst z n os N).2.length ≤ 1900000 := by
  unfold wConst
  split
  · rename_i h
    obtain ⟨g, hl, _⟩ := constAt_grw (z := z) N hz 4
    have := g.len
    have := h.1.2
    omega
  · exact ⟨by show z.length ≤ _; omega, by simp⟩
end Go.Proofs.Ytkcknejkldhmaab

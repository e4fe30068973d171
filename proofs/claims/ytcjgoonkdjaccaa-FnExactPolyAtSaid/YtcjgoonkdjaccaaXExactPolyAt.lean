/- The law FnExactPolyAt: the walk. -/
import Derived.Test.YtcjgoonkdjaccaaProg
import Derived.Test.YtcjgoonkdjaccaaPost
import Derived.Test.YtcjgoonkdjaccaaPolyZ
namespace Go.Proofs.Ytcjgoonkdjaccaa
open Go Go.RowKit
set_option maxHeartbeats 1000000 in
theorem FnExactPolyAt_walk (a0 : Int) (A1 : Option Addr) (n1 c1 : Nat) (z1 : List Int) (a2 : Int) (w : World) (_h0 : (Lit.int .i64 a0).wf = true) (h1 : Ints w A1 z1) (l1 : z1.length = n1) (m1 : n1 ≤ 9223372036854775807) (_h2 : (Lit.int .i64 a2).wf = true) :
    Calls Try.prog 7 #[.int .i64 a0, .slice A1 n1 c1, .int .i64 a2] w fun e w' => e = .returned (.bool true) ∧ Below w.heap.size w w' := by
  have low : Below w.heap.size w w := Below.refl _ _
  by_cases hn1 : 1048576 < n1
  · clear h1 l1
    go_enter Try.func7, Try.ntmps7
    go_wp2_with fail
    go_ret
    exact ⟨rfl, low⟩
  have mm1 : n1 ≤ 1048576 := by omega
  clear hn1 m1
  have L1 := Lib.hid l1
  have i1 := h1.bound.below low
  clear h1 l1
  obtain ⟨R0, hR0⟩ : ∃ r, polyI a0 z1 a2 = r := ⟨_, rfl⟩
  have E := Lib.hid (show ∀ w e w', Post_int (polyI a0 z1 a2) w e w' → Post_int R0 w e w' from by subst hR0; intro _ _ _ h; exact h)
  clear hR0
  go_enter Try.func7, Try.ntmps7
  go_wp2_with fail
  refine (toIntS_own A1 n1 c1 z1 w (i1.ints low.size) L1.out (by omega)).mono ?_
  rintro e w2 ⟨X1, rfl, o3, hb⟩
  replace i1 := i1.below (hb.mono low.size)
  replace low := low.trans (hb.mono low.size)
  have q4 := hb.size
  clear hb
  go_wp2_with fail
  refine (ex_spec_PolyAt a0 X1 n1 n1 z1 a2 w2 o3.ints L1.out (by omega)).mono ?_
  intro e w5 h
  obtain ⟨rfl, hb⟩ := E.out _ _ _ h
  clear h
  replace i1 := i1.below (hb.mono low.size)
  replace o3 := o3.below hb
  replace low := low.trans (hb.mono low.size)
  have q6 := hb.size
  clear hb
  clear o3
  go_wp2_with fail
  refine (toIntS_own A1 n1 c1 z1 w5 (i1.ints low.size) L1.out (by omega)).mono ?_
  rintro e w8 ⟨X7, rfl, o9, hb⟩
  replace i1 := i1.below (hb.mono low.size)
  replace low := low.trans (hb.mono low.size)
  have q10 := hb.size
  clear hb
  go_wp2_with fail
  refine (ex_impl_PolyAt a0 X7 n1 n1 z1 a2 w8 o9.ints L1.out (by omega)).mono ?_
  intro e w11 h
  obtain ⟨rfl, hb⟩ := E.out _ _ _ h
  clear h
  replace i1 := i1.below (hb.mono low.size)
  replace o9 := o9.below hb
  replace low := low.trans (hb.mono low.size)
  have q12 := hb.size
  clear hb
  go_wp2_with fail
  refine (toIntS_own A1 n1 c1 z1 w11 (i1.ints low.size) L1.out (by omega)).mono ?_
  rintro e w14 ⟨X13, rfl, o15, hb⟩
  replace i1 := i1.below (hb.mono low.size)
  replace o9 := o9.below hb
  replace low := low.trans (hb.mono low.size)
  have q16 := hb.size
  clear hb
  go_wp2_with fail
  refine (eqIntS_same n1 n1 n1 n1 X7 X13 z1 z1 w14 o9.ints o15.ints rfl L1.out L1.out (by omega)).mono ?_
  rintro e w17 ⟨rfl, hb⟩
  replace i1 := i1.below (hb.mono low.size)
  replace o9 := o9.below hb
  replace o15 := o15.below hb
  replace low := low.trans (hb.mono low.size)
  have q18 := hb.size
  clear hb
  clear o15
  go_wp2_with fail
  go_ret
  exact ⟨by first | rfl | simp, low⟩
end Go.Proofs.Ytcjgoonkdjaccaa

/- The law FnExactOpenPoly: the walk. -/
import Derived.Test.YtcjgoonkdjaccaaProg
import Derived.Test.YtcjgoonkdjaccaaPost
import Derived.Test.YtcjgoonkdjaccaaPolyX
namespace Go.Proofs.Ytcjgoonkdjaccaa
open Go Go.RowKit
set_option maxHeartbeats 1000000 in
theorem FnExactOpenPoly_walk (a0 : Int) (A1 : Option Addr) (n1 c1 : Nat) (z1 : List Int) (A2 : Option Addr) (n2 c2 : Nat) (z2 : List Int) (w : World) (_h0 : (Lit.int .i64 a0).wf = true) (h1 : Ints w A1 z1) (l1 : z1.length = n1) (m1 : n1 ≤ 9223372036854775807) (h2 : Ints w A2 z2) (l2 : z2.length = n2) (m2 : n2 ≤ 9223372036854775807) :
    Calls Try.prog 9 #[.int .i64 a0, .slice A1 n1 c1, .slice A2 n2 c2] w fun e w' => e = .returned (.bool true) ∧ Below w.heap.size w w' := by
  have low : Below w.heap.size w w := Below.refl _ _
  by_cases hn1 : 1048576 < n1
  · clear h1 l1 h2 l2
    go_enter Try.func9, Try.ntmps9
    go_wp2_with fail
    go_ret
    exact ⟨rfl, low⟩
  have mm1 : n1 ≤ 1048576 := by omega
  clear hn1 m1
  by_cases hn2 : 1048576 < n2
  · clear h1 l1 h2 l2
    go_enter Try.func9, Try.ntmps9
    go_wp2_with fail
    go_ret
    exact ⟨rfl, low⟩
  have mm2 : n2 ≤ 1048576 := by omega
  clear hn2 m2
  have L1 := Lib.hid l1
  have i1 := h1.bound.below low
  have L2 := Lib.hid l2
  have i2 := h2.bound.below low
  clear h1 l1 h2 l2
  obtain ⟨R0, hR0⟩ : ∃ r, openP a0 z1 z2 = r := ⟨_, rfl⟩
  have E := Lib.hid (show ∀ w e w', Post_int (openP a0 z1 z2) w e w' → Post_int R0 w e w' from by subst hR0; intro _ _ _ h; exact h)
  clear hR0
  go_enter Try.func9, Try.ntmps9
  go_wp2_with fail
  refine (toIntS_own A1 n1 c1 z1 w (i1.ints low.size) L1.out (by omega)).mono ?_
  rintro e w2 ⟨X1, rfl, o3, hb⟩
  replace i1 := i1.below (hb.mono low.size)
  replace i2 := i2.below (hb.mono low.size)
  replace low := low.trans (hb.mono low.size)
  have q4 := hb.size
  clear hb
  go_wp2_with fail
  refine (toIntS_own A2 n2 c2 z2 w2 (i2.ints low.size) L2.out (by omega)).mono ?_
  rintro e w6 ⟨X5, rfl, o7, hb⟩
  replace i1 := i1.below (hb.mono low.size)
  replace i2 := i2.below (hb.mono low.size)
  replace o3 := o3.below hb
  replace low := low.trans (hb.mono low.size)
  have q8 := hb.size
  clear hb
  go_wp2_with fail
  refine (ex_spec_OpenPoly a0 X1 n1 n1 z1 X5 n2 n2 z2 w6 o3.ints L1.out (by omega) o7.ints L2.out (by omega)).mono ?_
  intro e w9 h
  obtain ⟨rfl, hb⟩ := E.out _ _ _ h
  clear h
  replace i1 := i1.below (hb.mono low.size)
  replace i2 := i2.below (hb.mono low.size)
  replace o3 := o3.below hb
  replace o7 := o7.below hb
  replace low := low.trans (hb.mono low.size)
  have q10 := hb.size
  clear hb
  clear o3
  clear o7
  go_wp2_with fail
  refine (toIntS_own A1 n1 c1 z1 w9 (i1.ints low.size) L1.out (by omega)).mono ?_
  rintro e w12 ⟨X11, rfl, o13, hb⟩
  replace i1 := i1.below (hb.mono low.size)
  replace i2 := i2.below (hb.mono low.size)
  replace low := low.trans (hb.mono low.size)
  have q14 := hb.size
  clear hb
  go_wp2_with fail
  refine (toIntS_own A2 n2 c2 z2 w12 (i2.ints low.size) L2.out (by omega)).mono ?_
  rintro e w16 ⟨X15, rfl, o17, hb⟩
  replace i1 := i1.below (hb.mono low.size)
  replace i2 := i2.below (hb.mono low.size)
  replace o13 := o13.below hb
  replace low := low.trans (hb.mono low.size)
  have q18 := hb.size
  clear hb
  go_wp2_with fail
  refine (ex_impl_OpenPoly a0 X11 n1 n1 z1 X15 n2 n2 z2 w16 o13.ints L1.out (by omega) o17.ints L2.out (by omega)).mono ?_
  intro e w19 h
  obtain ⟨rfl, hb⟩ := E.out _ _ _ h
  clear h
  replace i1 := i1.below (hb.mono low.size)
  replace i2 := i2.below (hb.mono low.size)
  replace o13 := o13.below hb
  replace o17 := o17.below hb
  replace low := low.trans (hb.mono low.size)
  have q20 := hb.size
  clear hb
  go_wp2_with fail
  refine (toIntS_own A1 n1 c1 z1 w19 (i1.ints low.size) L1.out (by omega)).mono ?_
  rintro e w22 ⟨X21, rfl, o23, hb⟩
  replace i1 := i1.below (hb.mono low.size)
  replace i2 := i2.below (hb.mono low.size)
  replace o13 := o13.below hb
  replace o17 := o17.below hb
  replace low := low.trans (hb.mono low.size)
  have q24 := hb.size
  clear hb
  go_wp2_with fail
  refine (eqIntS_same n1 n1 n1 n1 X11 X21 z1 z1 w22 o13.ints o23.ints rfl L1.out L1.out (by omega)).mono ?_
  rintro e w25 ⟨rfl, hb⟩
  replace i1 := i1.below (hb.mono low.size)
  replace i2 := i2.below (hb.mono low.size)
  replace o13 := o13.below hb
  replace o17 := o17.below hb
  replace o23 := o23.below hb
  replace low := low.trans (hb.mono low.size)
  have q26 := hb.size
  clear hb
  clear o23
  go_wp2_with fail
  refine (toIntS_own A2 n2 c2 z2 w25 (i2.ints low.size) L2.out (by omega)).mono ?_
  rintro e w28 ⟨X27, rfl, o29, hb⟩
  replace i1 := i1.below (hb.mono low.size)
  replace i2 := i2.below (hb.mono low.size)
  replace o13 := o13.below hb
  replace o17 := o17.below hb
  replace low := low.trans (hb.mono low.size)
  have q30 := hb.size
  clear hb
  go_wp2_with fail
  refine (eqIntS_same n2 n2 n2 n2 X15 X27 z2 z2 w28 o17.ints o29.ints rfl L2.out L2.out (by omega)).mono ?_
  rintro e w31 ⟨rfl, hb⟩
  replace i1 := i1.below (hb.mono low.size)
  replace i2 := i2.below (hb.mono low.size)
  replace o13 := o13.below hb
  replace o17 := o17.below hb
  replace o29 := o29.below hb
  replace low := low.trans (hb.mono low.size)
  have q32 := hb.size
  clear hb
  clear o29
  go_wp2_with fail
  go_ret
  exact ⟨by first | rfl | simp, low⟩
end Go.Proofs.Ytcjgoonkdjaccaa

/- The law FnExactCountPolys: the walk. -/
import Derived.Test.YtcjgoonkdjaccaaProg
import Derived.Test.YtcjgoonkdjaccaaPost
import Derived.Test.YtcjgoonkdjaccaaPolyD
namespace Go.Proofs.Ytcjgoonkdjaccaa
open Go Go.RowKit
set_option maxHeartbeats 1000000 in
theorem FnExactCountPolys_walk (a0 : Int) (a1 : Int) (a2 : Int) (A3 : Option Addr) (n3 c3 : Nat) (z3 : List Int) (A4 : Option Addr) (n4 c4 : Nat) (z4 : List Int) (w : World) (_h0 : (Lit.int .i64 a0).wf = true) (_h1 : (Lit.int .i64 a1).wf = true) (_h2 : (Lit.int .i64 a2).wf = true) (h3 : Ints w A3 z3) (l3 : z3.length = n3) (m3 : n3 ≤ 9223372036854775807) (h4 : Ints w A4 z4) (l4 : z4.length = n4) (m4 : n4 ≤ 9223372036854775807) :
    Calls Try.prog 11 #[.int .i64 a0, .int .i64 a1, .int .i64 a2, .slice A3 n3 c3, .slice A4 n4 c4] w fun e w' => e = .returned (.bool true) ∧ Below w.heap.size w w' := by
  have low : Below w.heap.size w w := Below.refl _ _
  by_cases hn3 : 1048576 < n3
  · clear h3 l3 h4 l4
    go_enter Try.func11, Try.ntmps11
    go_wp2_with fail
    go_ret
    exact ⟨rfl, low⟩
  have mm3 : n3 ≤ 1048576 := by omega
  clear hn3 m3
  by_cases hn4 : 1048576 < n4
  · clear h3 l3 h4 l4
    go_enter Try.func11, Try.ntmps11
    go_wp2_with fail
    go_ret
    exact ⟨rfl, low⟩
  have mm4 : n4 ≤ 1048576 := by omega
  clear hn4 m4
  have L3 := Lib.hid l3
  have i3 := h3.bound.below low
  have L4 := Lib.hid l4
  have i4 := h4.bound.below low
  clear h3 l3 h4 l4
  obtain ⟨R0, hR0⟩ : ∃ r, ctI a0 a1 a2 z3 z4 = r := ⟨_, rfl⟩
  have E := Lib.hid (show ∀ w e w', Post_int (ctI a0 a1 a2 z3 z4) w e w' → Post_int R0 w e w' from by subst hR0; intro _ _ _ h; exact h)
  clear hR0
  go_enter Try.func11, Try.ntmps11
  go_wp2_with fail
  refine (toIntS_own A3 n3 c3 z3 w (i3.ints low.size) L3.out (by omega)).mono ?_
  rintro e w2 ⟨X1, rfl, o3, hb⟩
  replace i3 := i3.below (hb.mono low.size)
  replace i4 := i4.below (hb.mono low.size)
  replace low := low.trans (hb.mono low.size)
  have q4 := hb.size
  clear hb
  go_wp2_with fail
  refine (toIntS_own A4 n4 c4 z4 w2 (i4.ints low.size) L4.out (by omega)).mono ?_
  rintro e w6 ⟨X5, rfl, o7, hb⟩
  replace i3 := i3.below (hb.mono low.size)
  replace i4 := i4.below (hb.mono low.size)
  replace o3 := o3.below hb
  replace low := low.trans (hb.mono low.size)
  have q8 := hb.size
  clear hb
  go_wp2_with fail
  refine (ex_spec_CountPolys a0 a1 a2 X1 n3 n3 z3 X5 n4 n4 z4 w6 o3.ints L3.out (by omega) o7.ints L4.out (by omega)).mono ?_
  intro e w9 h
  obtain ⟨rfl, hb⟩ := E.out _ _ _ h
  clear h
  replace i3 := i3.below (hb.mono low.size)
  replace i4 := i4.below (hb.mono low.size)
  replace o3 := o3.below hb
  replace o7 := o7.below hb
  replace low := low.trans (hb.mono low.size)
  have q10 := hb.size
  clear hb
  clear o3
  clear o7
  go_wp2_with fail
  refine (toIntS_own A3 n3 c3 z3 w9 (i3.ints low.size) L3.out (by omega)).mono ?_
  rintro e w12 ⟨X11, rfl, o13, hb⟩
  replace i3 := i3.below (hb.mono low.size)
  replace i4 := i4.below (hb.mono low.size)
  replace low := low.trans (hb.mono low.size)
  have q14 := hb.size
  clear hb
  go_wp2_with fail
  refine (toIntS_own A4 n4 c4 z4 w12 (i4.ints low.size) L4.out (by omega)).mono ?_
  rintro e w16 ⟨X15, rfl, o17, hb⟩
  replace i3 := i3.below (hb.mono low.size)
  replace i4 := i4.below (hb.mono low.size)
  replace o13 := o13.below hb
  replace low := low.trans (hb.mono low.size)
  have q18 := hb.size
  clear hb
  go_wp2_with fail
  refine (ex_impl_CountPolys a0 a1 a2 X11 n3 n3 z3 X15 n4 n4 z4 w16 o13.ints L3.out (by omega) o17.ints L4.out (by omega)).mono ?_
  intro e w19 h
  obtain ⟨rfl, hb⟩ := E.out _ _ _ h
  clear h
  replace i3 := i3.below (hb.mono low.size)
  replace i4 := i4.below (hb.mono low.size)
  replace o13 := o13.below hb
  replace o17 := o17.below hb
  replace low := low.trans (hb.mono low.size)
  have q20 := hb.size
  clear hb
  go_wp2_with fail
  refine (toIntS_own A3 n3 c3 z3 w19 (i3.ints low.size) L3.out (by omega)).mono ?_
  rintro e w22 ⟨X21, rfl, o23, hb⟩
  replace i3 := i3.below (hb.mono low.size)
  replace i4 := i4.below (hb.mono low.size)
  replace o13 := o13.below hb
  replace o17 := o17.below hb
  replace low := low.trans (hb.mono low.size)
  have q24 := hb.size
  clear hb
  go_wp2_with fail
  refine (eqIntS_same n3 n3 n3 n3 X11 X21 z3 z3 w22 o13.ints o23.ints rfl L3.out L3.out (by omega)).mono ?_
  rintro e w25 ⟨rfl, hb⟩
  replace i3 := i3.below (hb.mono low.size)
  replace i4 := i4.below (hb.mono low.size)
  replace o13 := o13.below hb
  replace o17 := o17.below hb
  replace o23 := o23.below hb
  replace low := low.trans (hb.mono low.size)
  have q26 := hb.size
  clear hb
  clear o23
  go_wp2_with fail
  refine (toIntS_own A4 n4 c4 z4 w25 (i4.ints low.size) L4.out (by omega)).mono ?_
  rintro e w28 ⟨X27, rfl, o29, hb⟩
  replace i3 := i3.below (hb.mono low.size)
  replace i4 := i4.below (hb.mono low.size)
  replace o13 := o13.below hb
  replace o17 := o17.below hb
  replace low := low.trans (hb.mono low.size)
  have q30 := hb.size
  clear hb
  go_wp2_with fail
  refine (eqIntS_same n4 n4 n4 n4 X15 X27 z4 z4 w28 o17.ints o29.ints rfl L4.out L4.out (by omega)).mono ?_
  rintro e w31 ⟨rfl, hb⟩
  replace i3 := i3.below (hb.mono low.size)
  replace i4 := i4.below (hb.mono low.size)
  replace o13 := o13.below hb
  replace o17 := o17.below hb
  replace o29 := o29.below hb
  replace low := low.trans (hb.mono low.size)
  have q32 := hb.size
  clear hb
  clear o29
  go_wp2_with fail
  go_ret
  exact ⟨by first | rfl | simp, low⟩
end Go.Proofs.Ytcjgoonkdjaccaa

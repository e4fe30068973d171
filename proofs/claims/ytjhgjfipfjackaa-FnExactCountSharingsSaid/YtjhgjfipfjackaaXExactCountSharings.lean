/- The law FnExactCountSharings: the walk. -/
import Derived.Test.YtjhgjfipfjackaaProg
import Derived.Test.YtjhgjfipfjackaaPost
import Derived.Test.YtjhgjfipfjackaaShareX
namespace Go.Proofs.Ytjhgjfipfjackaa
open Go Go.RowKit
set_option maxHeartbeats 1000000 in
theorem FnExactCountSharings_walk (a0 : Int) (a1 : Int) (a2 : Int) (A3 : Option Addr) (n3 c3 : Nat) (z3 : List Int) (w : World) (_h0 : (Lit.int .i64 a0).wf = true) (_h1 : (Lit.int .i64 a1).wf = true) (_h2 : (Lit.int .i64 a2).wf = true) (h3 : Ints w A3 z3) (l3 : z3.length = n3) (m3 : n3 ≤ 9223372036854775807) :
    Calls Try.prog 10 #[.int .i64 a0, .int .i64 a1, .int .i64 a2, .slice A3 n3 c3] w fun e w' => e = .returned (.bool true) ∧ Below w.heap.size w w' := by
  have low : Below w.heap.size w w := Below.refl _ _
  by_cases hn3 : 1048576 < n3
  · clear h3 l3
    go_enter Try.func10, Try.ntmps10
    go_wp2_with fail
    go_ret
    exact ⟨rfl, low⟩
  have mm3 : n3 ≤ 1048576 := by omega
  clear hn3 m3
  have L3 := Lib.hid l3
  have i3 := h3.bound.below low
  clear h3 l3
  obtain ⟨R0, hR0⟩ : ∃ r, countI a0 a1 a2 z3 = r := ⟨_, rfl⟩
  have E := Lib.hid (show ∀ w e w', Post_int (countI a0 a1 a2 z3) w e w' → Post_int R0 w e w' from by subst hR0; intro _ _ _ h; exact h)
  clear hR0
  go_enter Try.func10, Try.ntmps10
  go_wp2_with fail
  refine (toIntS_own A3 n3 c3 z3 w (i3.ints low.size) L3.out (by omega)).mono ?_
  rintro e w2 ⟨X1, rfl, o3, hb⟩
  replace i3 := i3.below (hb.mono low.size)
  replace low := low.trans (hb.mono low.size)
  have q4 := hb.size
  clear hb
  go_wp2_with fail
  refine (ex_spec_CountSharings a0 a1 a2 X1 n3 n3 z3 w2 o3.ints L3.out (by omega)).mono ?_
  intro e w5 h
  obtain ⟨rfl, hb⟩ := E.out _ _ _ h
  clear h
  replace i3 := i3.below (hb.mono low.size)
  replace o3 := o3.below hb
  replace low := low.trans (hb.mono low.size)
  have q6 := hb.size
  clear hb
  clear o3
  go_wp2_with fail
  refine (toIntS_own A3 n3 c3 z3 w5 (i3.ints low.size) L3.out (by omega)).mono ?_
  rintro e w8 ⟨X7, rfl, o9, hb⟩
  replace i3 := i3.below (hb.mono low.size)
  replace low := low.trans (hb.mono low.size)
  have q10 := hb.size
  clear hb
  go_wp2_with fail
  refine (ex_impl_CountSharings a0 a1 a2 X7 n3 n3 z3 w8 o9.ints L3.out (by omega)).mono ?_
  intro e w11 h
  obtain ⟨rfl, hb⟩ := E.out _ _ _ h
  clear h
  replace i3 := i3.below (hb.mono low.size)
  replace o9 := o9.below hb
  replace low := low.trans (hb.mono low.size)
  have q12 := hb.size
  clear hb
  go_wp2_with fail
  refine (toIntS_own A3 n3 c3 z3 w11 (i3.ints low.size) L3.out (by omega)).mono ?_
  rintro e w14 ⟨X13, rfl, o15, hb⟩
  replace i3 := i3.below (hb.mono low.size)
  replace o9 := o9.below hb
  replace low := low.trans (hb.mono low.size)
  have q16 := hb.size
  clear hb
  go_wp2_with fail
  refine (eqIntS_same n3 n3 n3 n3 X7 X13 z3 z3 w14 o9.ints o15.ints rfl L3.out L3.out (by omega)).mono ?_
  rintro e w17 ⟨rfl, hb⟩
  replace i3 := i3.below (hb.mono low.size)
  replace o9 := o9.below hb
  replace o15 := o15.below hb
  replace low := low.trans (hb.mono low.size)
  have q18 := hb.size
  clear hb
  clear o15
  go_wp2_with fail
  go_ret
  exact ⟨by first | rfl | simp, low⟩
end Go.Proofs.Ytjhgjfipfjackaa

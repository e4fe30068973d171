/- The law FnExactUnrolledSize: the walk. -/
import Derived.Test.YtnilhlbklaefeaaProg
import Derived.Test.YtnilhlbklaefeaaPost
import Derived.Test.YtnilhlbklaefeaaUnX
namespace Go.Proofs.Ytnilhlbklaefeaa
open Go Go.RowKit
set_option maxHeartbeats 1000000 in
theorem FnExactUnrolledSize_walk (A0 : Option Addr) (n0 c0 : Nat) (z0 : List St) (w : World) (h0 : Ints w A0 (flat z0)) (l0 : z0.length = n0) (m0 : n0 ≤ 9223372036854775807) :
    Calls Try.prog 5 #[.slice A0 n0 c0] w fun e w' => e = .returned (.bool true) ∧ Below w.heap.size w w' := by
  have low : Below w.heap.size w w := Below.refl _ _
  have L0 := Lib.hid l0
  have i0 := h0.bound.below low
  clear h0 l0
  obtain ⟨R0, hR0⟩ : ∃ r, sizeI z0 = r := ⟨_, rfl⟩
  have E := Lib.hid (show ∀ w e w', Post_int (sizeI z0) w e w' → Post_int R0 w e w' from by subst hR0; intro _ _ _ h; exact h)
  clear hR0
  go_enter Try.func5, Try.ntmps5
  go_wp2_with fail
  have s1 := szStmtS_any 1048576 A0 n0 c0 w (by omega) m0
  by_cases hn0 : n0 ≤ 1048576
  case neg =>
    rw [show szRes 1048576 n0 = -1 by rw [szRes, if_neg hn0]] at s1
    refine s1.mono ?_
    rintro e w3 ⟨rfl, rfl⟩
    go_wp2_with fail
    go_ret
    exact ⟨rfl, low⟩
  rw [show szRes 1048576 n0 = ((1048576 - n0 : Nat) : Int) by rw [szRes, if_pos hn0]] at s1
  have mm0 : n0 ≤ 1048576 := by omega
  have zf2 : 1048576 - n0 ≤ 1048576 := by omega
  clear hn0 m0
  generalize 1048576 - n0 = f2 at *
  refine s1.mono ?_
  rintro e w3 ⟨rfl, rfl⟩
  clear s1
  have yf2 : (0 : Int) ≤ f2 := by omega
  go_wp2_with fail
  refine (toStmtS_new A0 n0 c0 z0 w (i0.ints low.size) L0.out (by omega)).mono ?_
  rintro e w5 ⟨X4, rfl, o6, hb⟩
  replace i0 := i0.below (hb.mono low.size)
  replace low := low.trans (hb.mono low.size)
  have q7 := hb.size
  clear hb
  go_wp2_with fail
  refine (ex_spec_UnrolledSize X4 n0 n0 z0 w5 o6.ints L0.out (by omega)).mono ?_
  intro e w8 h
  obtain ⟨rfl, hb⟩ := E.out _ _ _ h
  clear h
  replace i0 := i0.below (hb.mono low.size)
  replace o6 := o6.below hb
  replace low := low.trans (hb.mono low.size)
  have q9 := hb.size
  clear hb
  clear o6
  go_wp2_with fail
  refine (toStmtS_new A0 n0 c0 z0 w8 (i0.ints low.size) L0.out (by omega)).mono ?_
  rintro e w11 ⟨X10, rfl, o12, hb⟩
  replace i0 := i0.below (hb.mono low.size)
  replace low := low.trans (hb.mono low.size)
  have q13 := hb.size
  clear hb
  go_wp2_with fail
  refine (ex_impl_UnrolledSize X10 n0 n0 z0 w11 o12.ints L0.out (by omega)).mono ?_
  intro e w14 h
  obtain ⟨rfl, hb⟩ := E.out _ _ _ h
  clear h
  replace i0 := i0.below (hb.mono low.size)
  replace o12 := o12.below hb
  replace low := low.trans (hb.mono low.size)
  have q15 := hb.size
  clear hb
  go_wp2_with fail
  refine (toStmtS_new A0 n0 c0 z0 w14 (i0.ints low.size) L0.out (by omega)).mono ?_
  rintro e w17 ⟨X16, rfl, o18, hb⟩
  replace i0 := i0.below (hb.mono low.size)
  replace o12 := o12.below hb
  replace low := low.trans (hb.mono low.size)
  have q19 := hb.size
  clear hb
  go_wp2_with fail
  refine (eqStmtS_same n0 n0 n0 n0 X10 X16 z0 z0 w17 o12.ints o18.ints rfl L0.out L0.out (by omega)).mono ?_
  rintro e w20 ⟨rfl, hb⟩
  replace i0 := i0.below (hb.mono low.size)
  replace o12 := o12.below hb
  replace o18 := o18.below hb
  replace low := low.trans (hb.mono low.size)
  have q21 := hb.size
  clear hb
  clear o18
  go_wp2_with fail
  go_ret
  exact ⟨by first | rfl | simp, low⟩
end Go.Proofs.Ytnilhlbklaefeaa

/- The law FnExactFlowOk: the walk. -/
import Derived.Test.YtklmhkckhdmelaaProg
import Derived.Test.YtklmhkckhdmelaaPostA
import Derived.Test.YtklmhkckhdmelaaRegS
import Derived.Test.YtklmhkckhdmelaaFlowE
namespace Go.Proofs.Ytklmhkckhdmelaa
open Go Go.RowKit
set_option maxRecDepth 100000 in
set_option maxHeartbeats 2000000 in
theorem FnExactFlowOk_walk (A0 : Option Addr) (n0 c0 : Nat) (z0 : List St) (A1 : Option Addr) (n1 c1 : Nat) (z1 : List Int) (w : World) (h0 : Ints w A0 (flat z0)) (l0 : z0.length = n0) (m0 : n0 ≤ 9223372036854775807) (h1 : Ints w A1 z1) (l1 : z1.length = n1) (m1 : n1 ≤ 9223372036854775807) :
    Calls Try.prog 7 #[.slice A0 n0 c0, .slice A1 n1 c1] w fun e w' => e = .returned (.bool true) ∧ Below w.heap.size w w' := by
  have low : Below w.heap.size w w := Below.refl _ _
  by_cases hn1 : 1048576 < n1
  · clear h0 l0 h1 l1
    go_enter Try.func7, Try.ntmps7
    go_wp2_with fail
    go_ret
    exact ⟨rfl, low⟩
  have mm1 : n1 ≤ 1048576 := by omega
  clear hn1 m1
  have L0 := Lib.hid l0
  have i0 := h0.bound.below low
  have L1 := Lib.hid l1
  have i1 := h1.bound.below low
  clear h0 l0 h1 l1
  go_enter Try.func7, Try.ntmps7
  go_wp2_with fail
  go_wp2_with fail
  have s1 := szStmtS_any 1048576 A0 n0 c0 w (by omega) m0
  by_cases hn0 : n0 ≤ 1048576
  case neg =>
    rw [show szRes 1048576 (n0) = -1 by rw [szRes, if_neg hn0]] at s1
    refine s1.mono ?_
    rintro e w3 ⟨rfl, rfl⟩
    go_wp2_with fail
    go_ret
    exact ⟨rfl, low⟩
  rw [show szRes 1048576 (n0) = ((1048576 - (n0) : Nat) : Int) by rw [szRes, if_pos hn0]] at s1
  have mm0 : n0 ≤ 1048576 := by omega
  have zf2 : 1048576 - (n0) ≤ 1048576 := by omega
  clear hn0 m0
  generalize 1048576 - (n0) = f2 at *
  refine s1.mono ?_
  rintro e w3 ⟨rfl, rfl⟩
  clear s1
  have yf2 : (0 : Int) ≤ f2 := by omega
  obtain ⟨R0, hR0⟩ : ∃ r, decide (flowOkI z0 z1) = r := ⟨_, rfl⟩
  have E := Lib.hid (show ∀ w e w', Post_bool (decide (flowOkI z0 z1)) w e w' → Post_bool R0 w e w' from by subst hR0; intro _ _ _ h; exact h)
  clear hR0
  go_wp2_with fail
  refine (toStmtS_ownA A0 n0 c0 z0 w (i0.ints low.size) L0.out (by omega)).mono ?_
  rintro e w6 ⟨X4, rfl, o5, hb⟩
  replace i0 := i0.below (hb.mono low.size)
  replace i1 := i1.below (hb.mono low.size)
  replace low := low.trans (hb.mono low.size)
  have q7 := hb.size
  clear hb
  go_wp2_with fail
  refine (toIntS_ownA A1 n1 c1 z1 w6 (i1.ints low.size) L1.out (by omega)).mono ?_
  rintro e w10 ⟨X8, rfl, o9, hb⟩
  replace i0 := i0.below (hb.mono low.size)
  replace i1 := i1.below (hb.mono low.size)
  replace o5 := o5.below hb
  replace low := low.trans (hb.mono low.size)
  have q11 := hb.size
  clear hb
  go_wp2_with fail
  refine (ex_spec_FlowOk X4 n0 n0 z0 X8 n1 n1 z1 w10 (o5.ints) L0.out (by omega) (o9.ints) L1.out (by omega)).mono ?_
  intro e w12 h
  obtain ⟨rfl, hb⟩ := E.out _ _ _ h
  clear h
  replace i0 := i0.below (hb.mono low.size)
  replace i1 := i1.below (hb.mono low.size)
  replace o5 := o5.below hb
  replace o9 := o9.below hb
  replace low := low.trans (hb.mono low.size)
  have q13 := hb.size
  clear hb
  clear o5
  clear o9
  go_wp2_with fail
  refine (toStmtS_ownA A0 n0 c0 z0 w12 (i0.ints low.size) L0.out (by omega)).mono ?_
  rintro e w16 ⟨X14, rfl, o15, hb⟩
  replace i0 := i0.below (hb.mono low.size)
  replace i1 := i1.below (hb.mono low.size)
  replace low := low.trans (hb.mono low.size)
  have q17 := hb.size
  clear hb
  go_wp2_with fail
  refine (toIntS_ownA A1 n1 c1 z1 w16 (i1.ints low.size) L1.out (by omega)).mono ?_
  rintro e w20 ⟨X18, rfl, o19, hb⟩
  replace i0 := i0.below (hb.mono low.size)
  replace i1 := i1.below (hb.mono low.size)
  replace o15 := o15.below hb
  replace low := low.trans (hb.mono low.size)
  have q21 := hb.size
  clear hb
  go_wp2_with fail
  refine (ex_impl_FlowOk X14 n0 n0 z0 X18 n1 n1 z1 w20 (o15.ints) L0.out (by omega) (o19.ints) L1.out (by omega)).mono ?_
  intro e w22 h
  obtain ⟨rfl, hb⟩ := E.out _ _ _ h
  clear h
  replace i0 := i0.below (hb.mono low.size)
  replace i1 := i1.below (hb.mono low.size)
  replace o15 := o15.below hb
  replace o19 := o19.below hb
  replace low := low.trans (hb.mono low.size)
  have q23 := hb.size
  clear hb
  go_wp2_with fail
  refine (toStmtS_ownA A0 n0 c0 z0 w22 (i0.ints low.size) L0.out (by omega)).mono ?_
  rintro e w26 ⟨X24, rfl, o25, hb⟩
  replace i0 := i0.below (hb.mono low.size)
  replace i1 := i1.below (hb.mono low.size)
  replace o15 := o15.below hb
  replace o19 := o19.below hb
  replace low := low.trans (hb.mono low.size)
  have q27 := hb.size
  clear hb
  go_wp2_with fail
  refine (eqStmtS_same n0 n0 n0 n0 X14 X24 z0 z0 w26 o15.ints o25.ints rfl L0.out L0.out (by omega)).mono ?_
  rintro e w28 ⟨rfl, hb⟩
  replace i0 := i0.below (hb.mono low.size)
  replace i1 := i1.below (hb.mono low.size)
  replace o15 := o15.below hb
  replace o19 := o19.below hb
  replace o25 := o25.below hb
  replace low := low.trans (hb.mono low.size)
  have q29 := hb.size
  clear hb
  clear o25
  go_wp2_with fail
  refine (toIntS_ownA A1 n1 c1 z1 w28 (i1.ints low.size) L1.out (by omega)).mono ?_
  rintro e w32 ⟨X30, rfl, o31, hb⟩
  replace i0 := i0.below (hb.mono low.size)
  replace i1 := i1.below (hb.mono low.size)
  replace o15 := o15.below hb
  replace o19 := o19.below hb
  replace low := low.trans (hb.mono low.size)
  have q33 := hb.size
  clear hb
  go_wp2_with fail
  refine (eqIntS_same n1 n1 n1 n1 X18 X30 z1 z1 w32 o19.ints o31.ints rfl L1.out L1.out (by omega)).mono ?_
  rintro e w34 ⟨rfl, hb⟩
  replace i0 := i0.below (hb.mono low.size)
  replace i1 := i1.below (hb.mono low.size)
  replace o15 := o15.below hb
  replace o19 := o19.below hb
  replace o31 := o31.below hb
  replace low := low.trans (hb.mono low.size)
  have q35 := hb.size
  clear hb
  clear o31
  go_wp2_with fail
  go_ret
  exact ⟨by first | rfl | simp, low⟩
end Go.Proofs.Ytklmhkckhdmelaa

/- The law FnExactOutputDeps: the walk. -/
import Derived.Test.YtklmhkckhdmelaaProg
import Derived.Test.YtklmhkckhdmelaaPostA
import Derived.Test.YtklmhkckhdmelaaRegS
import Derived.Test.YtklmhkckhdmelaaFlowE
namespace Go.Proofs.Ytklmhkckhdmelaa
open Go Go.RowKit
set_option maxRecDepth 100000 in
set_option maxHeartbeats 2000000 in
theorem FnExactOutputDeps_walk (A0 : Option Addr) (n0 c0 : Nat) (z0 : List St) (w : World) (h0 : Ints w A0 (flat z0)) (l0 : z0.length = n0) (m0 : n0 ≤ 9223372036854775807) :
    Calls Try.prog 6 #[.slice A0 n0 c0] w fun e w' => e = .returned (.bool true) ∧ Below w.heap.size w w' := by
  have low : Below w.heap.size w w := Below.refl _ _
  have L0 := Lib.hid l0
  have i0 := h0.bound.below low
  clear h0 l0
  go_enter Try.func6, Try.ntmps6
  go_wp2_with fail
  go_wp2_with fail
  have s1 := szStmtS_any 1048576 A0 n0 c0 w (by omega) m0
  by_cases hn0 : n0 ≤ 1048576
  case neg =>
    rw [show szRes 1048576 (n0) = -1 by rw [szRes, if_neg hn0]] at s1
    refine s1.mono ?_
    rintro e w3 ⟨rfl, rfl⟩
    go_wp2_with fail
    go_ret
    exact ⟨rfl, low⟩
  rw [show szRes 1048576 (n0) = ((1048576 - (n0) : Nat) : Int) by rw [szRes, if_pos hn0]] at s1
  have mm0 : n0 ≤ 1048576 := by omega
  have zf2 : 1048576 - (n0) ≤ 1048576 := by omega
  clear hn0 m0
  generalize 1048576 - (n0) = f2 at *
  refine s1.mono ?_
  rintro e w3 ⟨rfl, rfl⟩
  clear s1
  have yf2 : (0 : Int) ≤ f2 := by omega
  obtain ⟨R0, hR0, bR0⟩ : ∃ r : List Int, depsI z0 = r ∧ r.length ≤ 1900000 := ⟨_, rfl, by have := depsI_length z0; omega⟩
  obtain ⟨R1, hR1⟩ : ∃ r, decide (unrI z0) = r := ⟨_, rfl⟩
  have E := Lib.hid (show ∀ w e w', Post_A_bool (depsI z0) (decide (unrI z0)) w e w' → Post_A_bool R0 R1 w e w' from by subst hR0 hR1; intro _ _ _ h; exact h)
  clear hR0 hR1
  go_wp2_with fail
  refine (toStmtS_ownA A0 n0 c0 z0 w (i0.ints low.size) L0.out (by omega)).mono ?_
  rintro e w6 ⟨X4, rfl, o5, hb⟩
  replace i0 := i0.below (hb.mono low.size)
  replace low := low.trans (hb.mono low.size)
  have q7 := hb.size
  clear hb
  go_wp2_with fail
  refine (ex_spec_OutputDeps X4 n0 n0 z0 w6 (o5.ints) L0.out (by omega)).mono ?_
  intro e w8 h
  obtain ⟨G9, n10, d11, rfl, o12, hb⟩ := E.out _ _ _ h
  clear h
  replace i0 := i0.below (hb.mono low.size)
  replace o5 := o5.below hb
  replace low := low.trans (hb.mono low.size)
  have q13 := hb.size
  clear hb
  clear o5
  have L14 := Lib.hid (o12.len1)
  have bnL14 : n10 ≤ 1900000 := by rw [← L14.out]; exact bR0
  go_wp2_with fail
  refine (toStmtS_ownA A0 n0 c0 z0 w8 (i0.ints low.size) L0.out (by omega)).mono ?_
  rintro e w17 ⟨X15, rfl, o16, hb⟩
  replace i0 := i0.below (hb.mono low.size)
  replace o12 := o12.below hb
  replace low := low.trans (hb.mono low.size)
  have q18 := hb.size
  clear hb
  go_wp2_with fail
  refine (ex_impl_OutputDeps X15 n0 n0 z0 w17 (o16.ints) L0.out (by omega)).mono ?_
  intro e w19 h
  obtain ⟨G20, n21, d22, rfl, o23, hb⟩ := E.out _ _ _ h
  clear h
  replace i0 := i0.below (hb.mono low.size)
  replace o12 := o12.below hb
  replace o16 := o16.below hb
  replace low := low.trans (hb.mono low.size)
  have q24 := hb.size
  clear hb
  have hl25 := o23.len1
  obtain rfl : n10 = n21 := by rw [← hl25, L14.out]
  clear hl25
  go_wp2_with fail
  refine (eqIntS_same n10 n10 d22 d11 G20 G9 R0 R0 w19 o23.ints o12.ints rfl L14.out L14.out (by omega)).mono ?_
  rintro e w26 ⟨rfl, hb⟩
  replace i0 := i0.below (hb.mono low.size)
  replace o12 := o12.below hb
  replace o16 := o16.below hb
  replace o23 := o23.below hb
  replace low := low.trans (hb.mono low.size)
  have q27 := hb.size
  clear hb
  go_wp2_with fail
  refine (toStmtS_ownA A0 n0 c0 z0 w26 (i0.ints low.size) L0.out (by omega)).mono ?_
  rintro e w30 ⟨X28, rfl, o29, hb⟩
  replace i0 := i0.below (hb.mono low.size)
  replace o12 := o12.below hb
  replace o16 := o16.below hb
  replace o23 := o23.below hb
  replace low := low.trans (hb.mono low.size)
  have q31 := hb.size
  clear hb
  go_wp2_with fail
  refine (eqStmtS_same n0 n0 n0 n0 X15 X28 z0 z0 w30 o16.ints o29.ints rfl L0.out L0.out (by omega)).mono ?_
  rintro e w32 ⟨rfl, hb⟩
  replace i0 := i0.below (hb.mono low.size)
  replace o12 := o12.below hb
  replace o16 := o16.below hb
  replace o23 := o23.below hb
  replace o29 := o29.below hb
  replace low := low.trans (hb.mono low.size)
  have q33 := hb.size
  clear hb
  clear o29
  go_wp2_with fail
  refine (markStmtS_ownA _ _ n0 (1) _ (flat z0) w32 o16 (by omega)).mono ?_
  rintro e w34 ⟨rfl, o35, hg⟩
  have mg := Mid.of_grown (lo := w8.heap.size) (hi := w17.heap.size) hg (fun k e => o16.ltB e)
  clear o16 hg
  replace i0 := i0.mid mg (by omega) low.size
  replace o12 := o12.mid mg (by omega)
  replace o23 := o23.mid mg (by omega)
  replace low := mg.below low (by omega) low.size
  have q36 := mg.size
  clear mg
  clear o35
  go_wp2_with fail
  refine (eqIntS_same n10 n10 d22 d11 G20 G9 R0 R0 w34 o23.ints o12.ints rfl L14.out L14.out (by omega)).mono ?_
  rintro e w37 ⟨rfl, hb⟩
  replace i0 := i0.below (hb.mono low.size)
  replace o12 := o12.below hb
  replace o23 := o23.below hb
  replace low := low.trans (hb.mono low.size)
  have q38 := hb.size
  clear hb
  go_wp2_with fail
  refine (markIntS_ownA _ _ n10 (1) _ R0 w37 o23 (by omega)).mono ?_
  rintro e w39 ⟨rfl, o40, hg⟩
  have mg := Mid.of_grown (lo := w17.heap.size) (hi := w19.heap.size) hg (fun k e => o23.ltB e)
  clear o23 hg
  replace i0 := i0.mid mg (by omega) low.size
  replace o12 := o12.mid mg (by omega)
  replace low := mg.below low (by omega) low.size
  have q41 := mg.size
  clear mg
  go_wp2_with fail
  refine (heldIntS_any n10 (1) d22 G20 w39 o40.ints (by omega)).mono ?_
  rintro e w42 ⟨rfl, rfl⟩
  go_wp2_with fail
  refine (toStmtS_ownA A0 n0 c0 z0 w39 (i0.ints low.size) L0.out (by omega)).mono ?_
  rintro e w45 ⟨X43, rfl, o44, hb⟩
  replace i0 := i0.below (hb.mono low.size)
  replace o12 := o12.below hb
  replace o40 := o40.below hb
  replace low := low.trans (hb.mono low.size)
  have q46 := hb.size
  clear hb
  go_wp2_with fail
  refine (ex_impl_OutputDeps X43 n0 n0 z0 w45 (o44.ints) L0.out (by omega)).mono ?_
  intro e w47 h
  obtain ⟨G48, n49, d50, rfl, o51, hb⟩ := E.out _ _ _ h
  clear h
  replace i0 := i0.below (hb.mono low.size)
  replace o12 := o12.below hb
  replace o40 := o40.below hb
  replace o44 := o44.below hb
  replace low := low.trans (hb.mono low.size)
  have q52 := hb.size
  clear hb
  clear o44
  have hl53 := o51.len1
  obtain rfl : n10 = n49 := by rw [← hl53, L14.out]
  clear hl53
  go_wp2_with fail
  refine (eqIntS_same n10 n10 d50 d11 G48 G9 R0 R0 w47 o51.ints o12.ints rfl L14.out L14.out (by omega)).mono ?_
  rintro e w54 ⟨rfl, hb⟩
  replace i0 := i0.below (hb.mono low.size)
  replace o12 := o12.below hb
  replace o40 := o40.below hb
  replace o51 := o51.below hb
  replace low := low.trans (hb.mono low.size)
  have q55 := hb.size
  clear hb
  go_wp2_with fail
  refine (heldIntS_any n10 (1) d22 G20 w54 o40.ints (by omega)).mono ?_
  rintro e w56 ⟨rfl, rfl⟩
  go_wp2_with fail
  go_ret
  exact ⟨by first | rfl | simp, low⟩
end Go.Proofs.Ytklmhkckhdmelaa

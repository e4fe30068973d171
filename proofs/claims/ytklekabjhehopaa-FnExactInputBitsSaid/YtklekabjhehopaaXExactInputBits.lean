/- The law FnExactInputBits: the walk. -/
import Derived.Test.YtklekabjhehopaaProg
import Derived.Test.YtklekabjhehopaaB1
import Derived.Test.YtklekabjhehopaaIntSS
import Derived.Test.YtklekabjhehopaaCmX
namespace Go.Proofs.Ytklekabjhehopaa
open Go Go.RowKit
set_option maxRecDepth 100000 in
set_option maxHeartbeats 2000000 in
theorem FnExactInputBits_walk (A0 : Option Addr) (n0 c0 : Nat) (z0 : List (List Int)) (w : World) (h0 : Rows w.heap.size w A0 z0) (l0 : z0.length = n0) (m0 : n0 ≤ 9223372036854775807) (r0 : ∀ r ∈ z0, r.length ≤ 9223372036854775807) :
    Calls Try.prog 5 #[.slice A0 n0 c0] w fun e w' => e = .returned (.bool true) ∧ Below w.heap.size w w' := by
  have low : Below w.heap.size w w := Below.refl _ _
  have L0 := Lib.hid l0
  have i0 := h0.below low
  clear h0 l0
  go_enter Try.func5, Try.ntmps5
  go_wp2_with fail
  go_wp2_with fail
  have s1 := szIntSS_any 1048576 A0 n0 c0 z0 w (i0.ints low.size) L0.out (by omega) m0 r0
  by_cases hn0 : n0 + tot z0 ≤ 1048576
  case neg =>
    rw [show szRes 1048576 (n0 + tot z0) = -1 by rw [szRes, if_neg hn0]] at s1
    refine s1.mono ?_
    rintro e w3 ⟨rfl, rfl⟩
    go_wp2_with fail
    go_ret
    exact ⟨rfl, low⟩
  rw [show szRes 1048576 (n0 + tot z0) = ((1048576 - (n0 + tot z0) : Nat) : Int) by rw [szRes, if_pos hn0]] at s1
  have mm0 : n0 ≤ 1048576 := by omega
  have mt0 : tot z0 ≤ 1048576 := by omega
  have zf2 : 1048576 - (n0 + tot z0) ≤ 1048576 := by omega
  clear hn0 m0 r0
  generalize 1048576 - (n0 + tot z0) = f2 at *
  refine s1.mono ?_
  rintro e w3 ⟨rfl, rfl⟩
  clear s1
  have yf2 : (0 : Int) ≤ f2 := by omega
  obtain ⟨R0, hR0, bR0⟩ : ∃ r : List Int, bitsI z0 = r ∧ r.length ≤ 1900000 := ⟨_, rfl, by have := bitsI_len z0; omega⟩
  have E := Lib.hid (show ∀ w e w', Post_A (bitsI z0) w e w' → Post_A R0 w e w' from by subst hR0; intro _ _ _ h; exact h)
  clear hR0
  go_wp2_with fail
  refine (toIntSS_own A0 n0 c0 z0 w (i0.ints low.size) L0.out (by omega) (by omega)).mono ?_
  rintro e w7 ⟨X4, U5, rfl, o6, hb⟩
  replace i0 := i0.below (hb.mono low.size)
  replace low := low.trans (hb.mono low.size)
  have q8 := hb.size
  clear hb
  go_wp2_with fail
  refine (ex_spec_InputBits X4 n0 n0 z0 w7 (o6.ints) L0.out (by omega)).mono ?_
  intro e w9 h
  obtain ⟨G10, n11, d12, rfl, o13, hb⟩ := E.out _ _ _ h
  clear h
  replace i0 := i0.below (hb.mono low.size)
  replace o6 := o6.below hb
  replace low := low.trans (hb.mono low.size)
  have q14 := hb.size
  clear hb
  clear o6
  have L15 := Lib.hid (o13.len1)
  have bnL15 : n11 ≤ 1900000 := by rw [← L15.out]; exact bR0
  go_wp2_with fail
  refine (toIntSS_own A0 n0 c0 z0 w9 (i0.ints low.size) L0.out (by omega) (by omega)).mono ?_
  rintro e w19 ⟨X16, U17, rfl, o18, hb⟩
  replace i0 := i0.below (hb.mono low.size)
  replace o13 := o13.below hb
  replace low := low.trans (hb.mono low.size)
  have q20 := hb.size
  clear hb
  go_wp2_with fail
  refine (ex_impl_InputBits X16 n0 n0 z0 w19 (o18.ints) L0.out (by omega)).mono ?_
  intro e w21 h
  obtain ⟨G22, n23, d24, rfl, o25, hb⟩ := E.out _ _ _ h
  clear h
  replace i0 := i0.below (hb.mono low.size)
  replace o13 := o13.below hb
  replace o18 := o18.below hb
  replace low := low.trans (hb.mono low.size)
  have q26 := hb.size
  clear hb
  have hl27 := o25.len1
  obtain rfl : n11 = n23 := by rw [← hl27, L15.out]
  clear hl27
  go_wp2_with fail
  refine (eqIntS_same n11 n11 d24 d12 G22 G10 R0 R0 w21 o25.ints o13.ints rfl L15.out L15.out (by omega)).mono ?_
  rintro e w28 ⟨rfl, hb⟩
  replace i0 := i0.below (hb.mono low.size)
  replace o13 := o13.below hb
  replace o18 := o18.below hb
  replace o25 := o25.below hb
  replace low := low.trans (hb.mono low.size)
  have q29 := hb.size
  clear hb
  go_wp2_with fail
  refine (toIntSS_own A0 n0 c0 z0 w28 (i0.ints low.size) L0.out (by omega) (by omega)).mono ?_
  rintro e w33 ⟨X30, U31, rfl, o32, hb⟩
  replace i0 := i0.below (hb.mono low.size)
  replace o13 := o13.below hb
  replace o18 := o18.below hb
  replace o25 := o25.below hb
  replace low := low.trans (hb.mono low.size)
  have q34 := hb.size
  clear hb
  go_wp2_with fail
  refine (eqIntSS_same X16 X30 n0 n0 n0 z0 w33 o18.ints o32.ints L0.out (by omega) (by omega)).mono ?_
  rintro e w35 ⟨rfl, hb⟩
  replace i0 := i0.below (hb.mono low.size)
  replace o13 := o13.below hb
  replace o18 := o18.below hb
  replace o25 := o25.below hb
  replace o32 := o32.below hb
  replace low := low.trans (hb.mono low.size)
  have q36 := hb.size
  clear hb
  clear o32
  go_wp2_with fail
  refine (markIntSS_own w9.heap.size w19.heap.size n0 (1) _ U17 z0 w35 o18 (by omega) (by omega)).mono ?_
  rintro e w37 ⟨rfl, ⟨Y39, o38, _⟩, mg⟩
  clear o18
  replace i0 := i0.mid mg (by omega) low.size
  replace o13 := o13.mid mg (by omega)
  replace o25 := o25.mid mg (by omega)
  replace low := mg.below low (by omega) low.size
  have q40 := mg.size
  clear mg
  clear o38
  go_wp2_with fail
  refine (eqIntS_same n11 n11 d24 d12 G22 G10 R0 R0 w37 o25.ints o13.ints rfl L15.out L15.out (by omega)).mono ?_
  rintro e w41 ⟨rfl, hb⟩
  replace i0 := i0.below (hb.mono low.size)
  replace o13 := o13.below hb
  replace o25 := o25.below hb
  replace low := low.trans (hb.mono low.size)
  have q42 := hb.size
  clear hb
  go_wp2_with fail
  refine (markIntS_ownA _ _ n11 (1) _ R0 w41 o25 (by omega)).mono ?_
  rintro e w43 ⟨rfl, o44, hg⟩
  have mg := Mid.of_grown (lo := w19.heap.size) (hi := w21.heap.size) hg (fun k e => o25.ltB e)
  clear o25 hg
  replace i0 := i0.mid mg (by omega) low.size
  replace o13 := o13.mid mg (by omega)
  replace low := mg.below low (by omega) low.size
  have q45 := mg.size
  clear mg
  go_wp2_with fail
  refine (heldIntS_any n11 (1) d24 G22 w43 o44.ints (by omega)).mono ?_
  rintro e w46 ⟨rfl, rfl⟩
  go_wp2_with fail
  refine (toIntSS_own A0 n0 c0 z0 w43 (i0.ints low.size) L0.out (by omega) (by omega)).mono ?_
  rintro e w50 ⟨X47, U48, rfl, o49, hb⟩
  replace i0 := i0.below (hb.mono low.size)
  replace o13 := o13.below hb
  replace o44 := o44.below hb
  replace low := low.trans (hb.mono low.size)
  have q51 := hb.size
  clear hb
  go_wp2_with fail
  refine (ex_impl_InputBits X47 n0 n0 z0 w50 (o49.ints) L0.out (by omega)).mono ?_
  intro e w52 h
  obtain ⟨G53, n54, d55, rfl, o56, hb⟩ := E.out _ _ _ h
  clear h
  replace i0 := i0.below (hb.mono low.size)
  replace o13 := o13.below hb
  replace o44 := o44.below hb
  replace o49 := o49.below hb
  replace low := low.trans (hb.mono low.size)
  have q57 := hb.size
  clear hb
  clear o49
  have hl58 := o56.len1
  obtain rfl : n11 = n54 := by rw [← hl58, L15.out]
  clear hl58
  go_wp2_with fail
  refine (eqIntS_same n11 n11 d55 d12 G53 G10 R0 R0 w52 o56.ints o13.ints rfl L15.out L15.out (by omega)).mono ?_
  rintro e w59 ⟨rfl, hb⟩
  replace i0 := i0.below (hb.mono low.size)
  replace o13 := o13.below hb
  replace o44 := o44.below hb
  replace o56 := o56.below hb
  replace low := low.trans (hb.mono low.size)
  have q60 := hb.size
  clear hb
  go_wp2_with fail
  refine (heldIntS_any n11 (1) d24 G22 w59 o44.ints (by omega)).mono ?_
  rintro e w61 ⟨rfl, rfl⟩
  go_wp2_with fail
  go_ret
  exact ⟨by first | rfl | simp, low⟩
end Go.Proofs.Ytklekabjhehopaa

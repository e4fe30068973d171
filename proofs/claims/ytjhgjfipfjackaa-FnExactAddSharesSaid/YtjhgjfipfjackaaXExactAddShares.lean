/- The law FnExactAddShares: the walk. -/
import Derived.Test.YtjhgjfipfjackaaProg
import Derived.Test.YtjhgjfipfjackaaPost
import Derived.Test.YtjhgjfipfjackaaShareX
namespace Go.Proofs.Ytjhgjfipfjackaa
open Go Go.RowKit
set_option maxHeartbeats 1000000 in
theorem FnExactAddShares_walk (a0 : Int) (A1 : Option Addr) (n1 c1 : Nat) (z1 : List Int) (A2 : Option Addr) (n2 c2 : Nat) (z2 : List Int) (w : World) (_h0 : (Lit.int .i64 a0).wf = true) (h1 : Ints w A1 z1) (l1 : z1.length = n1) (m1 : n1 ≤ 9223372036854775807) (h2 : Ints w A2 z2) (l2 : z2.length = n2) (m2 : n2 ≤ 9223372036854775807) :
    Calls Try.prog 7 #[.int .i64 a0, .slice A1 n1 c1, .slice A2 n2 c2] w fun e w' => e = .returned (.bool true) ∧ Below w.heap.size w w' := by
  have low : Below w.heap.size w w := Below.refl _ _
  by_cases hn1 : 1048576 < n1
  · clear h1 l1 h2 l2
    go_enter Try.func7, Try.ntmps7
    go_wp2_with fail
    go_ret
    exact ⟨rfl, low⟩
  have mm1 : n1 ≤ 1048576 := by omega
  clear hn1 m1
  by_cases hn2 : 1048576 < n2
  · clear h1 l1 h2 l2
    go_enter Try.func7, Try.ntmps7
    go_wp2_with fail
    go_ret
    exact ⟨rfl, low⟩
  have mm2 : n2 ≤ 1048576 := by omega
  clear hn2 m2
  have L1 := Lib.hid l1
  have i1 := h1.bound.below low
  have L2 := Lib.hid l2
  have i2 := h2.bound.below low
  clear h1 l1 h2 l2
  obtain ⟨R0, hR0, bR0⟩ : ∃ r : List Int, addL a0 z1 z2 = r ∧ r.length ≤ 2000000 := ⟨_, rfl, by have := addL_length a0 z1 z2; have := L1.out; omega⟩
  have E := Lib.hid (show ∀ w e w', Post_I (addL a0 z1 z2) w e w' → Post_I R0 w e w' from by subst hR0; intro _ _ _ h; exact h)
  clear hR0
  go_enter Try.func7, Try.ntmps7
  go_wp2_with fail
  refine (toIntS_own A1 n1 c1 z1 w (i1.ints low.size) L1.out (by omega)).mono ?_
  rintro e w2 ⟨X1, rfl, o3, hb⟩
  replace i1 := i1.below (hb.mono low.size)
  replace i2 := i2.below (hb.mono low.size)
  replace low := low.trans (hb.mono low.size)
  have q4 := hb.size
  clear hb
  go_wp2_with fail
  refine (toIntS_own A2 n2 c2 z2 w2 (i2.ints low.size) L2.out (by omega)).mono ?_
  rintro e w6 ⟨X5, rfl, o7, hb⟩
  replace i1 := i1.below (hb.mono low.size)
  replace i2 := i2.below (hb.mono low.size)
  replace o3 := o3.below hb
  replace low := low.trans (hb.mono low.size)
  have q8 := hb.size
  clear hb
  go_wp2_with fail
  refine (ex_spec_AddShares a0 X1 n1 n1 z1 X5 n2 n2 z2 w6 o3.ints L1.out (by omega) o7.ints L2.out (by omega)).mono ?_
  intro e w9 h
  obtain ⟨G10, n11, d12, rfl, l14, o13, hb⟩ := E.out _ _ _ h
  clear h
  replace i1 := i1.below (hb.mono low.size)
  replace i2 := i2.below (hb.mono low.size)
  replace o3 := o3.below hb
  replace o7 := o7.below hb
  replace low := low.trans (hb.mono low.size)
  have q15 := hb.size
  clear hb
  clear o3
  clear o7
  have L16 := Lib.hid l14
  have bnL16 : n11 ≤ 2000000 := by rw [← l14]; exact bR0
  clear l14
  go_wp2_with fail
  refine (toIntS_own A1 n1 c1 z1 w9 (i1.ints low.size) L1.out (by omega)).mono ?_
  rintro e w18 ⟨X17, rfl, o19, hb⟩
  replace i1 := i1.below (hb.mono low.size)
  replace i2 := i2.below (hb.mono low.size)
  replace o13 := o13.below hb
  replace low := low.trans (hb.mono low.size)
  have q20 := hb.size
  clear hb
  go_wp2_with fail
  refine (toIntS_own A2 n2 c2 z2 w18 (i2.ints low.size) L2.out (by omega)).mono ?_
  rintro e w22 ⟨X21, rfl, o23, hb⟩
  replace i1 := i1.below (hb.mono low.size)
  replace i2 := i2.below (hb.mono low.size)
  replace o13 := o13.below hb
  replace o19 := o19.below hb
  replace low := low.trans (hb.mono low.size)
  have q24 := hb.size
  clear hb
  go_wp2_with fail
  refine (ex_impl_AddShares a0 X17 n1 n1 z1 X21 n2 n2 z2 w22 o19.ints L1.out (by omega) o23.ints L2.out (by omega)).mono ?_
  intro e w25 h
  obtain ⟨G26, n27, d28, rfl, l30, o29, hb⟩ := E.out _ _ _ h
  clear h
  replace i1 := i1.below (hb.mono low.size)
  replace i2 := i2.below (hb.mono low.size)
  replace o13 := o13.below hb
  replace o19 := o19.below hb
  replace o23 := o23.below hb
  replace low := low.trans (hb.mono low.size)
  have q31 := hb.size
  clear hb
  obtain rfl : n11 = n27 := by rw [← l30, L16.out]
  clear l30
  go_wp2_with fail
  refine (eqIntS_same n11 n11 d28 d12 G26 G10 R0 R0 w25 o29.ints o13.ints rfl L16.out L16.out (by omega)).mono ?_
  rintro e w32 ⟨rfl, hb⟩
  replace i1 := i1.below (hb.mono low.size)
  replace i2 := i2.below (hb.mono low.size)
  replace o13 := o13.below hb
  replace o19 := o19.below hb
  replace o23 := o23.below hb
  replace o29 := o29.below hb
  replace low := low.trans (hb.mono low.size)
  have q33 := hb.size
  clear hb
  go_wp2_with fail
  refine (toIntS_own A1 n1 c1 z1 w32 (i1.ints low.size) L1.out (by omega)).mono ?_
  rintro e w35 ⟨X34, rfl, o36, hb⟩
  replace i1 := i1.below (hb.mono low.size)
  replace i2 := i2.below (hb.mono low.size)
  replace o13 := o13.below hb
  replace o19 := o19.below hb
  replace o23 := o23.below hb
  replace o29 := o29.below hb
  replace low := low.trans (hb.mono low.size)
  have q37 := hb.size
  clear hb
  go_wp2_with fail
  refine (eqIntS_same n1 n1 n1 n1 X17 X34 z1 z1 w35 o19.ints o36.ints rfl L1.out L1.out (by omega)).mono ?_
  rintro e w38 ⟨rfl, hb⟩
  replace i1 := i1.below (hb.mono low.size)
  replace i2 := i2.below (hb.mono low.size)
  replace o13 := o13.below hb
  replace o19 := o19.below hb
  replace o23 := o23.below hb
  replace o29 := o29.below hb
  replace o36 := o36.below hb
  replace low := low.trans (hb.mono low.size)
  have q39 := hb.size
  clear hb
  clear o36
  go_wp2_with fail
  refine (toIntS_own A2 n2 c2 z2 w38 (i2.ints low.size) L2.out (by omega)).mono ?_
  rintro e w41 ⟨X40, rfl, o42, hb⟩
  replace i1 := i1.below (hb.mono low.size)
  replace i2 := i2.below (hb.mono low.size)
  replace o13 := o13.below hb
  replace o19 := o19.below hb
  replace o23 := o23.below hb
  replace o29 := o29.below hb
  replace low := low.trans (hb.mono low.size)
  have q43 := hb.size
  clear hb
  go_wp2_with fail
  refine (eqIntS_same n2 n2 n2 n2 X21 X40 z2 z2 w41 o23.ints o42.ints rfl L2.out L2.out (by omega)).mono ?_
  rintro e w44 ⟨rfl, hb⟩
  replace i1 := i1.below (hb.mono low.size)
  replace i2 := i2.below (hb.mono low.size)
  replace o13 := o13.below hb
  replace o19 := o19.below hb
  replace o23 := o23.below hb
  replace o29 := o29.below hb
  replace o42 := o42.below hb
  replace low := low.trans (hb.mono low.size)
  have q45 := hb.size
  clear hb
  clear o42
  go_wp2_with fail
  refine (markIntS_own _ _ n1 (1) _ z1 w44 o19 (by omega)).mono ?_
  rintro e w46 ⟨rfl, om, hg⟩
  have mg := Mid.of_grown (lo := w9.heap.size) (hi := w18.heap.size) hg (fun k e => o19.ltB e)
  clear o19 hg
  replace i1 := i1.mid mg (by omega) low.size
  replace i2 := i2.mid mg (by omega) low.size
  replace o13 := o13.mid mg (.inl (by omega))
  replace o23 := o23.mid mg (.inr (by omega))
  replace o29 := o29.mid mg (.inr (by omega))
  replace low := mg.below low (by omega) low.size
  have q47 := mg.size
  clear mg
  have o48 := om
  clear om
  clear o48
  go_wp2_with fail
  refine (markIntS_own _ _ n2 (1 + n1) _ z2 w46 o23 (by omega)).mono ?_
  rintro e w49 ⟨rfl, om, hg⟩
  have mg := Mid.of_grown (lo := w18.heap.size) (hi := w22.heap.size) hg (fun k e => o23.ltB e)
  clear o23 hg
  replace i1 := i1.mid mg (by omega) low.size
  replace i2 := i2.mid mg (by omega) low.size
  replace o13 := o13.mid mg (.inl (by omega))
  replace o29 := o29.mid mg (.inr (by omega))
  replace low := mg.below low (by omega) low.size
  have q50 := mg.size
  clear mg
  have o51 := om
  clear om
  clear o51
  go_wp2_with fail
  refine (eqIntS_same n11 n11 d28 d12 G26 G10 R0 R0 w49 o29.ints o13.ints rfl L16.out L16.out (by omega)).mono ?_
  rintro e w52 ⟨rfl, hb⟩
  replace i1 := i1.below (hb.mono low.size)
  replace i2 := i2.below (hb.mono low.size)
  replace o13 := o13.below hb
  replace o29 := o29.below hb
  replace low := low.trans (hb.mono low.size)
  have q53 := hb.size
  clear hb
  go_wp2_with fail
  refine (markIntS_own _ _ n11 (1) _ R0 w52 o29 (by omega)).mono ?_
  rintro e w54 ⟨rfl, om, hg⟩
  have mg := Mid.of_grown (lo := w22.heap.size) (hi := w25.heap.size) hg (fun k e => o29.ltB e)
  clear o29 hg
  replace i1 := i1.mid mg (by omega) low.size
  replace i2 := i2.mid mg (by omega) low.size
  replace o13 := o13.mid mg (.inl (by omega))
  replace low := mg.below low (by omega) low.size
  have q55 := mg.size
  clear mg
  have o56 := om
  clear om
  go_wp2_with fail
  refine (heldIntS_any n11 (1) d28 G26 w54 o56.ints (by omega)).mono ?_
  rintro e w57 ⟨rfl, rfl⟩
  go_wp2_with fail
  refine (toIntS_own A1 n1 c1 z1 w54 (i1.ints low.size) L1.out (by omega)).mono ?_
  rintro e w59 ⟨X58, rfl, o60, hb⟩
  replace i1 := i1.below (hb.mono low.size)
  replace i2 := i2.below (hb.mono low.size)
  replace o13 := o13.below hb
  replace o56 := o56.below hb
  replace low := low.trans (hb.mono low.size)
  have q61 := hb.size
  clear hb
  go_wp2_with fail
  refine (toIntS_own A2 n2 c2 z2 w59 (i2.ints low.size) L2.out (by omega)).mono ?_
  rintro e w63 ⟨X62, rfl, o64, hb⟩
  replace i1 := i1.below (hb.mono low.size)
  replace i2 := i2.below (hb.mono low.size)
  replace o13 := o13.below hb
  replace o56 := o56.below hb
  replace o60 := o60.below hb
  replace low := low.trans (hb.mono low.size)
  have q65 := hb.size
  clear hb
  go_wp2_with fail
  refine (ex_impl_AddShares a0 X58 n1 n1 z1 X62 n2 n2 z2 w63 o60.ints L1.out (by omega) o64.ints L2.out (by omega)).mono ?_
  intro e w66 h
  obtain ⟨G67, n68, d69, rfl, l71, o70, hb⟩ := E.out _ _ _ h
  clear h
  replace i1 := i1.below (hb.mono low.size)
  replace i2 := i2.below (hb.mono low.size)
  replace o13 := o13.below hb
  replace o56 := o56.below hb
  replace o60 := o60.below hb
  replace o64 := o64.below hb
  replace low := low.trans (hb.mono low.size)
  have q72 := hb.size
  clear hb
  clear o60
  clear o64
  obtain rfl : n11 = n68 := by rw [← l71, L16.out]
  clear l71
  go_wp2_with fail
  refine (eqIntS_same n11 n11 d69 d12 G67 G10 R0 R0 w66 o70.ints o13.ints rfl L16.out L16.out (by omega)).mono ?_
  rintro e w73 ⟨rfl, hb⟩
  replace i1 := i1.below (hb.mono low.size)
  replace i2 := i2.below (hb.mono low.size)
  replace o13 := o13.below hb
  replace o56 := o56.below hb
  replace o70 := o70.below hb
  replace low := low.trans (hb.mono low.size)
  have q74 := hb.size
  clear hb
  go_wp2_with fail
  refine (heldIntS_any n11 (1) d28 G26 w73 o56.ints (by omega)).mono ?_
  rintro e w75 ⟨rfl, rfl⟩
  go_wp2_with fail
  go_ret
  exact ⟨by first | rfl | simp, low⟩
end Go.Proofs.Ytjhgjfipfjackaa

/- The law FnExactAddConstant: the walk. -/
import Derived.Test.YtjhgjfipfjackaaProg
import Derived.Test.YtjhgjfipfjackaaPost
import Derived.Test.YtjhgjfipfjackaaShareX
namespace Go.Proofs.Ytjhgjfipfjackaa
open Go Go.RowKit
set_option maxHeartbeats 1000000 in
theorem FnExactAddConstant_walk (a0 : Int) (A1 : Option Addr) (n1 c1 : Nat) (z1 : List Int) (a2 : Int) (w : World) (_h0 : (Lit.int .i64 a0).wf = true) (h1 : Ints w A1 z1) (l1 : z1.length = n1) (m1 : n1 ≤ 9223372036854775807) (_h2 : (Lit.int .i64 a2).wf = true) :
    Calls Try.prog 9 #[.int .i64 a0, .slice A1 n1 c1, .int .i64 a2] w fun e w' => e = .returned (.bool true) ∧ Below w.heap.size w w' := by
  have low : Below w.heap.size w w := Below.refl _ _
  by_cases hn1 : 1048576 < n1
  · clear h1 l1
    go_enter Try.func9, Try.ntmps9
    go_wp2_with fail
    go_ret
    exact ⟨rfl, low⟩
  have mm1 : n1 ≤ 1048576 := by omega
  clear hn1 m1
  have L1 := Lib.hid l1
  have i1 := h1.bound.below low
  clear h1 l1
  obtain ⟨R0, hR0, bR0⟩ : ∃ r : List Int, addcL a0 a2 z1 = r ∧ r.length ≤ 2000000 := ⟨_, rfl, by have := addcL_length a0 a2 z1; have := L1.out; omega⟩
  have E := Lib.hid (show ∀ w e w', Post_I (addcL a0 a2 z1) w e w' → Post_I R0 w e w' from by subst hR0; intro _ _ _ h; exact h)
  clear hR0
  go_enter Try.func9, Try.ntmps9
  go_wp2_with fail
  refine (toIntS_own A1 n1 c1 z1 w (i1.ints low.size) L1.out (by omega)).mono ?_
  rintro e w2 ⟨X1, rfl, o3, hb⟩
  replace i1 := i1.below (hb.mono low.size)
  replace low := low.trans (hb.mono low.size)
  have q4 := hb.size
  clear hb
  go_wp2_with fail
  refine (ex_spec_AddConstant a0 X1 n1 n1 z1 a2 w2 o3.ints L1.out (by omega)).mono ?_
  intro e w5 h
  obtain ⟨G6, n7, d8, rfl, l10, o9, hb⟩ := E.out _ _ _ h
  clear h
  replace i1 := i1.below (hb.mono low.size)
  replace o3 := o3.below hb
  replace low := low.trans (hb.mono low.size)
  have q11 := hb.size
  clear hb
  clear o3
  have L12 := Lib.hid l10
  have bnL12 : n7 ≤ 2000000 := by rw [← l10]; exact bR0
  clear l10
  go_wp2_with fail
  refine (toIntS_own A1 n1 c1 z1 w5 (i1.ints low.size) L1.out (by omega)).mono ?_
  rintro e w14 ⟨X13, rfl, o15, hb⟩
  replace i1 := i1.below (hb.mono low.size)
  replace o9 := o9.below hb
  replace low := low.trans (hb.mono low.size)
  have q16 := hb.size
  clear hb
  go_wp2_with fail
  refine (ex_impl_AddConstant a0 X13 n1 n1 z1 a2 w14 o15.ints L1.out (by omega)).mono ?_
  intro e w17 h
  obtain ⟨G18, n19, d20, rfl, l22, o21, hb⟩ := E.out _ _ _ h
  clear h
  replace i1 := i1.below (hb.mono low.size)
  replace o9 := o9.below hb
  replace o15 := o15.below hb
  replace low := low.trans (hb.mono low.size)
  have q23 := hb.size
  clear hb
  obtain rfl : n7 = n19 := by rw [← l22, L12.out]
  clear l22
  go_wp2_with fail
  refine (eqIntS_same n7 n7 d20 d8 G18 G6 R0 R0 w17 o21.ints o9.ints rfl L12.out L12.out (by omega)).mono ?_
  rintro e w24 ⟨rfl, hb⟩
  replace i1 := i1.below (hb.mono low.size)
  replace o9 := o9.below hb
  replace o15 := o15.below hb
  replace o21 := o21.below hb
  replace low := low.trans (hb.mono low.size)
  have q25 := hb.size
  clear hb
  go_wp2_with fail
  refine (toIntS_own A1 n1 c1 z1 w24 (i1.ints low.size) L1.out (by omega)).mono ?_
  rintro e w27 ⟨X26, rfl, o28, hb⟩
  replace i1 := i1.below (hb.mono low.size)
  replace o9 := o9.below hb
  replace o15 := o15.below hb
  replace o21 := o21.below hb
  replace low := low.trans (hb.mono low.size)
  have q29 := hb.size
  clear hb
  go_wp2_with fail
  refine (eqIntS_same n1 n1 n1 n1 X13 X26 z1 z1 w27 o15.ints o28.ints rfl L1.out L1.out (by omega)).mono ?_
  rintro e w30 ⟨rfl, hb⟩
  replace i1 := i1.below (hb.mono low.size)
  replace o9 := o9.below hb
  replace o15 := o15.below hb
  replace o21 := o21.below hb
  replace o28 := o28.below hb
  replace low := low.trans (hb.mono low.size)
  have q31 := hb.size
  clear hb
  clear o28
  go_wp2_with fail
  refine (markIntS_own _ _ n1 (1) _ z1 w30 o15 (by omega)).mono ?_
  rintro e w32 ⟨rfl, om, hg⟩
  have mg := Mid.of_grown (lo := w5.heap.size) (hi := w14.heap.size) hg (fun k e => o15.ltB e)
  clear o15 hg
  replace i1 := i1.mid mg (by omega) low.size
  replace o9 := o9.mid mg (.inl (by omega))
  replace o21 := o21.mid mg (.inr (by omega))
  replace low := mg.below low (by omega) low.size
  have q33 := mg.size
  clear mg
  have o34 := om
  clear om
  clear o34
  go_wp2_with fail
  refine (eqIntS_same n7 n7 d20 d8 G18 G6 R0 R0 w32 o21.ints o9.ints rfl L12.out L12.out (by omega)).mono ?_
  rintro e w35 ⟨rfl, hb⟩
  replace i1 := i1.below (hb.mono low.size)
  replace o9 := o9.below hb
  replace o21 := o21.below hb
  replace low := low.trans (hb.mono low.size)
  have q36 := hb.size
  clear hb
  go_wp2_with fail
  refine (markIntS_own _ _ n7 (1) _ R0 w35 o21 (by omega)).mono ?_
  rintro e w37 ⟨rfl, om, hg⟩
  have mg := Mid.of_grown (lo := w14.heap.size) (hi := w17.heap.size) hg (fun k e => o21.ltB e)
  clear o21 hg
  replace i1 := i1.mid mg (by omega) low.size
  replace o9 := o9.mid mg (.inl (by omega))
  replace low := mg.below low (by omega) low.size
  have q38 := mg.size
  clear mg
  have o39 := om
  clear om
  go_wp2_with fail
  refine (heldIntS_any n7 (1) d20 G18 w37 o39.ints (by omega)).mono ?_
  rintro e w40 ⟨rfl, rfl⟩
  go_wp2_with fail
  refine (toIntS_own A1 n1 c1 z1 w37 (i1.ints low.size) L1.out (by omega)).mono ?_
  rintro e w42 ⟨X41, rfl, o43, hb⟩
  replace i1 := i1.below (hb.mono low.size)
  replace o9 := o9.below hb
  replace o39 := o39.below hb
  replace low := low.trans (hb.mono low.size)
  have q44 := hb.size
  clear hb
  go_wp2_with fail
  refine (ex_impl_AddConstant a0 X41 n1 n1 z1 a2 w42 o43.ints L1.out (by omega)).mono ?_
  intro e w45 h
  obtain ⟨G46, n47, d48, rfl, l50, o49, hb⟩ := E.out _ _ _ h
  clear h
  replace i1 := i1.below (hb.mono low.size)
  replace o9 := o9.below hb
  replace o39 := o39.below hb
  replace o43 := o43.below hb
  replace low := low.trans (hb.mono low.size)
  have q51 := hb.size
  clear hb
  clear o43
  obtain rfl : n7 = n47 := by rw [← l50, L12.out]
  clear l50
  go_wp2_with fail
  refine (eqIntS_same n7 n7 d48 d8 G46 G6 R0 R0 w45 o49.ints o9.ints rfl L12.out L12.out (by omega)).mono ?_
  rintro e w52 ⟨rfl, hb⟩
  replace i1 := i1.below (hb.mono low.size)
  replace o9 := o9.below hb
  replace o39 := o39.below hb
  replace o49 := o49.below hb
  replace low := low.trans (hb.mono low.size)
  have q53 := hb.size
  clear hb
  go_wp2_with fail
  refine (heldIntS_any n7 (1) d20 G18 w52 o39.ints (by omega)).mono ?_
  rintro e w54 ⟨rfl, rfl⟩
  go_wp2_with fail
  go_ret
  exact ⟨by first | rfl | simp, low⟩
end Go.Proofs.Ytjhgjfipfjackaa

/- The law FnExactWordsOf: the walk. -/
import Derived.Test.YtklekabjhehopaaProg
import Derived.Test.YtklekabjhehopaaB1
import Derived.Test.YtklekabjhehopaaCmX
namespace Go.Proofs.Ytklekabjhehopaa
open Go Go.RowKit
set_option maxRecDepth 100000 in
set_option maxHeartbeats 2000000 in
theorem FnExactWordsOf_walk (A0 : Option Addr) (n0 c0 : Nat) (z0 : List Int) (w : World) (h0 : Ints w A0 z0) (l0 : z0.length = n0) (m0 : n0 ≤ 9223372036854775807) :
    Calls Try.prog 6 #[.slice A0 n0 c0] w fun e w' => e = .returned (.bool true) ∧ Below w.heap.size w w' := by
  have low : Below w.heap.size w w := Below.refl _ _
  by_cases hn0 : 1048576 < n0
  · clear h0 l0
    go_enter Try.func6, Try.ntmps6
    go_wp2_with fail
    go_ret
    exact ⟨rfl, low⟩
  have mm0 : n0 ≤ 1048576 := by omega
  clear hn0 m0
  have L0 := Lib.hid l0
  have i0 := h0.bound.below low
  clear h0 l0
  go_enter Try.func6, Try.ntmps6
  go_wp2_with fail
  obtain ⟨R0, hR0, bR0⟩ : ∃ r : List Int, wordsI z0 = r ∧ r.length ≤ 1900000 := ⟨_, rfl, by have := wordsI_len z0; have := L0.out; omega⟩
  have E := Lib.hid (show ∀ w e w', Post_A (wordsI z0) w e w' → Post_A R0 w e w' from by subst hR0; intro _ _ _ h; exact h)
  clear hR0
  go_wp2_with fail
  refine (toIntS_ownA A0 n0 c0 z0 w (i0.ints low.size) L0.out (by omega)).mono ?_
  rintro e w3 ⟨X1, rfl, o2, hb⟩
  replace i0 := i0.below (hb.mono low.size)
  replace low := low.trans (hb.mono low.size)
  have q4 := hb.size
  clear hb
  go_wp2_with fail
  refine (ex_spec_WordsOf X1 n0 n0 z0 w3 (o2.ints) L0.out (by omega)).mono ?_
  intro e w5 h
  obtain ⟨G6, n7, d8, rfl, o9, hb⟩ := E.out _ _ _ h
  clear h
  replace i0 := i0.below (hb.mono low.size)
  replace o2 := o2.below hb
  replace low := low.trans (hb.mono low.size)
  have q10 := hb.size
  clear hb
  clear o2
  have L11 := Lib.hid (o9.len1)
  have bnL11 : n7 ≤ 1900000 := by rw [← L11.out]; exact bR0
  go_wp2_with fail
  refine (toIntS_ownA A0 n0 c0 z0 w5 (i0.ints low.size) L0.out (by omega)).mono ?_
  rintro e w14 ⟨X12, rfl, o13, hb⟩
  replace i0 := i0.below (hb.mono low.size)
  replace o9 := o9.below hb
  replace low := low.trans (hb.mono low.size)
  have q15 := hb.size
  clear hb
  go_wp2_with fail
  refine (ex_impl_WordsOf X12 n0 n0 z0 w14 (o13.ints) L0.out (by omega)).mono ?_
  intro e w16 h
  obtain ⟨G17, n18, d19, rfl, o20, hb⟩ := E.out _ _ _ h
  clear h
  replace i0 := i0.below (hb.mono low.size)
  replace o9 := o9.below hb
  replace o13 := o13.below hb
  replace low := low.trans (hb.mono low.size)
  have q21 := hb.size
  clear hb
  have hl22 := o20.len1
  obtain rfl : n7 = n18 := by rw [← hl22, L11.out]
  clear hl22
  go_wp2_with fail
  refine (eqIntS_same n7 n7 d19 d8 G17 G6 R0 R0 w16 o20.ints o9.ints rfl L11.out L11.out (by omega)).mono ?_
  rintro e w23 ⟨rfl, hb⟩
  replace i0 := i0.below (hb.mono low.size)
  replace o9 := o9.below hb
  replace o13 := o13.below hb
  replace o20 := o20.below hb
  replace low := low.trans (hb.mono low.size)
  have q24 := hb.size
  clear hb
  go_wp2_with fail
  refine (toIntS_ownA A0 n0 c0 z0 w23 (i0.ints low.size) L0.out (by omega)).mono ?_
  rintro e w27 ⟨X25, rfl, o26, hb⟩
  replace i0 := i0.below (hb.mono low.size)
  replace o9 := o9.below hb
  replace o13 := o13.below hb
  replace o20 := o20.below hb
  replace low := low.trans (hb.mono low.size)
  have q28 := hb.size
  clear hb
  go_wp2_with fail
  refine (eqIntS_same n0 n0 n0 n0 X12 X25 z0 z0 w27 o13.ints o26.ints rfl L0.out L0.out (by omega)).mono ?_
  rintro e w29 ⟨rfl, hb⟩
  replace i0 := i0.below (hb.mono low.size)
  replace o9 := o9.below hb
  replace o13 := o13.below hb
  replace o20 := o20.below hb
  replace o26 := o26.below hb
  replace low := low.trans (hb.mono low.size)
  have q30 := hb.size
  clear hb
  clear o26
  go_wp2_with fail
  refine (markIntS_ownA _ _ n0 (1) _ z0 w29 o13 (by omega)).mono ?_
  rintro e w31 ⟨rfl, o32, hg⟩
  have mg := Mid.of_grown (lo := w5.heap.size) (hi := w14.heap.size) hg (fun k e => o13.ltB e)
  clear o13 hg
  replace i0 := i0.mid mg (by omega) low.size
  replace o9 := o9.mid mg (by omega)
  replace o20 := o20.mid mg (by omega)
  replace low := mg.below low (by omega) low.size
  have q33 := mg.size
  clear mg
  clear o32
  go_wp2_with fail
  refine (eqIntS_same n7 n7 d19 d8 G17 G6 R0 R0 w31 o20.ints o9.ints rfl L11.out L11.out (by omega)).mono ?_
  rintro e w34 ⟨rfl, hb⟩
  replace i0 := i0.below (hb.mono low.size)
  replace o9 := o9.below hb
  replace o20 := o20.below hb
  replace low := low.trans (hb.mono low.size)
  have q35 := hb.size
  clear hb
  go_wp2_with fail
  refine (markIntS_ownA _ _ n7 (1) _ R0 w34 o20 (by omega)).mono ?_
  rintro e w36 ⟨rfl, o37, hg⟩
  have mg := Mid.of_grown (lo := w14.heap.size) (hi := w16.heap.size) hg (fun k e => o20.ltB e)
  clear o20 hg
  replace i0 := i0.mid mg (by omega) low.size
  replace o9 := o9.mid mg (by omega)
  replace low := mg.below low (by omega) low.size
  have q38 := mg.size
  clear mg
  go_wp2_with fail
  refine (heldIntS_any n7 (1) d19 G17 w36 o37.ints (by omega)).mono ?_
  rintro e w39 ⟨rfl, rfl⟩
  go_wp2_with fail
  refine (toIntS_ownA A0 n0 c0 z0 w36 (i0.ints low.size) L0.out (by omega)).mono ?_
  rintro e w42 ⟨X40, rfl, o41, hb⟩
  replace i0 := i0.below (hb.mono low.size)
  replace o9 := o9.below hb
  replace o37 := o37.below hb
  replace low := low.trans (hb.mono low.size)
  have q43 := hb.size
  clear hb
  go_wp2_with fail
  refine (ex_impl_WordsOf X40 n0 n0 z0 w42 (o41.ints) L0.out (by omega)).mono ?_
  intro e w44 h
  obtain ⟨G45, n46, d47, rfl, o48, hb⟩ := E.out _ _ _ h
  clear h
  replace i0 := i0.below (hb.mono low.size)
  replace o9 := o9.below hb
  replace o37 := o37.below hb
  replace o41 := o41.below hb
  replace low := low.trans (hb.mono low.size)
  have q49 := hb.size
  clear hb
  clear o41
  have hl50 := o48.len1
  obtain rfl : n7 = n46 := by rw [← hl50, L11.out]
  clear hl50
  go_wp2_with fail
  refine (eqIntS_same n7 n7 d47 d8 G45 G6 R0 R0 w44 o48.ints o9.ints rfl L11.out L11.out (by omega)).mono ?_
  rintro e w51 ⟨rfl, hb⟩
  replace i0 := i0.below (hb.mono low.size)
  replace o9 := o9.below hb
  replace o37 := o37.below hb
  replace o48 := o48.below hb
  replace low := low.trans (hb.mono low.size)
  have q52 := hb.size
  clear hb
  go_wp2_with fail
  refine (heldIntS_any n7 (1) d19 G17 w51 o37.ints (by omega)).mono ?_
  rintro e w53 ⟨rfl, rfl⟩
  go_wp2_with fail
  go_ret
  exact ⟨by first | rfl | simp, low⟩
end Go.Proofs.Ytklekabjhehopaa

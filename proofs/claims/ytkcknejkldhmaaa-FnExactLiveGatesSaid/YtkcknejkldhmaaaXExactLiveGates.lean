/- The law FnExactLiveGates: the walk. -/
import Derived.Test.YtkcknejkldhmaaaProg
import Derived.Test.YtkcknejkldhmaaaB1
import Derived.Test.YtkcknejkldhmaaaC1
import Derived.Test.YtkcknejkldhmaaaSmEi
namespace Go.Proofs.Ytkcknejkldhmaaa
open Go Go.RowKit
set_option maxRecDepth 100000 in
set_option maxHeartbeats 2000000 in
theorem FnExactLiveGates_walk (A0_0 : Option Addr) (n0_0 c0_0 : Nat) (z0_0 : List Int) (A0_1 : Option Addr) (n0_1 c0_1 : Nat) (z0_1 : List Int) (w : World) (h0_0 : Ints w A0_0 z0_0) (l0_0 : z0_0.length = n0_0 * 3) (m0_0 : n0_0 ≤ 9223372036854775807) (h0_1 : Ints w A0_1 z0_1) (l0_1 : z0_1.length = n0_1) (m0_1 : n0_1 ≤ 9223372036854775807) :
    Calls Try.prog 8 #[.agg #[.slice A0_0 n0_0 c0_0, .slice A0_1 n0_1 c0_1]] w fun e w' => e = .returned (.bool true) ∧ Below w.heap.size w w' := by
  have low : Below w.heap.size w (w.alloc (.cells #[.slice A0_0 n0_0 c0_0, .slice A0_1 n0_1 c0_1] 47)) := (low_alloc (Below.refl _ _) _)
  have L0_0 := Lib.hid l0_0
  have i0_0 := h0_0.bound.below low
  have L0_1 := Lib.hid l0_1
  have i0_1 := h0_1.bound.below low
  clear h0_0 l0_0 h0_1 l0_1
  have b0 := new_at w (.cells #[.slice A0_0 n0_0 c0_0, .slice A0_1 n0_1 c0_1] 47) (w.heap.size) (by simp)
  go_enter Try.func8, Try.ntmps8
  have c1 := (blk (i := 0) b0 rfl).1
  have c2 := (blk (i := 1) b0 rfl).1
  go_wp2_with fail
  generalize hw0 : (w.alloc (.cells #[.slice A0_0 n0_0 c0_0, .slice A0_1 n0_1 c0_1] 47)) = v0 at *
  clear hw0
  have q0 := low.size
  have q00 := heap_lt b0
  clear c1 c2
  have c6 := (blk (i := 0) b0 rfl).1
  have c7 := (blk (i := 1) b0 rfl).1
  go_wp2_with fail
  have s3 := szCircuit_any 1048576 A0_0 A0_1 c0_0 c0_1 n0_0 n0_1 v0 (by omega) m0_0 m0_1
  unfold Sized at s3
  by_cases hn0 : n0_0 + n0_1 ≤ 1048576
  case neg =>
    rw [show szRes 1048576 (n0_0 + n0_1) = -1 by rw [szRes, if_neg hn0]] at s3
    refine s3.mono ?_
    rintro e w5 ⟨rfl, hb⟩
    go_wp2_with fail
    go_ret
    exact ⟨rfl, low.trans (hb.mono low.size)⟩
  rw [show szRes 1048576 (n0_0 + n0_1) = ((1048576 - (n0_0 + n0_1) : Nat) : Int) by rw [szRes, if_pos hn0]] at s3
  have mm0_0 : n0_0 ≤ 1048576 := by omega
  have mm0_1 : n0_1 ≤ 1048576 := by omega
  have zf4 : 1048576 - (n0_0 + n0_1) ≤ 1048576 := by omega
  clear hn0 m0_0 m0_1
  generalize 1048576 - (n0_0 + n0_1) = f4 at *
  refine s3.mono ?_
  rintro e w5 ⟨rfl, hb⟩
  clear s3
  replace b0 := heap_below b0 hb
  replace i0_0 := i0_0.below (hb.mono low.size)
  replace i0_1 := i0_1.below (hb.mono low.size)
  replace low := low.trans (hb.mono low.size)
  have q8 := hb.size
  clear hb
  have yf4 : (0 : Int) ≤ f4 := by omega
  obtain ⟨R0, hR0⟩ : ∃ r, livI z0_0 n0_0 z0_1 = r := ⟨_, rfl⟩
  have E := Lib.hid (show ∀ w e w', Post_int (livI z0_0 n0_0 z0_1) w e w' → Post_int R0 w e w' from by subst hR0; intro _ _ _ h; exact h)
  clear hR0
  clear c6 c7
  have c12 := (blk (i := 0) b0 rfl).1
  have c13 := (blk (i := 1) b0 rfl).1
  go_wp2_with fail
  refine (toCircuit_own A0_0 A0_1 c0_0 c0_1 n0_0 n0_1 z0_0 z0_1 w5 (i0_0.ints low.size) L0_0.out (by omega) (i0_1.ints low.size) L0_1.out (by omega)).mono ?_
  rintro e w14 ⟨X9, X10, rfl, o11, hb⟩
  replace b0 := heap_below b0 hb
  replace i0_0 := i0_0.below (hb.mono low.size)
  replace i0_1 := i0_1.below (hb.mono low.size)
  replace low := low.trans (hb.mono low.size)
  have q15 := hb.size
  clear hb
  clear c12 c13
  have c17 := (blk (i := 0) b0 rfl).1
  have c18 := (blk (i := 1) b0 rfl).1
  go_wp2_with fail
  refine (ex_spec_LiveGates X9 n0_0 n0_0 z0_0 X10 n0_1 n0_1 z0_1 w14 (o11.o0.ints) L0_0.out (by omega) (o11.o1.ints) L0_1.out (by omega)).mono ?_
  intro e w16 h
  obtain ⟨rfl, hb⟩ := E.out _ _ _ h
  clear h
  replace b0 := heap_below b0 hb
  replace i0_0 := i0_0.below (hb.mono low.size)
  replace i0_1 := i0_1.below (hb.mono low.size)
  replace o11 := o11.below hb
  replace low := low.trans (hb.mono low.size)
  have q19 := hb.size
  clear hb
  clear o11
  clear c17 c18
  have c23 := (blk (i := 0) b0 rfl).1
  have c24 := (blk (i := 1) b0 rfl).1
  go_wp2_with fail
  refine (toCircuit_own A0_0 A0_1 c0_0 c0_1 n0_0 n0_1 z0_0 z0_1 w16 (i0_0.ints low.size) L0_0.out (by omega) (i0_1.ints low.size) L0_1.out (by omega)).mono ?_
  rintro e w25 ⟨X20, X21, rfl, o22, hb⟩
  replace b0 := heap_below b0 hb
  replace i0_0 := i0_0.below (hb.mono low.size)
  replace i0_1 := i0_1.below (hb.mono low.size)
  replace low := low.trans (hb.mono low.size)
  have q26 := hb.size
  clear hb
  replace b0 := heap_alloc b0 (.cells #[.slice X20 n0_0 n0_0, .slice X21 n0_1 n0_1] 27)
  replace i0_0 := i0_0.below ((below_alloc _ (.cells #[.slice X20 n0_0 n0_0, .slice X21 n0_1 n0_1] 27)).mono low.size)
  replace i0_1 := i0_1.below ((below_alloc _ (.cells #[.slice X20 n0_0 n0_0, .slice X21 n0_1 n0_1] 27)).mono low.size)
  replace o22 := o22.alloc (.cells #[.slice X20 n0_0 n0_0, .slice X21 n0_1 n0_1] 27)
  replace low := low_alloc low (.cells #[.slice X20 n0_0 n0_0, .slice X21 n0_1 n0_1] 27)
  have b27 := heap_alloc_new w25 (.cells #[.slice X20 n0_0 n0_0, .slice X21 n0_1 n0_1] 27)
  have q28 := heap_lt b27
  clear c23 c24
  have c29 := (blk (i := 0) b0 rfl).1
  have c30 := (blk (i := 1) b0 rfl).1
  have c31 := (blk (i := 0) b27 rfl).1
  have c32 := (blk (i := 1) b27 rfl).1
  go_wp2_with fail
  generalize hg : (w25.alloc (.cells #[.slice X20 n0_0 n0_0, .slice X21 n0_1 n0_1] 27)) = w33 at *
  clear hg
  clear c29 c30 c31 c32
  have c35 := (blk (i := 0) b0 rfl).1
  have c36 := (blk (i := 1) b0 rfl).1
  have c37 := (blk (i := 0) b27 rfl).1
  have c38 := (blk (i := 1) b27 rfl).1
  go_wp2_with fail
  refine (ex_impl_LiveGates X20 n0_0 n0_0 z0_0 X21 n0_1 n0_1 z0_1 w33 (o22.o0.ints) L0_0.out (by omega) (o22.o1.ints) L0_1.out (by omega)).mono ?_
  intro e w34 h
  obtain ⟨rfl, hb⟩ := E.out _ _ _ h
  clear h
  replace b0 := heap_below b0 hb
  replace i0_0 := i0_0.below (hb.mono low.size)
  replace i0_1 := i0_1.below (hb.mono low.size)
  replace o22 := o22.below hb
  replace b27 := heap_below b27 hb
  replace low := low.trans (hb.mono low.size)
  have q39 := hb.size
  clear hb
  clear c35 c36 c37 c38
  have c43 := (blk (i := 0) b0 rfl).1
  have c44 := (blk (i := 1) b0 rfl).1
  have c45 := (blk (i := 0) b27 rfl).1
  have c46 := (blk (i := 1) b27 rfl).1
  go_upto_region 10 with (fail)
  go_cut [26] (fun s wx => s = .bool false ∧ Below w34.heap.size w34 wx)
  case first =>
    have lowd := low.drew
    have o22d := o22.drew
    go_wp2_with fail
    go_region_law (first
      | (go_simp; go_at_call 34; (with_reducible refine (toCircuit_own A0_0 A0_1 c0_0 c0_1 n0_0 n0_1 z0_0 z0_1 _ ((ints_drew i0_0 low)) L0_0.out (by omega) ((ints_drew i0_1 low)) L0_1.out (by omega)).mono ?_); rintro e w47 ⟨X40, X41, rfl, o42, hb1⟩; (have ox := o22d.below hb1); (have bx0 := heap_below (w := w34.drew) b27 hb1); (have cx00 := (blk (i := 0) bx0 rfl).1); (have cx01 := (blk (i := 1) bx0 rfl).1))
      | (go_simp; go_at_call 35; (with_reducible refine (eqCircuit_same X20 X21 n0_0 n0_1 X40 X41 n0_0 n0_1 n0_0 n0_1 z0_0 z0_1 _ ox.o0.ints o42.o0.ints L0_0.out (by omega) ox.o1.ints o42.o1.ints L0_1.out (by omega)).mono ?_); rintro e w48 ⟨rfl, hb2⟩))
    all_goals
      have hb := ((Below.refl w34.heap.size w34).drew.trans hb1).trans (hb2.mono (by have := hb1.size; exact this))
      go_wp2_with fail
      go_meet
      exact ⟨rfl, hb⟩
  case rest =>
    clear c43 c44 c45 c46
    obtain ⟨rfl, hb⟩ := hcut
    obtain ⟨w49, rfl⟩ : ∃ w49 : World, w49 = wc := ⟨_, rfl⟩
    replace b0 := heap_below b0 hb
    replace i0_0 := i0_0.below (hb.mono low.size)
    replace i0_1 := i0_1.below (hb.mono low.size)
    replace o22 := o22.below hb
    replace b27 := heap_below b27 hb
    replace low := low.trans (hb.mono low.size)
    have q50 := hb.size
    clear hb
    have c51 := (blk (i := 0) b0 rfl).1
    have c52 := (blk (i := 1) b0 rfl).1
    have c53 := (blk (i := 0) b27 rfl).1
    have c54 := (blk (i := 1) b27 rfl).1
    go_wp2_with fail
    go_ret
    exact ⟨by first | rfl | simp, low⟩
end Go.Proofs.Ytkcknejkldhmaaa

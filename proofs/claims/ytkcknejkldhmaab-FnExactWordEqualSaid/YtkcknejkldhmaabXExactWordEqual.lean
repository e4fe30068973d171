/- The law FnExactWordEqual: the walk. -/
import Derived.Test.YtkcknejkldhmaabProg
import Derived.Test.YtkcknejkldhmaabB1
import Derived.Test.YtkcknejkldhmaabC1
import Derived.Test.YtkcknejkldhmaabCwZ
namespace Go.Proofs.Ytkcknejkldhmaab
open Go Go.RowKit
set_option maxRecDepth 100000 in
set_option maxHeartbeats 2000000 in
theorem FnExactWordEqual_walk (A0_0 : Option Addr) (n0_0 c0_0 : Nat) (z0_0 : List Int) (A0_1 : Option Addr) (n0_1 c0_1 : Nat) (z0_1 : List Int) (A1 : Option Addr) (n1 c1 : Nat) (z1 : List Int) (A2 : Option Addr) (n2 c2 : Nat) (z2 : List Int) (w : World) (h0_0 : Ints w A0_0 z0_0) (l0_0 : z0_0.length = n0_0 * 3) (m0_0 : n0_0 ≤ 9223372036854775807) (h0_1 : Ints w A0_1 z0_1) (l0_1 : z0_1.length = n0_1) (m0_1 : n0_1 ≤ 9223372036854775807) (h1 : Ints w A1 z1) (l1 : z1.length = n1) (m1 : n1 ≤ 9223372036854775807) (h2 : Ints w A2 z2) (l2 : z2.length = n2) (m2 : n2 ≤ 9223372036854775807) :
    Calls Try.prog 9 #[.agg #[.slice A0_0 n0_0 c0_0, .slice A0_1 n0_1 c0_1], .slice A1 n1 c1, .slice A2 n2 c2] w fun e w' => e = .returned (.bool true) ∧ Below w.heap.size w w' := by
  have low : Below w.heap.size w (w.alloc (.cells #[.slice A0_0 n0_0 c0_0, .slice A0_1 n0_1 c0_1] 41)) := (low_alloc (Below.refl _ _) _)
  by_cases hn1 : 1048576 < n1
  · clear h0_0 l0_0 h0_1 l0_1 h1 l1 h2 l2
    go_enter Try.func9, Try.ntmps9
    go_wp2_with fail
    go_ret
    exact ⟨rfl, low⟩
  have mm1 : n1 ≤ 1048576 := by omega
  clear hn1 m1
  by_cases hn2 : 1048576 < n2
  · clear h0_0 l0_0 h0_1 l0_1 h1 l1 h2 l2
    go_enter Try.func9, Try.ntmps9
    go_wp2_with fail
    go_ret
    exact ⟨rfl, low⟩
  have mm2 : n2 ≤ 1048576 := by omega
  clear hn2 m2
  have L0_0 := Lib.hid l0_0
  have i0_0 := h0_0.bound.below low
  have L0_1 := Lib.hid l0_1
  have i0_1 := h0_1.bound.below low
  have L1 := Lib.hid l1
  have i1 := h1.bound.below low
  have L2 := Lib.hid l2
  have i2 := h2.bound.below low
  clear h0_0 l0_0 h0_1 l0_1 h1 l1 h2 l2
  have b0 := new_at w (.cells #[.slice A0_0 n0_0 c0_0, .slice A0_1 n0_1 c0_1] 41) (w.heap.size) (by simp)
  go_enter Try.func9, Try.ntmps9
  have c1 := (blk (i := 0) b0 rfl).1
  have c2 := (blk (i := 1) b0 rfl).1
  go_wp2_with fail
  generalize hw0 : (w.alloc (.cells #[.slice A0_0 n0_0 c0_0, .slice A0_1 n0_1 c0_1] 41)) = v0 at *
  clear hw0
  have q0 := low.size
  have q00 := heap_lt b0
  clear c1 c2
  have c6 := (blk (i := 0) b0 rfl).1
  have c7 := (blk (i := 1) b0 rfl).1
  go_wp2_with fail
  have s3 := szCircuit_any 1048576 A0_0 A0_1 c0_0 c0_1 n0_0 n0_1 v0 (by omega) m0_0 m0_1
  unfold Sized at s3
  by_cases hn0 : n0_0 + n0_1 ≤ 1048576
  case neg =>
    rw [show szRes 1048576 (n0_0 + n0_1) = -1 by rw [szRes, if_neg hn0]] at s3
    refine s3.mono ?_
    rintro e w5 ⟨rfl, hb⟩
    go_wp2_with fail
    go_ret
    exact ⟨rfl, low.trans (hb.mono low.size)⟩
  rw [show szRes 1048576 (n0_0 + n0_1) = ((1048576 - (n0_0 + n0_1) : Nat) : Int) by rw [szRes, if_pos hn0]] at s3
  have mm0_0 : n0_0 ≤ 1048576 := by omega
  have mm0_1 : n0_1 ≤ 1048576 := by omega
  have zf4 : 1048576 - (n0_0 + n0_1) ≤ 1048576 := by omega
  clear hn0 m0_0 m0_1
  generalize 1048576 - (n0_0 + n0_1) = f4 at *
  refine s3.mono ?_
  rintro e w5 ⟨rfl, hb⟩
  clear s3
  replace b0 := heap_below b0 hb
  replace i0_0 := i0_0.below (hb.mono low.size)
  replace i0_1 := i0_1.below (hb.mono low.size)
  replace i1 := i1.below (hb.mono low.size)
  replace i2 := i2.below (hb.mono low.size)
  replace low := low.trans (hb.mono low.size)
  have q8 := hb.size
  clear hb
  have yf4 : (0 : Int) ≤ f4 := by omega
  obtain ⟨R0, hR0, bR0⟩ : ∃ r : List Int, (wEqual z0_0 n0_0 z0_1 z1 z2).1 = r ∧ r.length ≤ 5700000 := ⟨_, rfl, wEqual_len z0_1 z1 z2 L0_0.out (by omega)⟩
  obtain ⟨R1, hR1, bR1⟩ : ∃ r : List Int, z0_1 = r ∧ r.length ≤ 1900000 := ⟨_, rfl, by have := L0_1.out; omega⟩
  obtain ⟨R2, hR2⟩ : ∃ r, (wEqual z0_0 n0_0 z0_1 z1 z2).2 = r := ⟨_, rfl⟩
  have E := Lib.hid (show ∀ w e w', Post_Circuit_int ((wEqual z0_0 n0_0 z0_1 z1 z2).1) (z0_1) ((wEqual z0_0 n0_0 z0_1 z1 z2).2) w e w' → Post_Circuit_int R0 R1 R2 w e w' from by subst hR0 hR1 hR2; intro _ _ _ h; exact h)
  clear hR0 hR1 hR2
  clear c6 c7
  have c12 := (blk (i := 0) b0 rfl).1
  have c13 := (blk (i := 1) b0 rfl).1
  go_wp2_with fail
  refine (toCircuit_own A0_0 A0_1 c0_0 c0_1 n0_0 n0_1 z0_0 z0_1 w5 (i0_0.ints low.size) L0_0.out (by omega) (i0_1.ints low.size) L0_1.out (by omega)).mono ?_
  rintro e w14 ⟨X9, X10, rfl, o11, hb⟩
  replace b0 := heap_below b0 hb
  replace i0_0 := i0_0.below (hb.mono low.size)
  replace i0_1 := i0_1.below (hb.mono low.size)
  replace i1 := i1.below (hb.mono low.size)
  replace i2 := i2.below (hb.mono low.size)
  replace low := low.trans (hb.mono low.size)
  have q15 := hb.size
  clear hb
  clear c12 c13
  have c18 := (blk (i := 0) b0 rfl).1
  have c19 := (blk (i := 1) b0 rfl).1
  go_wp2_with fail
  refine (toIntS_ownA A1 n1 c1 z1 w14 (i1.ints low.size) L1.out (by omega)).mono ?_
  rintro e w20 ⟨X16, rfl, o17, hb⟩
  replace b0 := heap_below b0 hb
  replace i0_0 := i0_0.below (hb.mono low.size)
  replace i0_1 := i0_1.below (hb.mono low.size)
  replace i1 := i1.below (hb.mono low.size)
  replace i2 := i2.below (hb.mono low.size)
  replace o11 := o11.below hb
  replace low := low.trans (hb.mono low.size)
  have q21 := hb.size
  clear hb
  clear c18 c19
  have c24 := (blk (i := 0) b0 rfl).1
  have c25 := (blk (i := 1) b0 rfl).1
  go_wp2_with fail
  refine (toIntS_ownA A2 n2 c2 z2 w20 (i2.ints low.size) L2.out (by omega)).mono ?_
  rintro e w26 ⟨X22, rfl, o23, hb⟩
  replace b0 := heap_below b0 hb
  replace i0_0 := i0_0.below (hb.mono low.size)
  replace i0_1 := i0_1.below (hb.mono low.size)
  replace i1 := i1.below (hb.mono low.size)
  replace i2 := i2.below (hb.mono low.size)
  replace o11 := o11.below hb
  replace o17 := o17.below hb
  replace low := low.trans (hb.mono low.size)
  have q27 := hb.size
  clear hb
  clear c24 c25
  have c29 := (blk (i := 0) b0 rfl).1
  have c30 := (blk (i := 1) b0 rfl).1
  go_wp2_with fail
  refine (ex_spec_WordEqual X9 n0_0 n0_0 z0_0 X10 n0_1 n0_1 z0_1 X16 n1 n1 z1 X22 n2 n2 z2 w26 (o11.o0.ints) L0_0.out (by omega) (o11.o1.ints) L0_1.out (by omega) (o17.ints) L1.out (by omega) (o23.ints) L2.out (by omega)).mono ?_
  intro e w28 h
  obtain ⟨G31, G34, n32, n35, d33, d36, rfl, o37, hb⟩ := E.out _ _ _ h
  clear h
  replace b0 := heap_below b0 hb
  replace i0_0 := i0_0.below (hb.mono low.size)
  replace i0_1 := i0_1.below (hb.mono low.size)
  replace i1 := i1.below (hb.mono low.size)
  replace i2 := i2.below (hb.mono low.size)
  replace o11 := o11.below hb
  replace o17 := o17.below hb
  replace o23 := o23.below hb
  replace low := low.trans (hb.mono low.size)
  have q38 := hb.size
  clear hb
  clear o11
  clear o17
  clear o23
  have L39 := Lib.hid (o37.o0.len)
  have bnL39 : n32 * 3 ≤ 5700000 := by rw [← L39.out]; exact bR0
  have L40 := Lib.hid (o37.o1.len1)
  have bnL40 : n35 ≤ 1900000 := by rw [← L40.out]; exact bR1
  replace b0 := heap_alloc b0 (.cells #[.slice G31 n32 d33, .slice G34 n35 d36] 28)
  replace i0_0 := i0_0.below ((below_alloc _ (.cells #[.slice G31 n32 d33, .slice G34 n35 d36] 28)).mono low.size)
  replace i0_1 := i0_1.below ((below_alloc _ (.cells #[.slice G31 n32 d33, .slice G34 n35 d36] 28)).mono low.size)
  replace i1 := i1.below ((below_alloc _ (.cells #[.slice G31 n32 d33, .slice G34 n35 d36] 28)).mono low.size)
  replace i2 := i2.below ((below_alloc _ (.cells #[.slice G31 n32 d33, .slice G34 n35 d36] 28)).mono low.size)
  replace o37 := o37.alloc (.cells #[.slice G31 n32 d33, .slice G34 n35 d36] 28)
  replace low := low_alloc low (.cells #[.slice G31 n32 d33, .slice G34 n35 d36] 28)
  have b41 := heap_alloc_new w28 (.cells #[.slice G31 n32 d33, .slice G34 n35 d36] 28)
  have q42 := heap_lt b41
  clear c29 c30
  have c43 := (blk (i := 0) b0 rfl).1
  have c44 := (blk (i := 1) b0 rfl).1
  have c45 := (blk (i := 0) b41 rfl).1
  have c46 := (blk (i := 1) b41 rfl).1
  go_wp2_with fail
  generalize hg : (w28.alloc (.cells #[.slice G31 n32 d33, .slice G34 n35 d36] 28)) = w47 at *
  clear hg
  clear c43 c44 c45 c46
  have c51 := (blk (i := 0) b0 rfl).1
  have c52 := (blk (i := 1) b0 rfl).1
  have c53 := (blk (i := 0) b41 rfl).1
  have c54 := (blk (i := 1) b41 rfl).1
  go_wp2_with fail
  refine (toCircuit_own A0_0 A0_1 c0_0 c0_1 n0_0 n0_1 z0_0 z0_1 w47 (i0_0.ints low.size) L0_0.out (by omega) (i0_1.ints low.size) L0_1.out (by omega)).mono ?_
  rintro e w55 ⟨X48, X49, rfl, o50, hb⟩
  replace b0 := heap_below b0 hb
  replace i0_0 := i0_0.below (hb.mono low.size)
  replace i0_1 := i0_1.below (hb.mono low.size)
  replace i1 := i1.below (hb.mono low.size)
  replace i2 := i2.below (hb.mono low.size)
  replace o37 := o37.below hb
  replace b41 := heap_below b41 hb
  replace low := low.trans (hb.mono low.size)
  have q56 := hb.size
  clear hb
  replace b0 := heap_alloc b0 (.cells #[.slice X48 n0_0 n0_0, .slice X49 n0_1 n0_1] 28)
  replace i0_0 := i0_0.below ((below_alloc _ (.cells #[.slice X48 n0_0 n0_0, .slice X49 n0_1 n0_1] 28)).mono low.size)
  replace i0_1 := i0_1.below ((below_alloc _ (.cells #[.slice X48 n0_0 n0_0, .slice X49 n0_1 n0_1] 28)).mono low.size)
  replace i1 := i1.below ((below_alloc _ (.cells #[.slice X48 n0_0 n0_0, .slice X49 n0_1 n0_1] 28)).mono low.size)
  replace i2 := i2.below ((below_alloc _ (.cells #[.slice X48 n0_0 n0_0, .slice X49 n0_1 n0_1] 28)).mono low.size)
  replace o37 := o37.alloc (.cells #[.slice X48 n0_0 n0_0, .slice X49 n0_1 n0_1] 28)
  replace b41 := heap_alloc b41 (.cells #[.slice X48 n0_0 n0_0, .slice X49 n0_1 n0_1] 28)
  replace o50 := o50.alloc (.cells #[.slice X48 n0_0 n0_0, .slice X49 n0_1 n0_1] 28)
  replace low := low_alloc low (.cells #[.slice X48 n0_0 n0_0, .slice X49 n0_1 n0_1] 28)
  have b57 := heap_alloc_new w55 (.cells #[.slice X48 n0_0 n0_0, .slice X49 n0_1 n0_1] 28)
  have q58 := heap_lt b57
  clear c51 c52 c53 c54
  have c59 := (blk (i := 0) b0 rfl).1
  have c60 := (blk (i := 1) b0 rfl).1
  have c61 := (blk (i := 0) b41 rfl).1
  have c62 := (blk (i := 1) b41 rfl).1
  have c63 := (blk (i := 0) b57 rfl).1
  have c64 := (blk (i := 1) b57 rfl).1
  go_wp2_with fail
  generalize hg : (w55.alloc (.cells #[.slice X48 n0_0 n0_0, .slice X49 n0_1 n0_1] 28)) = w65 at *
  clear hg
  clear c59 c60 c61 c62 c63 c64
  have c68 := (blk (i := 0) b0 rfl).1
  have c69 := (blk (i := 1) b0 rfl).1
  have c70 := (blk (i := 0) b41 rfl).1
  have c71 := (blk (i := 1) b41 rfl).1
  have c72 := (blk (i := 0) b57 rfl).1
  have c73 := (blk (i := 1) b57 rfl).1
  go_wp2_with fail
  refine (toIntS_ownA A1 n1 c1 z1 w65 (i1.ints low.size) L1.out (by omega)).mono ?_
  rintro e w74 ⟨X66, rfl, o67, hb⟩
  replace b0 := heap_below b0 hb
  replace i0_0 := i0_0.below (hb.mono low.size)
  replace i0_1 := i0_1.below (hb.mono low.size)
  replace i1 := i1.below (hb.mono low.size)
  replace i2 := i2.below (hb.mono low.size)
  replace o37 := o37.below hb
  replace b41 := heap_below b41 hb
  replace o50 := o50.below hb
  replace b57 := heap_below b57 hb
  replace low := low.trans (hb.mono low.size)
  have q75 := hb.size
  clear hb
  clear c68 c69 c70 c71 c72 c73
  have c78 := (blk (i := 0) b0 rfl).1
  have c79 := (blk (i := 1) b0 rfl).1
  have c80 := (blk (i := 0) b41 rfl).1
  have c81 := (blk (i := 1) b41 rfl).1
  have c82 := (blk (i := 0) b57 rfl).1
  have c83 := (blk (i := 1) b57 rfl).1
  go_wp2_with fail
  refine (toIntS_ownA A2 n2 c2 z2 w74 (i2.ints low.size) L2.out (by omega)).mono ?_
  rintro e w84 ⟨X76, rfl, o77, hb⟩
  replace b0 := heap_below b0 hb
  replace i0_0 := i0_0.below (hb.mono low.size)
  replace i0_1 := i0_1.below (hb.mono low.size)
  replace i1 := i1.below (hb.mono low.size)
  replace i2 := i2.below (hb.mono low.size)
  replace o37 := o37.below hb
  replace b41 := heap_below b41 hb
  replace o50 := o50.below hb
  replace b57 := heap_below b57 hb
  replace o67 := o67.below hb
  replace low := low.trans (hb.mono low.size)
  have q85 := hb.size
  clear hb
  clear c78 c79 c80 c81 c82 c83
  have c87 := (blk (i := 0) b0 rfl).1
  have c88 := (blk (i := 1) b0 rfl).1
  have c89 := (blk (i := 0) b41 rfl).1
  have c90 := (blk (i := 1) b41 rfl).1
  have c91 := (blk (i := 0) b57 rfl).1
  have c92 := (blk (i := 1) b57 rfl).1
  go_wp2_with fail
  refine (ex_impl_WordEqual X48 n0_0 n0_0 z0_0 X49 n0_1 n0_1 z0_1 X66 n1 n1 z1 X76 n2 n2 z2 w84 (o50.o0.ints) L0_0.out (by omega) (o50.o1.ints) L0_1.out (by omega) (o67.ints) L1.out (by omega) (o77.ints) L2.out (by omega)).mono ?_
  intro e w86 h
  obtain ⟨G93, G96, n94, n97, d95, d98, rfl, o99, hb⟩ := E.out _ _ _ h
  clear h
  replace b0 := heap_below b0 hb
  replace i0_0 := i0_0.below (hb.mono low.size)
  replace i0_1 := i0_1.below (hb.mono low.size)
  replace i1 := i1.below (hb.mono low.size)
  replace i2 := i2.below (hb.mono low.size)
  replace o37 := o37.below hb
  replace b41 := heap_below b41 hb
  replace o50 := o50.below hb
  replace b57 := heap_below b57 hb
  replace o67 := o67.below hb
  replace o77 := o77.below hb
  replace low := low.trans (hb.mono low.size)
  have q100 := hb.size
  clear hb
  have hl101 := o99.o0.len
  obtain rfl : n32 = n94 := by have := L39.out; omega
  clear hl101
  have hl102 := o99.o1.len1
  obtain rfl : n35 = n97 := by rw [← hl102, L40.out]
  clear hl102
  replace b0 := heap_alloc b0 (.cells #[.slice G93 n32 d95, .slice G96 n35 d98] 28)
  replace i0_0 := i0_0.below ((below_alloc _ (.cells #[.slice G93 n32 d95, .slice G96 n35 d98] 28)).mono low.size)
  replace i0_1 := i0_1.below ((below_alloc _ (.cells #[.slice G93 n32 d95, .slice G96 n35 d98] 28)).mono low.size)
  replace i1 := i1.below ((below_alloc _ (.cells #[.slice G93 n32 d95, .slice G96 n35 d98] 28)).mono low.size)
  replace i2 := i2.below ((below_alloc _ (.cells #[.slice G93 n32 d95, .slice G96 n35 d98] 28)).mono low.size)
  replace o37 := o37.alloc (.cells #[.slice G93 n32 d95, .slice G96 n35 d98] 28)
  replace b41 := heap_alloc b41 (.cells #[.slice G93 n32 d95, .slice G96 n35 d98] 28)
  replace o50 := o50.alloc (.cells #[.slice G93 n32 d95, .slice G96 n35 d98] 28)
  replace b57 := heap_alloc b57 (.cells #[.slice G93 n32 d95, .slice G96 n35 d98] 28)
  replace o67 := o67.alloc (.cells #[.slice G93 n32 d95, .slice G96 n35 d98] 28)
  replace o77 := o77.alloc (.cells #[.slice G93 n32 d95, .slice G96 n35 d98] 28)
  replace o99 := o99.alloc (.cells #[.slice G93 n32 d95, .slice G96 n35 d98] 28)
  replace low := low_alloc low (.cells #[.slice G93 n32 d95, .slice G96 n35 d98] 28)
  have b103 := heap_alloc_new w86 (.cells #[.slice G93 n32 d95, .slice G96 n35 d98] 28)
  have q104 := heap_lt b103
  clear c87 c88 c89 c90 c91 c92
  have c105 := (blk (i := 0) b0 rfl).1
  have c106 := (blk (i := 1) b0 rfl).1
  have c107 := (blk (i := 0) b41 rfl).1
  have c108 := (blk (i := 1) b41 rfl).1
  have c109 := (blk (i := 0) b57 rfl).1
  have c110 := (blk (i := 1) b57 rfl).1
  have c111 := (blk (i := 0) b103 rfl).1
  have c112 := (blk (i := 1) b103 rfl).1
  go_wp2_with fail
  generalize hg : (w86.alloc (.cells #[.slice G93 n32 d95, .slice G96 n35 d98] 28)) = w113 at *
  clear hg
  clear c105 c106 c107 c108 c109 c110 c111 c112
  have c115 := (blk (i := 0) b0 rfl).1
  have c116 := (blk (i := 1) b0 rfl).1
  have c117 := (blk (i := 0) b41 rfl).1
  have c118 := (blk (i := 1) b41 rfl).1
  have c119 := (blk (i := 0) b57 rfl).1
  have c120 := (blk (i := 1) b57 rfl).1
  have c121 := (blk (i := 0) b103 rfl).1
  have c122 := (blk (i := 1) b103 rfl).1
  go_wp2_with fail
  refine (eqCircuit_same G93 G96 d95 d98 G31 G34 d33 d36 n32 n35 R0 R1 w113 o99.o0.ints o37.o0.ints L39.out (by omega) o99.o1.ints o37.o1.ints L40.out (by omega)).mono ?_
  rintro e w114 ⟨rfl, hb⟩
  replace b0 := heap_below b0 hb
  replace i0_0 := i0_0.below (hb.mono low.size)
  replace i0_1 := i0_1.below (hb.mono low.size)
  replace i1 := i1.below (hb.mono low.size)
  replace i2 := i2.below (hb.mono low.size)
  replace o37 := o37.below hb
  replace b41 := heap_below b41 hb
  replace o50 := o50.below hb
  replace b57 := heap_below b57 hb
  replace o67 := o67.below hb
  replace o77 := o77.below hb
  replace o99 := o99.below hb
  replace b103 := heap_below b103 hb
  replace low := low.trans (hb.mono low.size)
  have q123 := hb.size
  clear hb
  clear c115 c116 c117 c118 c119 c120 c121 c122
  have c127 := (blk (i := 0) b0 rfl).1
  have c128 := (blk (i := 1) b0 rfl).1
  have c129 := (blk (i := 0) b41 rfl).1
  have c130 := (blk (i := 1) b41 rfl).1
  have c131 := (blk (i := 0) b57 rfl).1
  have c132 := (blk (i := 1) b57 rfl).1
  have c133 := (blk (i := 0) b103 rfl).1
  have c134 := (blk (i := 1) b103 rfl).1
  go_upto_region 16 with (fail)
  go_cut [67] (fun s wx => s = .bool false ∧ Below w114.heap.size w114 wx)
  case first =>
    have lowd := low.drew
    have o50d := o50.drew
    go_wp2_with fail
    go_region_law (first
      | (go_simp; go_at_call 26; (with_reducible refine (toCircuit_own A0_0 A0_1 c0_0 c0_1 n0_0 n0_1 z0_0 z0_1 _ ((ints_drew i0_0 low)) L0_0.out (by omega) ((ints_drew i0_1 low)) L0_1.out (by omega)).mono ?_); rintro e w135 ⟨X124, X125, rfl, o126, hb1⟩; (have ox := o50d.below hb1); (have bx0 := heap_below (w := w114.drew) b57 hb1); (have cx00 := (blk (i := 0) bx0 rfl).1); (have cx01 := (blk (i := 1) bx0 rfl).1))
      | (go_simp; go_at_call 27; (with_reducible refine (eqCircuit_same X48 X49 n0_0 n0_1 X124 X125 n0_0 n0_1 n0_0 n0_1 z0_0 z0_1 _ ox.o0.ints o126.o0.ints L0_0.out (by omega) ox.o1.ints o126.o1.ints L0_1.out (by omega)).mono ?_); rintro e w136 ⟨rfl, hb2⟩))
    all_goals
      have hb := ((Below.refl w114.heap.size w114).drew.trans hb1).trans (hb2.mono (by have := hb1.size; exact this))
      go_wp2_with fail
      go_meet
      exact ⟨rfl, hb⟩
  case rest =>
    clear c127 c128 c129 c130 c131 c132 c133 c134
    obtain ⟨rfl, hb⟩ := hcut
    obtain ⟨w137, rfl⟩ : ∃ w137 : World, w137 = wc := ⟨_, rfl⟩
    replace b0 := heap_below b0 hb
    replace i0_0 := i0_0.below (hb.mono low.size)
    replace i0_1 := i0_1.below (hb.mono low.size)
    replace i1 := i1.below (hb.mono low.size)
    replace i2 := i2.below (hb.mono low.size)
    replace o37 := o37.below hb
    replace b41 := heap_below b41 hb
    replace o50 := o50.below hb
    replace b57 := heap_below b57 hb
    replace o67 := o67.below hb
    replace o77 := o77.below hb
    replace o99 := o99.below hb
    replace b103 := heap_below b103 hb
    replace low := low.trans (hb.mono low.size)
    have q138 := hb.size
    clear hb
    have c141 := (blk (i := 0) b0 rfl).1
    have c142 := (blk (i := 1) b0 rfl).1
    have c143 := (blk (i := 0) b41 rfl).1
    have c144 := (blk (i := 1) b41 rfl).1
    have c145 := (blk (i := 0) b57 rfl).1
    have c146 := (blk (i := 1) b57 rfl).1
    have c147 := (blk (i := 0) b103 rfl).1
    have c148 := (blk (i := 1) b103 rfl).1
    go_wp2_with fail
    refine (toIntS_ownA A1 n1 c1 z1 w137 (i1.ints low.size) L1.out (by omega)).mono ?_
    rintro e w149 ⟨X139, rfl, o140, hb⟩
    replace b0 := heap_below b0 hb
    replace i0_0 := i0_0.below (hb.mono low.size)
    replace i0_1 := i0_1.below (hb.mono low.size)
    replace i1 := i1.below (hb.mono low.size)
    replace i2 := i2.below (hb.mono low.size)
    replace o37 := o37.below hb
    replace b41 := heap_below b41 hb
    replace o50 := o50.below hb
    replace b57 := heap_below b57 hb
    replace o67 := o67.below hb
    replace o77 := o77.below hb
    replace o99 := o99.below hb
    replace b103 := heap_below b103 hb
    replace low := low.trans (hb.mono low.size)
    have q150 := hb.size
    clear hb
    clear c141 c142 c143 c144 c145 c146 c147 c148
    have c152 := (blk (i := 0) b0 rfl).1
    have c153 := (blk (i := 1) b0 rfl).1
    have c154 := (blk (i := 0) b41 rfl).1
    have c155 := (blk (i := 1) b41 rfl).1
    have c156 := (blk (i := 0) b57 rfl).1
    have c157 := (blk (i := 1) b57 rfl).1
    have c158 := (blk (i := 0) b103 rfl).1
    have c159 := (blk (i := 1) b103 rfl).1
    go_wp2_with fail
    refine (eqIntS_same n1 n1 n1 n1 X66 X139 z1 z1 w149 o67.ints o140.ints rfl L1.out L1.out (by omega)).mono ?_
    rintro e w151 ⟨rfl, hb⟩
    replace b0 := heap_below b0 hb
    replace i0_0 := i0_0.below (hb.mono low.size)
    replace i0_1 := i0_1.below (hb.mono low.size)
    replace i1 := i1.below (hb.mono low.size)
    replace i2 := i2.below (hb.mono low.size)
    replace o37 := o37.below hb
    replace b41 := heap_below b41 hb
    replace o50 := o50.below hb
    replace b57 := heap_below b57 hb
    replace o67 := o67.below hb
    replace o77 := o77.below hb
    replace o99 := o99.below hb
    replace b103 := heap_below b103 hb
    replace o140 := o140.below hb
    replace low := low.trans (hb.mono low.size)
    have q160 := hb.size
    clear hb
    clear o140
    clear c152 c153 c154 c155 c156 c157 c158 c159
    have c163 := (blk (i := 0) b0 rfl).1
    have c164 := (blk (i := 1) b0 rfl).1
    have c165 := (blk (i := 0) b41 rfl).1
    have c166 := (blk (i := 1) b41 rfl).1
    have c167 := (blk (i := 0) b57 rfl).1
    have c168 := (blk (i := 1) b57 rfl).1
    have c169 := (blk (i := 0) b103 rfl).1
    have c170 := (blk (i := 1) b103 rfl).1
    go_wp2_with fail
    refine (toIntS_ownA A2 n2 c2 z2 w151 (i2.ints low.size) L2.out (by omega)).mono ?_
    rintro e w171 ⟨X161, rfl, o162, hb⟩
    replace b0 := heap_below b0 hb
    replace i0_0 := i0_0.below (hb.mono low.size)
    replace i0_1 := i0_1.below (hb.mono low.size)
    replace i1 := i1.below (hb.mono low.size)
    replace i2 := i2.below (hb.mono low.size)
    replace o37 := o37.below hb
    replace b41 := heap_below b41 hb
    replace o50 := o50.below hb
    replace b57 := heap_below b57 hb
    replace o67 := o67.below hb
    replace o77 := o77.below hb
    replace o99 := o99.below hb
    replace b103 := heap_below b103 hb
    replace low := low.trans (hb.mono low.size)
    have q172 := hb.size
    clear hb
    clear c163 c164 c165 c166 c167 c168 c169 c170
    have c174 := (blk (i := 0) b0 rfl).1
    have c175 := (blk (i := 1) b0 rfl).1
    have c176 := (blk (i := 0) b41 rfl).1
    have c177 := (blk (i := 1) b41 rfl).1
    have c178 := (blk (i := 0) b57 rfl).1
    have c179 := (blk (i := 1) b57 rfl).1
    have c180 := (blk (i := 0) b103 rfl).1
    have c181 := (blk (i := 1) b103 rfl).1
    go_wp2_with fail
    refine (eqIntS_same n2 n2 n2 n2 X76 X161 z2 z2 w171 o77.ints o162.ints rfl L2.out L2.out (by omega)).mono ?_
    rintro e w173 ⟨rfl, hb⟩
    replace b0 := heap_below b0 hb
    replace i0_0 := i0_0.below (hb.mono low.size)
    replace i0_1 := i0_1.below (hb.mono low.size)
    replace i1 := i1.below (hb.mono low.size)
    replace i2 := i2.below (hb.mono low.size)
    replace o37 := o37.below hb
    replace b41 := heap_below b41 hb
    replace o50 := o50.below hb
    replace b57 := heap_below b57 hb
    replace o67 := o67.below hb
    replace o77 := o77.below hb
    replace o99 := o99.below hb
    replace b103 := heap_below b103 hb
    replace o162 := o162.below hb
    replace low := low.trans (hb.mono low.size)
    have q182 := hb.size
    clear hb
    clear o162
    clear c174 c175 c176 c177 c178 c179 c180 c181
    have c184 := (blk (i := 0) b0 rfl).1
    have c185 := (blk (i := 1) b0 rfl).1
    have c186 := (blk (i := 0) b41 rfl).1
    have c187 := (blk (i := 1) b41 rfl).1
    have c188 := (blk (i := 0) b57 rfl).1
    have c189 := (blk (i := 1) b57 rfl).1
    have c190 := (blk (i := 0) b103 rfl).1
    have c191 := (blk (i := 1) b103 rfl).1
    go_wp2_with fail
    refine (markCircuit_own w47.heap.size (w55.heap.size) (1) X48 X49 n0_0 n0_1 n0_0 n0_1 z0_0 z0_1 w173 o50 (by omega) (by omega)).mono ?_
    rintro e w183 ⟨rfl, o192, mg, ms⟩
    clear o50
    clear ms
    replace b0 := mg.heap b0 (by omega)
    replace i0_0 := i0_0.mid mg (by omega) low.size
    replace i0_1 := i0_1.mid mg (by omega) low.size
    replace i1 := i1.mid mg (by omega) low.size
    replace i2 := i2.mid mg (by omega) low.size
    replace o37 := o37.mid mg (by omega)
    replace b41 := mg.heap b41 (by omega)
    replace b57 := mg.heap b57 (by omega)
    replace o67 := o67.mid mg (by omega)
    replace o77 := o77.mid mg (by omega)
    replace o99 := o99.mid mg (by omega)
    replace b103 := mg.heap b103 (by omega)
    replace low := mg.below low (by omega) low.size
    have q193 := mg.size
    clear mg
    clear o192
    clear b57
    clear c184 c185 c186 c187 c188 c189 c190 c191
    have c195 := (blk (i := 0) b0 rfl).1
    have c196 := (blk (i := 1) b0 rfl).1
    have c197 := (blk (i := 0) b41 rfl).1
    have c198 := (blk (i := 1) b41 rfl).1
    have c199 := (blk (i := 0) b103 rfl).1
    have c200 := (blk (i := 1) b103 rfl).1
    go_wp2_with fail
    refine (markIntS_ownA _ _ n1 (1 + n0_0 * 3 + n0_1) _ z1 w183 o67 (by omega)).mono ?_
    rintro e w194 ⟨rfl, o201, hg⟩
    have mg := Mid.of_grown (lo := w65.heap.size) (hi := w74.heap.size) hg (fun k e => o67.ltB e)
    clear o67 hg
    replace b0 := mg.heap b0 (by omega)
    replace i0_0 := i0_0.mid mg (by omega) low.size
    replace i0_1 := i0_1.mid mg (by omega) low.size
    replace i1 := i1.mid mg (by omega) low.size
    replace i2 := i2.mid mg (by omega) low.size
    replace o37 := o37.mid mg (by omega)
    replace b41 := mg.heap b41 (by omega)
    replace o77 := o77.mid mg (by omega)
    replace o99 := o99.mid mg (by omega)
    replace b103 := mg.heap b103 (by omega)
    replace low := mg.below low (by omega) low.size
    have q202 := mg.size
    clear mg
    clear o201
    clear c195 c196 c197 c198 c199 c200
    have c204 := (blk (i := 0) b0 rfl).1
    have c205 := (blk (i := 1) b0 rfl).1
    have c206 := (blk (i := 0) b41 rfl).1
    have c207 := (blk (i := 1) b41 rfl).1
    have c208 := (blk (i := 0) b103 rfl).1
    have c209 := (blk (i := 1) b103 rfl).1
    go_wp2_with fail
    refine (markIntS_ownA _ _ n2 (1 + n0_0 * 3 + n0_1 + n1) _ z2 w194 o77 (by omega)).mono ?_
    rintro e w203 ⟨rfl, o210, hg⟩
    have mg := Mid.of_grown (lo := w74.heap.size) (hi := w84.heap.size) hg (fun k e => o77.ltB e)
    clear o77 hg
    replace b0 := mg.heap b0 (by omega)
    replace i0_0 := i0_0.mid mg (by omega) low.size
    replace i0_1 := i0_1.mid mg (by omega) low.size
    replace i1 := i1.mid mg (by omega) low.size
    replace i2 := i2.mid mg (by omega) low.size
    replace o37 := o37.mid mg (by omega)
    replace b41 := mg.heap b41 (by omega)
    replace o99 := o99.mid mg (by omega)
    replace b103 := mg.heap b103 (by omega)
    replace low := mg.below low (by omega) low.size
    have q211 := mg.size
    clear mg
    clear o210
    clear c204 c205 c206 c207 c208 c209
    have c213 := (blk (i := 0) b0 rfl).1
    have c214 := (blk (i := 1) b0 rfl).1
    have c215 := (blk (i := 0) b41 rfl).1
    have c216 := (blk (i := 1) b41 rfl).1
    have c217 := (blk (i := 0) b103 rfl).1
    have c218 := (blk (i := 1) b103 rfl).1
    go_wp2_with fail
    refine (eqCircuit_same G93 G96 d95 d98 G31 G34 d33 d36 n32 n35 R0 R1 w203 o99.o0.ints o37.o0.ints L39.out (by omega) o99.o1.ints o37.o1.ints L40.out (by omega)).mono ?_
    rintro e w212 ⟨rfl, hb⟩
    replace b0 := heap_below b0 hb
    replace i0_0 := i0_0.below (hb.mono low.size)
    replace i0_1 := i0_1.below (hb.mono low.size)
    replace i1 := i1.below (hb.mono low.size)
    replace i2 := i2.below (hb.mono low.size)
    replace o37 := o37.below hb
    replace b41 := heap_below b41 hb
    replace o99 := o99.below hb
    replace b103 := heap_below b103 hb
    replace low := low.trans (hb.mono low.size)
    have q219 := hb.size
    clear hb
    clear c213 c214 c215 c216 c217 c218
    have c221 := (blk (i := 0) b0 rfl).1
    have c222 := (blk (i := 1) b0 rfl).1
    have c223 := (blk (i := 0) b41 rfl).1
    have c224 := (blk (i := 1) b41 rfl).1
    have c225 := (blk (i := 0) b103 rfl).1
    have c226 := (blk (i := 1) b103 rfl).1
    go_wp2_with fail
    refine (markCircuit_own w84.heap.size (w86.heap.size) (1) G93 G96 d95 d98 n32 n35 R0 R1 w212 o99 (by omega) (by omega)).mono ?_
    rintro e w220 ⟨rfl, o227, mg, ms⟩
    clear o99
    clear ms
    replace b0 := mg.heap b0 (by omega)
    replace i0_0 := i0_0.mid mg (by omega) low.size
    replace i0_1 := i0_1.mid mg (by omega) low.size
    replace i1 := i1.mid mg (by omega) low.size
    replace i2 := i2.mid mg (by omega) low.size
    replace o37 := o37.mid mg (by omega)
    replace b41 := mg.heap b41 (by omega)
    replace b103 := mg.heap b103 (by omega)
    replace low := mg.below low (by omega) low.size
    have q228 := mg.size
    clear mg
    clear c221 c222 c223 c224 c225 c226
    have c229 := (blk (i := 0) b0 rfl).1
    have c230 := (blk (i := 1) b0 rfl).1
    have c231 := (blk (i := 0) b41 rfl).1
    have c232 := (blk (i := 1) b41 rfl).1
    have c233 := (blk (i := 0) b103 rfl).1
    have c234 := (blk (i := 1) b103 rfl).1
    go_wp2_with fail
    refine (heldCircuit_any (1) G93 G96 d95 d98 n32 n35 w220 o227.o0.ints o227.o1.ints (by omega)).mono ?_
    rintro e w235 ⟨rfl, hb⟩
    replace b0 := heap_below b0 hb
    replace i0_0 := i0_0.below (hb.mono low.size)
    replace i0_1 := i0_1.below (hb.mono low.size)
    replace i1 := i1.below (hb.mono low.size)
    replace i2 := i2.below (hb.mono low.size)
    replace o37 := o37.below hb
    replace b41 := heap_below b41 hb
    replace b103 := heap_below b103 hb
    replace o227 := o227.below hb
    replace low := low.trans (hb.mono low.size)
    have q236 := hb.size
    clear hb
    clear c229 c230 c231 c232 c233 c234
    have c240 := (blk (i := 0) b0 rfl).1
    have c241 := (blk (i := 1) b0 rfl).1
    have c242 := (blk (i := 0) b41 rfl).1
    have c243 := (blk (i := 1) b41 rfl).1
    have c244 := (blk (i := 0) b103 rfl).1
    have c245 := (blk (i := 1) b103 rfl).1
    go_wp2_with fail
    refine (toCircuit_own A0_0 A0_1 c0_0 c0_1 n0_0 n0_1 z0_0 z0_1 w235 (i0_0.ints low.size) L0_0.out (by omega) (i0_1.ints low.size) L0_1.out (by omega)).mono ?_
    rintro e w246 ⟨X237, X238, rfl, o239, hb⟩
    replace b0 := heap_below b0 hb
    replace i0_0 := i0_0.below (hb.mono low.size)
    replace i0_1 := i0_1.below (hb.mono low.size)
    replace i1 := i1.below (hb.mono low.size)
    replace i2 := i2.below (hb.mono low.size)
    replace o37 := o37.below hb
    replace b41 := heap_below b41 hb
    replace b103 := heap_below b103 hb
    replace o227 := o227.below hb
    replace low := low.trans (hb.mono low.size)
    have q247 := hb.size
    clear hb
    clear c240 c241 c242 c243 c244 c245
    have c250 := (blk (i := 0) b0 rfl).1
    have c251 := (blk (i := 1) b0 rfl).1
    have c252 := (blk (i := 0) b41 rfl).1
    have c253 := (blk (i := 1) b41 rfl).1
    have c254 := (blk (i := 0) b103 rfl).1
    have c255 := (blk (i := 1) b103 rfl).1
    go_wp2_with fail
    refine (toIntS_ownA A1 n1 c1 z1 w246 (i1.ints low.size) L1.out (by omega)).mono ?_
    rintro e w256 ⟨X248, rfl, o249, hb⟩
    replace b0 := heap_below b0 hb
    replace i0_0 := i0_0.below (hb.mono low.size)
    replace i0_1 := i0_1.below (hb.mono low.size)
    replace i1 := i1.below (hb.mono low.size)
    replace i2 := i2.below (hb.mono low.size)
    replace o37 := o37.below hb
    replace b41 := heap_below b41 hb
    replace b103 := heap_below b103 hb
    replace o227 := o227.below hb
    replace o239 := o239.below hb
    replace low := low.trans (hb.mono low.size)
    have q257 := hb.size
    clear hb
    clear c250 c251 c252 c253 c254 c255
    have c260 := (blk (i := 0) b0 rfl).1
    have c261 := (blk (i := 1) b0 rfl).1
    have c262 := (blk (i := 0) b41 rfl).1
    have c263 := (blk (i := 1) b41 rfl).1
    have c264 := (blk (i := 0) b103 rfl).1
    have c265 := (blk (i := 1) b103 rfl).1
    go_wp2_with fail
    refine (toIntS_ownA A2 n2 c2 z2 w256 (i2.ints low.size) L2.out (by omega)).mono ?_
    rintro e w266 ⟨X258, rfl, o259, hb⟩
    replace b0 := heap_below b0 hb
    replace i0_0 := i0_0.below (hb.mono low.size)
    replace i0_1 := i0_1.below (hb.mono low.size)
    replace i1 := i1.below (hb.mono low.size)
    replace i2 := i2.below (hb.mono low.size)
    replace o37 := o37.below hb
    replace b41 := heap_below b41 hb
    replace b103 := heap_below b103 hb
    replace o227 := o227.below hb
    replace o239 := o239.below hb
    replace o249 := o249.below hb
    replace low := low.trans (hb.mono low.size)
    have q267 := hb.size
    clear hb
    clear c260 c261 c262 c263 c264 c265
    have c269 := (blk (i := 0) b0 rfl).1
    have c270 := (blk (i := 1) b0 rfl).1
    have c271 := (blk (i := 0) b41 rfl).1
    have c272 := (blk (i := 1) b41 rfl).1
    have c273 := (blk (i := 0) b103 rfl).1
    have c274 := (blk (i := 1) b103 rfl).1
    go_wp2_with fail
    refine (ex_impl_WordEqual X237 n0_0 n0_0 z0_0 X238 n0_1 n0_1 z0_1 X248 n1 n1 z1 X258 n2 n2 z2 w266 (o239.o0.ints) L0_0.out (by omega) (o239.o1.ints) L0_1.out (by omega) (o249.ints) L1.out (by omega) (o259.ints) L2.out (by omega)).mono ?_
    intro e w268 h
    obtain ⟨G275, G278, n276, n279, d277, d280, rfl, o281, hb⟩ := E.out _ _ _ h
    clear h
    replace b0 := heap_below b0 hb
    replace i0_0 := i0_0.below (hb.mono low.size)
    replace i0_1 := i0_1.below (hb.mono low.size)
    replace i1 := i1.below (hb.mono low.size)
    replace i2 := i2.below (hb.mono low.size)
    replace o37 := o37.below hb
    replace b41 := heap_below b41 hb
    replace b103 := heap_below b103 hb
    replace o227 := o227.below hb
    replace o239 := o239.below hb
    replace o249 := o249.below hb
    replace o259 := o259.below hb
    replace low := low.trans (hb.mono low.size)
    have q282 := hb.size
    clear hb
    clear o239
    clear o249
    clear o259
    have hl283 := o281.o0.len
    obtain rfl : n32 = n276 := by have := L39.out; omega
    clear hl283
    have hl284 := o281.o1.len1
    obtain rfl : n35 = n279 := by rw [← hl284, L40.out]
    clear hl284
    replace b0 := heap_alloc b0 (.cells #[.slice G275 n32 d277, .slice G278 n35 d280] 28)
    replace i0_0 := i0_0.below ((below_alloc _ (.cells #[.slice G275 n32 d277, .slice G278 n35 d280] 28)).mono low.size)
    replace i0_1 := i0_1.below ((below_alloc _ (.cells #[.slice G275 n32 d277, .slice G278 n35 d280] 28)).mono low.size)
    replace i1 := i1.below ((below_alloc _ (.cells #[.slice G275 n32 d277, .slice G278 n35 d280] 28)).mono low.size)
    replace i2 := i2.below ((below_alloc _ (.cells #[.slice G275 n32 d277, .slice G278 n35 d280] 28)).mono low.size)
    replace o37 := o37.alloc (.cells #[.slice G275 n32 d277, .slice G278 n35 d280] 28)
    replace b41 := heap_alloc b41 (.cells #[.slice G275 n32 d277, .slice G278 n35 d280] 28)
    replace b103 := heap_alloc b103 (.cells #[.slice G275 n32 d277, .slice G278 n35 d280] 28)
    replace o227 := o227.alloc (.cells #[.slice G275 n32 d277, .slice G278 n35 d280] 28)
    replace o281 := o281.alloc (.cells #[.slice G275 n32 d277, .slice G278 n35 d280] 28)
    replace low := low_alloc low (.cells #[.slice G275 n32 d277, .slice G278 n35 d280] 28)
    have b285 := heap_alloc_new w268 (.cells #[.slice G275 n32 d277, .slice G278 n35 d280] 28)
    have q286 := heap_lt b285
    clear c269 c270 c271 c272 c273 c274
    have c287 := (blk (i := 0) b0 rfl).1
    have c288 := (blk (i := 1) b0 rfl).1
    have c289 := (blk (i := 0) b41 rfl).1
    have c290 := (blk (i := 1) b41 rfl).1
    have c291 := (blk (i := 0) b103 rfl).1
    have c292 := (blk (i := 1) b103 rfl).1
    have c293 := (blk (i := 0) b285 rfl).1
    have c294 := (blk (i := 1) b285 rfl).1
    go_wp2_with fail
    generalize hg : (w268.alloc (.cells #[.slice G275 n32 d277, .slice G278 n35 d280] 28)) = w295 at *
    clear hg
    clear c287 c288 c289 c290 c291 c292 c293 c294
    have c297 := (blk (i := 0) b0 rfl).1
    have c298 := (blk (i := 1) b0 rfl).1
    have c299 := (blk (i := 0) b41 rfl).1
    have c300 := (blk (i := 1) b41 rfl).1
    have c301 := (blk (i := 0) b103 rfl).1
    have c302 := (blk (i := 1) b103 rfl).1
    have c303 := (blk (i := 0) b285 rfl).1
    have c304 := (blk (i := 1) b285 rfl).1
    go_wp2_with fail
    refine (eqCircuit_same G275 G278 d277 d280 G31 G34 d33 d36 n32 n35 R0 R1 w295 o281.o0.ints o37.o0.ints L39.out (by omega) o281.o1.ints o37.o1.ints L40.out (by omega)).mono ?_
    rintro e w296 ⟨rfl, hb⟩
    replace b0 := heap_below b0 hb
    replace i0_0 := i0_0.below (hb.mono low.size)
    replace i0_1 := i0_1.below (hb.mono low.size)
    replace i1 := i1.below (hb.mono low.size)
    replace i2 := i2.below (hb.mono low.size)
    replace o37 := o37.below hb
    replace b41 := heap_below b41 hb
    replace b103 := heap_below b103 hb
    replace o227 := o227.below hb
    replace o281 := o281.below hb
    replace b285 := heap_below b285 hb
    replace low := low.trans (hb.mono low.size)
    have q305 := hb.size
    clear hb
    clear c297 c298 c299 c300 c301 c302 c303 c304
    have c306 := (blk (i := 0) b0 rfl).1
    have c307 := (blk (i := 1) b0 rfl).1
    have c308 := (blk (i := 0) b41 rfl).1
    have c309 := (blk (i := 1) b41 rfl).1
    have c310 := (blk (i := 0) b103 rfl).1
    have c311 := (blk (i := 1) b103 rfl).1
    have c312 := (blk (i := 0) b285 rfl).1
    have c313 := (blk (i := 1) b285 rfl).1
    go_wp2_with fail
    refine (heldCircuit_any (1) G93 G96 d95 d98 n32 n35 w296 o227.o0.ints o227.o1.ints (by omega)).mono ?_
    rintro e w314 ⟨rfl, hb⟩
    replace b0 := heap_below b0 hb
    replace i0_0 := i0_0.below (hb.mono low.size)
    replace i0_1 := i0_1.below (hb.mono low.size)
    replace i1 := i1.below (hb.mono low.size)
    replace i2 := i2.below (hb.mono low.size)
    replace o37 := o37.below hb
    replace b41 := heap_below b41 hb
    replace b103 := heap_below b103 hb
    replace o227 := o227.below hb
    replace o281 := o281.below hb
    replace b285 := heap_below b285 hb
    replace low := low.trans (hb.mono low.size)
    have q315 := hb.size
    clear hb
    clear c306 c307 c308 c309 c310 c311 c312 c313
    have c316 := (blk (i := 0) b0 rfl).1
    have c317 := (blk (i := 1) b0 rfl).1
    have c318 := (blk (i := 0) b41 rfl).1
    have c319 := (blk (i := 1) b41 rfl).1
    have c320 := (blk (i := 0) b103 rfl).1
    have c321 := (blk (i := 1) b103 rfl).1
    have c322 := (blk (i := 0) b285 rfl).1
    have c323 := (blk (i := 1) b285 rfl).1
    go_wp2_with fail
    go_ret
    exact ⟨by first | rfl | simp, low⟩
end Go.Proofs.Ytkcknejkldhmaab

/- The law FnExactWordMux: the walk. -/
import Derived.Test.YtkcknejkldhmaabProg
import Derived.Test.YtkcknejkldhmaabB1
import Derived.Test.YtkcknejkldhmaabC1
import Derived.Test.YtkcknejkldhmaabCwZ
namespace Go.Proofs.Ytkcknejkldhmaab
open Go Go.RowKit
set_option maxRecDepth 100000 in
set_option maxHeartbeats 2000000 in
theorem FnExactWordMux_walk (A0_0 : Option Addr) (n0_0 c0_0 : Nat) (z0_0 : List Int) (A0_1 : Option Addr) (n0_1 c0_1 : Nat) (z0_1 : List Int) (a1 : Int) (A2 : Option Addr) (n2 c2 : Nat) (z2 : List Int) (A3 : Option Addr) (n3 c3 : Nat) (z3 : List Int) (w : World) (h0_0 : Ints w A0_0 z0_0) (l0_0 : z0_0.length = n0_0 * 3) (m0_0 : n0_0 ≤ 9223372036854775807) (h0_1 : Ints w A0_1 z0_1) (l0_1 : z0_1.length = n0_1) (m0_1 : n0_1 ≤ 9223372036854775807) (_h1 : (Lit.int .i64 a1).wf = true) (h2 : Ints w A2 z2) (l2 : z2.length = n2) (m2 : n2 ≤ 9223372036854775807) (h3 : Ints w A3 z3) (l3 : z3.length = n3) (m3 : n3 ≤ 9223372036854775807) :
    Calls Try.prog 10 #[.agg #[.slice A0_0 n0_0 c0_0, .slice A0_1 n0_1 c0_1], .int .i64 a1, .slice A2 n2 c2, .slice A3 n3 c3] w fun e w' => e = .returned (.bool true) ∧ Below w.heap.size w w' := by
  have low : Below w.heap.size w (w.alloc (.cells #[.slice A0_0 n0_0 c0_0, .slice A0_1 n0_1 c0_1] 41)) := (low_alloc (Below.refl _ _) _)
  by_cases hn2 : 1048576 < n2
  · clear h0_0 l0_0 h0_1 l0_1 h2 l2 h3 l3
    go_enter Try.func10, Try.ntmps10
    go_wp2_with fail
    go_ret
    exact ⟨rfl, low⟩
  have mm2 : n2 ≤ 1048576 := by omega
  clear hn2 m2
  by_cases hn3 : 1048576 < n3
  · clear h0_0 l0_0 h0_1 l0_1 h2 l2 h3 l3
    go_enter Try.func10, Try.ntmps10
    go_wp2_with fail
    go_ret
    exact ⟨rfl, low⟩
  have mm3 : n3 ≤ 1048576 := by omega
  clear hn3 m3
  have L0_0 := Lib.hid l0_0
  have i0_0 := h0_0.bound.below low
  have L0_1 := Lib.hid l0_1
  have i0_1 := h0_1.bound.below low
  have L2 := Lib.hid l2
  have i2 := h2.bound.below low
  have L3 := Lib.hid l3
  have i3 := h3.bound.below low
  clear h0_0 l0_0 h0_1 l0_1 h2 l2 h3 l3
  have b0 := new_at w (.cells #[.slice A0_0 n0_0 c0_0, .slice A0_1 n0_1 c0_1] 41) (w.heap.size) (by simp)
  go_enter Try.func10, Try.ntmps10
  have c1 := (blk (i := 0) b0 rfl).1
  have c2 := (blk (i := 1) b0 rfl).1
  go_wp2_with fail
  generalize hw0 : (w.alloc (.cells #[.slice A0_0 n0_0 c0_0, .slice A0_1 n0_1 c0_1] 41)) = v0 at *
  clear hw0
  have q0 := low.size
  have q00 := heap_lt b0
  clear c1 c2
  have c6 := (blk (i := 0) b0 rfl).1
  have c7 := (blk (i := 1) b0 rfl).1
  go_wp2_with fail
  have s3 := szCircuit_any 1048576 A0_0 A0_1 c0_0 c0_1 n0_0 n0_1 v0 (by omega) m0_0 m0_1
  unfold Sized at s3
  by_cases hn0 : n0_0 + n0_1 ≤ 1048576
  case neg =>
    rw [show szRes 1048576 (n0_0 + n0_1) = -1 by rw [szRes, if_neg hn0]] at s3
    refine s3.mono ?_
    rintro e w5 ⟨rfl, hb⟩
    go_wp2_with fail
    go_ret
    exact ⟨rfl, low.trans (hb.mono low.size)⟩
  rw [show szRes 1048576 (n0_0 + n0_1) = ((1048576 - (n0_0 + n0_1) : Nat) : Int) by rw [szRes, if_pos hn0]] at s3
  have mm0_0 : n0_0 ≤ 1048576 := by omega
  have mm0_1 : n0_1 ≤ 1048576 := by omega
  have zf4 : 1048576 - (n0_0 + n0_1) ≤ 1048576 := by omega
  clear hn0 m0_0 m0_1
  generalize 1048576 - (n0_0 + n0_1) = f4 at *
  refine s3.mono ?_
  rintro e w5 ⟨rfl, hb⟩
  clear s3
  replace b0 := heap_below b0 hb
  replace i0_0 := i0_0.below (hb.mono low.size)
  replace i0_1 := i0_1.below (hb.mono low.size)
  replace i2 := i2.below (hb.mono low.size)
  replace i3 := i3.below (hb.mono low.size)
  replace low := low.trans (hb.mono low.size)
  have q8 := hb.size
  clear hb
  have yf4 : (0 : Int) ≤ f4 := by omega
  obtain ⟨R0, hR0, bR0⟩ : ∃ r : List Int, (wMux z0_0 n0_0 z0_1 a1 z2 z3).1 = r ∧ r.length ≤ 5700000 := ⟨_, rfl, (wMux_len z0_1 z2 z3 L0_0.out (by omega) a1).1⟩
  obtain ⟨R1, hR1, bR1⟩ : ∃ r : List Int, z0_1 = r ∧ r.length ≤ 1900000 := ⟨_, rfl, by have := L0_1.out; omega⟩
  obtain ⟨R2, hR2, bR2⟩ : ∃ r : List Int, (wMux z0_0 n0_0 z0_1 a1 z2 z3).2 = r ∧ r.length ≤ 1900000 := ⟨_, rfl, (wMux_len z0_1 z2 z3 L0_0.out (by omega) a1).2⟩
  have E := Lib.hid (show ∀ w e w', Post_Circuit_A ((wMux z0_0 n0_0 z0_1 a1 z2 z3).1) (z0_1) ((wMux z0_0 n0_0 z0_1 a1 z2 z3).2) w e w' → Post_Circuit_A R0 R1 R2 w e w' from by subst hR0 hR1 hR2; intro _ _ _ h; exact h)
  clear hR0 hR1 hR2
  clear c6 c7
  have c12 := (blk (i := 0) b0 rfl).1
  have c13 := (blk (i := 1) b0 rfl).1
  go_wp2_with fail
  refine (toCircuit_own A0_0 A0_1 c0_0 c0_1 n0_0 n0_1 z0_0 z0_1 w5 (i0_0.ints low.size) L0_0.out (by omega) (i0_1.ints low.size) L0_1.out (by omega)).mono ?_
  rintro e w14 ⟨X9, X10, rfl, o11, hb⟩
  replace b0 := heap_below b0 hb
  replace i0_0 := i0_0.below (hb.mono low.size)
  replace i0_1 := i0_1.below (hb.mono low.size)
  replace i2 := i2.below (hb.mono low.size)
  replace i3 := i3.below (hb.mono low.size)
  replace low := low.trans (hb.mono low.size)
  have q15 := hb.size
  clear hb
  clear c12 c13
  have c18 := (blk (i := 0) b0 rfl).1
  have c19 := (blk (i := 1) b0 rfl).1
  go_wp2_with fail
  refine (toIntS_ownA A2 n2 c2 z2 w14 (i2.ints low.size) L2.out (by omega)).mono ?_
  rintro e w20 ⟨X16, rfl, o17, hb⟩
  replace b0 := heap_below b0 hb
  replace i0_0 := i0_0.below (hb.mono low.size)
  replace i0_1 := i0_1.below (hb.mono low.size)
  replace i2 := i2.below (hb.mono low.size)
  replace i3 := i3.below (hb.mono low.size)
  replace o11 := o11.below hb
  replace low := low.trans (hb.mono low.size)
  have q21 := hb.size
  clear hb
  clear c18 c19
  have c24 := (blk (i := 0) b0 rfl).1
  have c25 := (blk (i := 1) b0 rfl).1
  go_wp2_with fail
  refine (toIntS_ownA A3 n3 c3 z3 w20 (i3.ints low.size) L3.out (by omega)).mono ?_
  rintro e w26 ⟨X22, rfl, o23, hb⟩
  replace b0 := heap_below b0 hb
  replace i0_0 := i0_0.below (hb.mono low.size)
  replace i0_1 := i0_1.below (hb.mono low.size)
  replace i2 := i2.below (hb.mono low.size)
  replace i3 := i3.below (hb.mono low.size)
  replace o11 := o11.below hb
  replace o17 := o17.below hb
  replace low := low.trans (hb.mono low.size)
  have q27 := hb.size
  clear hb
  clear c24 c25
  have c29 := (blk (i := 0) b0 rfl).1
  have c30 := (blk (i := 1) b0 rfl).1
  go_wp2_with fail
  refine (ex_spec_WordMux X9 n0_0 n0_0 z0_0 X10 n0_1 n0_1 z0_1 a1 X16 n2 n2 z2 X22 n3 n3 z3 w26 (o11.o0.ints) L0_0.out (by omega) (o11.o1.ints) L0_1.out (by omega) (o17.ints) L2.out (by omega) (o23.ints) L3.out (by omega)).mono ?_
  intro e w28 h
  obtain ⟨G31, G34, n32, n35, d33, d36, G38, n39, d40, rfl, o37, o41, ap42, hb⟩ := E.out _ _ _ h
  clear h
  replace b0 := heap_below b0 hb
  replace i0_0 := i0_0.below (hb.mono low.size)
  replace i0_1 := i0_1.below (hb.mono low.size)
  replace i2 := i2.below (hb.mono low.size)
  replace i3 := i3.below (hb.mono low.size)
  replace o11 := o11.below hb
  replace o17 := o17.below hb
  replace o23 := o23.below hb
  replace low := low.trans (hb.mono low.size)
  have q43 := hb.size
  clear hb
  clear o11
  clear o17
  clear o23
  have L44 := Lib.hid (o37.o0.len)
  have bnL44 : n32 * 3 ≤ 5700000 := by rw [← L44.out]; exact bR0
  have L45 := Lib.hid (o37.o1.len1)
  have bnL45 : n35 ≤ 1900000 := by rw [← L45.out]; exact bR1
  have L46 := Lib.hid (o41.len1)
  have bnL46 : n39 ≤ 1900000 := by rw [← L46.out]; exact bR2
  replace b0 := heap_alloc b0 (.cells #[.slice G31 n32 d33, .slice G34 n35 d36] 28)
  replace i0_0 := i0_0.below ((below_alloc _ (.cells #[.slice G31 n32 d33, .slice G34 n35 d36] 28)).mono low.size)
  replace i0_1 := i0_1.below ((below_alloc _ (.cells #[.slice G31 n32 d33, .slice G34 n35 d36] 28)).mono low.size)
  replace i2 := i2.below ((below_alloc _ (.cells #[.slice G31 n32 d33, .slice G34 n35 d36] 28)).mono low.size)
  replace i3 := i3.below ((below_alloc _ (.cells #[.slice G31 n32 d33, .slice G34 n35 d36] 28)).mono low.size)
  replace o37 := o37.alloc (.cells #[.slice G31 n32 d33, .slice G34 n35 d36] 28)
  replace o41 := o41.alloc (.cells #[.slice G31 n32 d33, .slice G34 n35 d36] 28)
  replace low := low_alloc low (.cells #[.slice G31 n32 d33, .slice G34 n35 d36] 28)
  have b47 := heap_alloc_new w28 (.cells #[.slice G31 n32 d33, .slice G34 n35 d36] 28)
  have q48 := heap_lt b47
  clear c29 c30
  have c49 := (blk (i := 0) b0 rfl).1
  have c50 := (blk (i := 1) b0 rfl).1
  have c51 := (blk (i := 0) b47 rfl).1
  have c52 := (blk (i := 1) b47 rfl).1
  go_wp2_with fail
  generalize hg : (w28.alloc (.cells #[.slice G31 n32 d33, .slice G34 n35 d36] 28)) = w53 at *
  clear hg
  clear c49 c50 c51 c52
  have c57 := (blk (i := 0) b0 rfl).1
  have c58 := (blk (i := 1) b0 rfl).1
  have c59 := (blk (i := 0) b47 rfl).1
  have c60 := (blk (i := 1) b47 rfl).1
  go_wp2_with fail
  refine (toCircuit_own A0_0 A0_1 c0_0 c0_1 n0_0 n0_1 z0_0 z0_1 w53 (i0_0.ints low.size) L0_0.out (by omega) (i0_1.ints low.size) L0_1.out (by omega)).mono ?_
  rintro e w61 ⟨X54, X55, rfl, o56, hb⟩
  replace b0 := heap_below b0 hb
  replace i0_0 := i0_0.below (hb.mono low.size)
  replace i0_1 := i0_1.below (hb.mono low.size)
  replace i2 := i2.below (hb.mono low.size)
  replace i3 := i3.below (hb.mono low.size)
  replace o37 := o37.below hb
  replace o41 := o41.below hb
  replace b47 := heap_below b47 hb
  replace low := low.trans (hb.mono low.size)
  have q62 := hb.size
  clear hb
  replace b0 := heap_alloc b0 (.cells #[.slice X54 n0_0 n0_0, .slice X55 n0_1 n0_1] 28)
  replace i0_0 := i0_0.below ((below_alloc _ (.cells #[.slice X54 n0_0 n0_0, .slice X55 n0_1 n0_1] 28)).mono low.size)
  replace i0_1 := i0_1.below ((below_alloc _ (.cells #[.slice X54 n0_0 n0_0, .slice X55 n0_1 n0_1] 28)).mono low.size)
  replace i2 := i2.below ((below_alloc _ (.cells #[.slice X54 n0_0 n0_0, .slice X55 n0_1 n0_1] 28)).mono low.size)
  replace i3 := i3.below ((below_alloc _ (.cells #[.slice X54 n0_0 n0_0, .slice X55 n0_1 n0_1] 28)).mono low.size)
  replace o37 := o37.alloc (.cells #[.slice X54 n0_0 n0_0, .slice X55 n0_1 n0_1] 28)
  replace o41 := o41.alloc (.cells #[.slice X54 n0_0 n0_0, .slice X55 n0_1 n0_1] 28)
  replace b47 := heap_alloc b47 (.cells #[.slice X54 n0_0 n0_0, .slice X55 n0_1 n0_1] 28)
  replace o56 := o56.alloc (.cells #[.slice X54 n0_0 n0_0, .slice X55 n0_1 n0_1] 28)
  replace low := low_alloc low (.cells #[.slice X54 n0_0 n0_0, .slice X55 n0_1 n0_1] 28)
  have b63 := heap_alloc_new w61 (.cells #[.slice X54 n0_0 n0_0, .slice X55 n0_1 n0_1] 28)
  have q64 := heap_lt b63
  clear c57 c58 c59 c60
  have c65 := (blk (i := 0) b0 rfl).1
  have c66 := (blk (i := 1) b0 rfl).1
  have c67 := (blk (i := 0) b47 rfl).1
  have c68 := (blk (i := 1) b47 rfl).1
  have c69 := (blk (i := 0) b63 rfl).1
  have c70 := (blk (i := 1) b63 rfl).1
  go_wp2_with fail
  generalize hg : (w61.alloc (.cells #[.slice X54 n0_0 n0_0, .slice X55 n0_1 n0_1] 28)) = w71 at *
  clear hg
  clear c65 c66 c67 c68 c69 c70
  have c74 := (blk (i := 0) b0 rfl).1
  have c75 := (blk (i := 1) b0 rfl).1
  have c76 := (blk (i := 0) b47 rfl).1
  have c77 := (blk (i := 1) b47 rfl).1
  have c78 := (blk (i := 0) b63 rfl).1
  have c79 := (blk (i := 1) b63 rfl).1
  go_wp2_with fail
  refine (toIntS_ownA A2 n2 c2 z2 w71 (i2.ints low.size) L2.out (by omega)).mono ?_
  rintro e w80 ⟨X72, rfl, o73, hb⟩
  replace b0 := heap_below b0 hb
  replace i0_0 := i0_0.below (hb.mono low.size)
  replace i0_1 := i0_1.below (hb.mono low.size)
  replace i2 := i2.below (hb.mono low.size)
  replace i3 := i3.below (hb.mono low.size)
  replace o37 := o37.below hb
  replace o41 := o41.below hb
  replace b47 := heap_below b47 hb
  replace o56 := o56.below hb
  replace b63 := heap_below b63 hb
  replace low := low.trans (hb.mono low.size)
  have q81 := hb.size
  clear hb
  clear c74 c75 c76 c77 c78 c79
  have c84 := (blk (i := 0) b0 rfl).1
  have c85 := (blk (i := 1) b0 rfl).1
  have c86 := (blk (i := 0) b47 rfl).1
  have c87 := (blk (i := 1) b47 rfl).1
  have c88 := (blk (i := 0) b63 rfl).1
  have c89 := (blk (i := 1) b63 rfl).1
  go_wp2_with fail
  refine (toIntS_ownA A3 n3 c3 z3 w80 (i3.ints low.size) L3.out (by omega)).mono ?_
  rintro e w90 ⟨X82, rfl, o83, hb⟩
  replace b0 := heap_below b0 hb
  replace i0_0 := i0_0.below (hb.mono low.size)
  replace i0_1 := i0_1.below (hb.mono low.size)
  replace i2 := i2.below (hb.mono low.size)
  replace i3 := i3.below (hb.mono low.size)
  replace o37 := o37.below hb
  replace o41 := o41.below hb
  replace b47 := heap_below b47 hb
  replace o56 := o56.below hb
  replace b63 := heap_below b63 hb
  replace o73 := o73.below hb
  replace low := low.trans (hb.mono low.size)
  have q91 := hb.size
  clear hb
  clear c84 c85 c86 c87 c88 c89
  have c93 := (blk (i := 0) b0 rfl).1
  have c94 := (blk (i := 1) b0 rfl).1
  have c95 := (blk (i := 0) b47 rfl).1
  have c96 := (blk (i := 1) b47 rfl).1
  have c97 := (blk (i := 0) b63 rfl).1
  have c98 := (blk (i := 1) b63 rfl).1
  go_wp2_with fail
  refine (ex_impl_WordMux X54 n0_0 n0_0 z0_0 X55 n0_1 n0_1 z0_1 a1 X72 n2 n2 z2 X82 n3 n3 z3 w90 (o56.o0.ints) L0_0.out (by omega) (o56.o1.ints) L0_1.out (by omega) (o73.ints) L2.out (by omega) (o83.ints) L3.out (by omega)).mono ?_
  intro e w92 h
  obtain ⟨G99, G102, n100, n103, d101, d104, G106, n107, d108, rfl, o105, o109, ap110, hb⟩ := E.out _ _ _ h
  clear h
  replace b0 := heap_below b0 hb
  replace i0_0 := i0_0.below (hb.mono low.size)
  replace i0_1 := i0_1.below (hb.mono low.size)
  replace i2 := i2.below (hb.mono low.size)
  replace i3 := i3.below (hb.mono low.size)
  replace o37 := o37.below hb
  replace o41 := o41.below hb
  replace b47 := heap_below b47 hb
  replace o56 := o56.below hb
  replace b63 := heap_below b63 hb
  replace o73 := o73.below hb
  replace o83 := o83.below hb
  replace low := low.trans (hb.mono low.size)
  have q111 := hb.size
  clear hb
  have hl112 := o105.o0.len
  obtain rfl : n32 = n100 := by have := L44.out; omega
  clear hl112
  have hl113 := o105.o1.len1
  obtain rfl : n35 = n103 := by rw [← hl113, L45.out]
  clear hl113
  have hl114 := o109.len1
  obtain rfl : n39 = n107 := by rw [← hl114, L46.out]
  clear hl114
  replace b0 := heap_alloc b0 (.cells #[.slice G99 n32 d101, .slice G102 n35 d104] 28)
  replace i0_0 := i0_0.below ((below_alloc _ (.cells #[.slice G99 n32 d101, .slice G102 n35 d104] 28)).mono low.size)
  replace i0_1 := i0_1.below ((below_alloc _ (.cells #[.slice G99 n32 d101, .slice G102 n35 d104] 28)).mono low.size)
  replace i2 := i2.below ((below_alloc _ (.cells #[.slice G99 n32 d101, .slice G102 n35 d104] 28)).mono low.size)
  replace i3 := i3.below ((below_alloc _ (.cells #[.slice G99 n32 d101, .slice G102 n35 d104] 28)).mono low.size)
  replace o37 := o37.alloc (.cells #[.slice G99 n32 d101, .slice G102 n35 d104] 28)
  replace o41 := o41.alloc (.cells #[.slice G99 n32 d101, .slice G102 n35 d104] 28)
  replace b47 := heap_alloc b47 (.cells #[.slice G99 n32 d101, .slice G102 n35 d104] 28)
  replace o56 := o56.alloc (.cells #[.slice G99 n32 d101, .slice G102 n35 d104] 28)
  replace b63 := heap_alloc b63 (.cells #[.slice G99 n32 d101, .slice G102 n35 d104] 28)
  replace o73 := o73.alloc (.cells #[.slice G99 n32 d101, .slice G102 n35 d104] 28)
  replace o83 := o83.alloc (.cells #[.slice G99 n32 d101, .slice G102 n35 d104] 28)
  replace o105 := o105.alloc (.cells #[.slice G99 n32 d101, .slice G102 n35 d104] 28)
  replace o109 := o109.alloc (.cells #[.slice G99 n32 d101, .slice G102 n35 d104] 28)
  replace low := low_alloc low (.cells #[.slice G99 n32 d101, .slice G102 n35 d104] 28)
  have b115 := heap_alloc_new w92 (.cells #[.slice G99 n32 d101, .slice G102 n35 d104] 28)
  have q116 := heap_lt b115
  clear c93 c94 c95 c96 c97 c98
  have c117 := (blk (i := 0) b0 rfl).1
  have c118 := (blk (i := 1) b0 rfl).1
  have c119 := (blk (i := 0) b47 rfl).1
  have c120 := (blk (i := 1) b47 rfl).1
  have c121 := (blk (i := 0) b63 rfl).1
  have c122 := (blk (i := 1) b63 rfl).1
  have c123 := (blk (i := 0) b115 rfl).1
  have c124 := (blk (i := 1) b115 rfl).1
  go_wp2_with fail
  generalize hg : (w92.alloc (.cells #[.slice G99 n32 d101, .slice G102 n35 d104] 28)) = w125 at *
  clear hg
  clear c117 c118 c119 c120 c121 c122 c123 c124
  have c127 := (blk (i := 0) b0 rfl).1
  have c128 := (blk (i := 1) b0 rfl).1
  have c129 := (blk (i := 0) b47 rfl).1
  have c130 := (blk (i := 1) b47 rfl).1
  have c131 := (blk (i := 0) b63 rfl).1
  have c132 := (blk (i := 1) b63 rfl).1
  have c133 := (blk (i := 0) b115 rfl).1
  have c134 := (blk (i := 1) b115 rfl).1
  go_wp2_with fail
  refine (eqCircuit_same G99 G102 d101 d104 G31 G34 d33 d36 n32 n35 R0 R1 w125 o105.o0.ints o37.o0.ints L44.out (by omega) o105.o1.ints o37.o1.ints L45.out (by omega)).mono ?_
  rintro e w126 ⟨rfl, hb⟩
  replace b0 := heap_below b0 hb
  replace i0_0 := i0_0.below (hb.mono low.size)
  replace i0_1 := i0_1.below (hb.mono low.size)
  replace i2 := i2.below (hb.mono low.size)
  replace i3 := i3.below (hb.mono low.size)
  replace o37 := o37.below hb
  replace o41 := o41.below hb
  replace b47 := heap_below b47 hb
  replace o56 := o56.below hb
  replace b63 := heap_below b63 hb
  replace o73 := o73.below hb
  replace o83 := o83.below hb
  replace o105 := o105.below hb
  replace o109 := o109.below hb
  replace b115 := heap_below b115 hb
  replace low := low.trans (hb.mono low.size)
  have q135 := hb.size
  clear hb
  clear c127 c128 c129 c130 c131 c132 c133 c134
  have c137 := (blk (i := 0) b0 rfl).1
  have c138 := (blk (i := 1) b0 rfl).1
  have c139 := (blk (i := 0) b47 rfl).1
  have c140 := (blk (i := 1) b47 rfl).1
  have c141 := (blk (i := 0) b63 rfl).1
  have c142 := (blk (i := 1) b63 rfl).1
  have c143 := (blk (i := 0) b115 rfl).1
  have c144 := (blk (i := 1) b115 rfl).1
  go_wp2_with fail
  refine (eqIntS_same n39 n39 d108 d40 G106 G38 R2 R2 w126 o109.ints o41.ints rfl L46.out L46.out (by omega)).mono ?_
  rintro e w136 ⟨rfl, hb⟩
  replace b0 := heap_below b0 hb
  replace i0_0 := i0_0.below (hb.mono low.size)
  replace i0_1 := i0_1.below (hb.mono low.size)
  replace i2 := i2.below (hb.mono low.size)
  replace i3 := i3.below (hb.mono low.size)
  replace o37 := o37.below hb
  replace o41 := o41.below hb
  replace b47 := heap_below b47 hb
  replace o56 := o56.below hb
  replace b63 := heap_below b63 hb
  replace o73 := o73.below hb
  replace o83 := o83.below hb
  replace o105 := o105.below hb
  replace o109 := o109.below hb
  replace b115 := heap_below b115 hb
  replace low := low.trans (hb.mono low.size)
  have q145 := hb.size
  clear hb
  clear c137 c138 c139 c140 c141 c142 c143 c144
  have c149 := (blk (i := 0) b0 rfl).1
  have c150 := (blk (i := 1) b0 rfl).1
  have c151 := (blk (i := 0) b47 rfl).1
  have c152 := (blk (i := 1) b47 rfl).1
  have c153 := (blk (i := 0) b63 rfl).1
  have c154 := (blk (i := 1) b63 rfl).1
  have c155 := (blk (i := 0) b115 rfl).1
  have c156 := (blk (i := 1) b115 rfl).1
  go_upto_region 16 with (fail)
  go_cut [72] (fun s wx => s = .bool false ∧ Below w136.heap.size w136 wx)
  case first =>
    have lowd := low.drew
    have o56d := o56.drew
    go_wp2_with fail
    go_region_law (first
      | (go_simp; go_at_call 26; (with_reducible refine (toCircuit_own A0_0 A0_1 c0_0 c0_1 n0_0 n0_1 z0_0 z0_1 _ ((ints_drew i0_0 low)) L0_0.out (by omega) ((ints_drew i0_1 low)) L0_1.out (by omega)).mono ?_); rintro e w157 ⟨X146, X147, rfl, o148, hb1⟩; (have ox := o56d.below hb1); (have bx0 := heap_below (w := w136.drew) b63 hb1); (have cx00 := (blk (i := 0) bx0 rfl).1); (have cx01 := (blk (i := 1) bx0 rfl).1))
      | (go_simp; go_at_call 27; (with_reducible refine (eqCircuit_same X54 X55 n0_0 n0_1 X146 X147 n0_0 n0_1 n0_0 n0_1 z0_0 z0_1 _ ox.o0.ints o148.o0.ints L0_0.out (by omega) ox.o1.ints o148.o1.ints L0_1.out (by omega)).mono ?_); rintro e w158 ⟨rfl, hb2⟩))
    all_goals
      have hb := ((Below.refl w136.heap.size w136).drew.trans hb1).trans (hb2.mono (by have := hb1.size; exact this))
      go_wp2_with fail
      go_meet
      exact ⟨rfl, hb⟩
  case rest =>
    clear c149 c150 c151 c152 c153 c154 c155 c156
    obtain ⟨rfl, hb⟩ := hcut
    obtain ⟨w159, rfl⟩ : ∃ w159 : World, w159 = wc := ⟨_, rfl⟩
    replace b0 := heap_below b0 hb
    replace i0_0 := i0_0.below (hb.mono low.size)
    replace i0_1 := i0_1.below (hb.mono low.size)
    replace i2 := i2.below (hb.mono low.size)
    replace i3 := i3.below (hb.mono low.size)
    replace o37 := o37.below hb
    replace o41 := o41.below hb
    replace b47 := heap_below b47 hb
    replace o56 := o56.below hb
    replace b63 := heap_below b63 hb
    replace o73 := o73.below hb
    replace o83 := o83.below hb
    replace o105 := o105.below hb
    replace o109 := o109.below hb
    replace b115 := heap_below b115 hb
    replace low := low.trans (hb.mono low.size)
    have q160 := hb.size
    clear hb
    have c163 := (blk (i := 0) b0 rfl).1
    have c164 := (blk (i := 1) b0 rfl).1
    have c165 := (blk (i := 0) b47 rfl).1
    have c166 := (blk (i := 1) b47 rfl).1
    have c167 := (blk (i := 0) b63 rfl).1
    have c168 := (blk (i := 1) b63 rfl).1
    have c169 := (blk (i := 0) b115 rfl).1
    have c170 := (blk (i := 1) b115 rfl).1
    go_wp2_with fail
    refine (toIntS_ownA A2 n2 c2 z2 w159 (i2.ints low.size) L2.out (by omega)).mono ?_
    rintro e w171 ⟨X161, rfl, o162, hb⟩
    replace b0 := heap_below b0 hb
    replace i0_0 := i0_0.below (hb.mono low.size)
    replace i0_1 := i0_1.below (hb.mono low.size)
    replace i2 := i2.below (hb.mono low.size)
    replace i3 := i3.below (hb.mono low.size)
    replace o37 := o37.below hb
    replace o41 := o41.below hb
    replace b47 := heap_below b47 hb
    replace o56 := o56.below hb
    replace b63 := heap_below b63 hb
    replace o73 := o73.below hb
    replace o83 := o83.below hb
    replace o105 := o105.below hb
    replace o109 := o109.below hb
    replace b115 := heap_below b115 hb
    replace low := low.trans (hb.mono low.size)
    have q172 := hb.size
    clear hb
    clear c163 c164 c165 c166 c167 c168 c169 c170
    have c174 := (blk (i := 0) b0 rfl).1
    have c175 := (blk (i := 1) b0 rfl).1
    have c176 := (blk (i := 0) b47 rfl).1
    have c177 := (blk (i := 1) b47 rfl).1
    have c178 := (blk (i := 0) b63 rfl).1
    have c179 := (blk (i := 1) b63 rfl).1
    have c180 := (blk (i := 0) b115 rfl).1
    have c181 := (blk (i := 1) b115 rfl).1
    go_wp2_with fail
    refine (eqIntS_same n2 n2 n2 n2 X72 X161 z2 z2 w171 o73.ints o162.ints rfl L2.out L2.out (by omega)).mono ?_
    rintro e w173 ⟨rfl, hb⟩
    replace b0 := heap_below b0 hb
    replace i0_0 := i0_0.below (hb.mono low.size)
    replace i0_1 := i0_1.below (hb.mono low.size)
    replace i2 := i2.below (hb.mono low.size)
    replace i3 := i3.below (hb.mono low.size)
    replace o37 := o37.below hb
    replace o41 := o41.below hb
    replace b47 := heap_below b47 hb
    replace o56 := o56.below hb
    replace b63 := heap_below b63 hb
    replace o73 := o73.below hb
    replace o83 := o83.below hb
    replace o105 := o105.below hb
    replace o109 := o109.below hb
    replace b115 := heap_below b115 hb
    replace o162 := o162.below hb
    replace low := low.trans (hb.mono low.size)
    have q182 := hb.size
    clear hb
    clear o162
    clear c174 c175 c176 c177 c178 c179 c180 c181
    have c185 := (blk (i := 0) b0 rfl).1
    have c186 := (blk (i := 1) b0 rfl).1
    have c187 := (blk (i := 0) b47 rfl).1
    have c188 := (blk (i := 1) b47 rfl).1
    have c189 := (blk (i := 0) b63 rfl).1
    have c190 := (blk (i := 1) b63 rfl).1
    have c191 := (blk (i := 0) b115 rfl).1
    have c192 := (blk (i := 1) b115 rfl).1
    go_wp2_with fail
    refine (toIntS_ownA A3 n3 c3 z3 w173 (i3.ints low.size) L3.out (by omega)).mono ?_
    rintro e w193 ⟨X183, rfl, o184, hb⟩
    replace b0 := heap_below b0 hb
    replace i0_0 := i0_0.below (hb.mono low.size)
    replace i0_1 := i0_1.below (hb.mono low.size)
    replace i2 := i2.below (hb.mono low.size)
    replace i3 := i3.below (hb.mono low.size)
    replace o37 := o37.below hb
    replace o41 := o41.below hb
    replace b47 := heap_below b47 hb
    replace o56 := o56.below hb
    replace b63 := heap_below b63 hb
    replace o73 := o73.below hb
    replace o83 := o83.below hb
    replace o105 := o105.below hb
    replace o109 := o109.below hb
    replace b115 := heap_below b115 hb
    replace low := low.trans (hb.mono low.size)
    have q194 := hb.size
    clear hb
    clear c185 c186 c187 c188 c189 c190 c191 c192
    have c196 := (blk (i := 0) b0 rfl).1
    have c197 := (blk (i := 1) b0 rfl).1
    have c198 := (blk (i := 0) b47 rfl).1
    have c199 := (blk (i := 1) b47 rfl).1
    have c200 := (blk (i := 0) b63 rfl).1
    have c201 := (blk (i := 1) b63 rfl).1
    have c202 := (blk (i := 0) b115 rfl).1
    have c203 := (blk (i := 1) b115 rfl).1
    go_wp2_with fail
    refine (eqIntS_same n3 n3 n3 n3 X82 X183 z3 z3 w193 o83.ints o184.ints rfl L3.out L3.out (by omega)).mono ?_
    rintro e w195 ⟨rfl, hb⟩
    replace b0 := heap_below b0 hb
    replace i0_0 := i0_0.below (hb.mono low.size)
    replace i0_1 := i0_1.below (hb.mono low.size)
    replace i2 := i2.below (hb.mono low.size)
    replace i3 := i3.below (hb.mono low.size)
    replace o37 := o37.below hb
    replace o41 := o41.below hb
    replace b47 := heap_below b47 hb
    replace o56 := o56.below hb
    replace b63 := heap_below b63 hb
    replace o73 := o73.below hb
    replace o83 := o83.below hb
    replace o105 := o105.below hb
    replace o109 := o109.below hb
    replace b115 := heap_below b115 hb
    replace o184 := o184.below hb
    replace low := low.trans (hb.mono low.size)
    have q204 := hb.size
    clear hb
    clear o184
    clear c196 c197 c198 c199 c200 c201 c202 c203
    have c206 := (blk (i := 0) b0 rfl).1
    have c207 := (blk (i := 1) b0 rfl).1
    have c208 := (blk (i := 0) b47 rfl).1
    have c209 := (blk (i := 1) b47 rfl).1
    have c210 := (blk (i := 0) b63 rfl).1
    have c211 := (blk (i := 1) b63 rfl).1
    have c212 := (blk (i := 0) b115 rfl).1
    have c213 := (blk (i := 1) b115 rfl).1
    go_wp2_with fail
    refine (markCircuit_own w53.heap.size (w61.heap.size) (1) X54 X55 n0_0 n0_1 n0_0 n0_1 z0_0 z0_1 w195 o56 (by omega) (by omega)).mono ?_
    rintro e w205 ⟨rfl, o214, mg, ms⟩
    clear o56
    clear ms
    replace b0 := mg.heap b0 (by omega)
    replace i0_0 := i0_0.mid mg (by omega) low.size
    replace i0_1 := i0_1.mid mg (by omega) low.size
    replace i2 := i2.mid mg (by omega) low.size
    replace i3 := i3.mid mg (by omega) low.size
    replace o37 := o37.mid mg (by omega)
    replace o41 := o41.mid mg (by omega)
    replace b47 := mg.heap b47 (by omega)
    replace b63 := mg.heap b63 (by omega)
    replace o73 := o73.mid mg (by omega)
    replace o83 := o83.mid mg (by omega)
    replace o105 := o105.mid mg (by omega)
    replace o109 := o109.mid mg (by omega)
    replace b115 := mg.heap b115 (by omega)
    replace low := mg.below low (by omega) low.size
    have q215 := mg.size
    clear mg
    clear o214
    clear b63
    clear c206 c207 c208 c209 c210 c211 c212 c213
    have c217 := (blk (i := 0) b0 rfl).1
    have c218 := (blk (i := 1) b0 rfl).1
    have c219 := (blk (i := 0) b47 rfl).1
    have c220 := (blk (i := 1) b47 rfl).1
    have c221 := (blk (i := 0) b115 rfl).1
    have c222 := (blk (i := 1) b115 rfl).1
    go_wp2_with fail
    refine (markIntS_ownA _ _ n2 (1 + n0_0 * 3 + n0_1) _ z2 w205 o73 (by omega)).mono ?_
    rintro e w216 ⟨rfl, o223, hg⟩
    have mg := Mid.of_grown (lo := w71.heap.size) (hi := w80.heap.size) hg (fun k e => o73.ltB e)
    clear o73 hg
    replace b0 := mg.heap b0 (by omega)
    replace i0_0 := i0_0.mid mg (by omega) low.size
    replace i0_1 := i0_1.mid mg (by omega) low.size
    replace i2 := i2.mid mg (by omega) low.size
    replace i3 := i3.mid mg (by omega) low.size
    replace o37 := o37.mid mg (by omega)
    replace o41 := o41.mid mg (by omega)
    replace b47 := mg.heap b47 (by omega)
    replace o83 := o83.mid mg (by omega)
    replace o105 := o105.mid mg (by omega)
    replace o109 := o109.mid mg (by omega)
    replace b115 := mg.heap b115 (by omega)
    replace low := mg.below low (by omega) low.size
    have q224 := mg.size
    clear mg
    clear o223
    clear c217 c218 c219 c220 c221 c222
    have c226 := (blk (i := 0) b0 rfl).1
    have c227 := (blk (i := 1) b0 rfl).1
    have c228 := (blk (i := 0) b47 rfl).1
    have c229 := (blk (i := 1) b47 rfl).1
    have c230 := (blk (i := 0) b115 rfl).1
    have c231 := (blk (i := 1) b115 rfl).1
    go_wp2_with fail
    refine (markIntS_ownA _ _ n3 (1 + n0_0 * 3 + n0_1 + n2) _ z3 w216 o83 (by omega)).mono ?_
    rintro e w225 ⟨rfl, o232, hg⟩
    have mg := Mid.of_grown (lo := w80.heap.size) (hi := w90.heap.size) hg (fun k e => o83.ltB e)
    clear o83 hg
    replace b0 := mg.heap b0 (by omega)
    replace i0_0 := i0_0.mid mg (by omega) low.size
    replace i0_1 := i0_1.mid mg (by omega) low.size
    replace i2 := i2.mid mg (by omega) low.size
    replace i3 := i3.mid mg (by omega) low.size
    replace o37 := o37.mid mg (by omega)
    replace o41 := o41.mid mg (by omega)
    replace b47 := mg.heap b47 (by omega)
    replace o105 := o105.mid mg (by omega)
    replace o109 := o109.mid mg (by omega)
    replace b115 := mg.heap b115 (by omega)
    replace low := mg.below low (by omega) low.size
    have q233 := mg.size
    clear mg
    clear o232
    clear c226 c227 c228 c229 c230 c231
    have c235 := (blk (i := 0) b0 rfl).1
    have c236 := (blk (i := 1) b0 rfl).1
    have c237 := (blk (i := 0) b47 rfl).1
    have c238 := (blk (i := 1) b47 rfl).1
    have c239 := (blk (i := 0) b115 rfl).1
    have c240 := (blk (i := 1) b115 rfl).1
    go_wp2_with fail
    refine (eqCircuit_same G99 G102 d101 d104 G31 G34 d33 d36 n32 n35 R0 R1 w225 o105.o0.ints o37.o0.ints L44.out (by omega) o105.o1.ints o37.o1.ints L45.out (by omega)).mono ?_
    rintro e w234 ⟨rfl, hb⟩
    replace b0 := heap_below b0 hb
    replace i0_0 := i0_0.below (hb.mono low.size)
    replace i0_1 := i0_1.below (hb.mono low.size)
    replace i2 := i2.below (hb.mono low.size)
    replace i3 := i3.below (hb.mono low.size)
    replace o37 := o37.below hb
    replace o41 := o41.below hb
    replace b47 := heap_below b47 hb
    replace o105 := o105.below hb
    replace o109 := o109.below hb
    replace b115 := heap_below b115 hb
    replace low := low.trans (hb.mono low.size)
    have q241 := hb.size
    clear hb
    clear c235 c236 c237 c238 c239 c240
    have c243 := (blk (i := 0) b0 rfl).1
    have c244 := (blk (i := 1) b0 rfl).1
    have c245 := (blk (i := 0) b47 rfl).1
    have c246 := (blk (i := 1) b47 rfl).1
    have c247 := (blk (i := 0) b115 rfl).1
    have c248 := (blk (i := 1) b115 rfl).1
    go_wp2_with fail
    refine (eqIntS_same n39 n39 d108 d40 G106 G38 R2 R2 w234 o109.ints o41.ints rfl L46.out L46.out (by omega)).mono ?_
    rintro e w242 ⟨rfl, hb⟩
    replace b0 := heap_below b0 hb
    replace i0_0 := i0_0.below (hb.mono low.size)
    replace i0_1 := i0_1.below (hb.mono low.size)
    replace i2 := i2.below (hb.mono low.size)
    replace i3 := i3.below (hb.mono low.size)
    replace o37 := o37.below hb
    replace o41 := o41.below hb
    replace b47 := heap_below b47 hb
    replace o105 := o105.below hb
    replace o109 := o109.below hb
    replace b115 := heap_below b115 hb
    replace low := low.trans (hb.mono low.size)
    have q249 := hb.size
    clear hb
    clear c243 c244 c245 c246 c247 c248
    have c251 := (blk (i := 0) b0 rfl).1
    have c252 := (blk (i := 1) b0 rfl).1
    have c253 := (blk (i := 0) b47 rfl).1
    have c254 := (blk (i := 1) b47 rfl).1
    have c255 := (blk (i := 0) b115 rfl).1
    have c256 := (blk (i := 1) b115 rfl).1
    go_wp2_with fail
    refine (markCircuit_own w90.heap.size (w92.heap.size) (1) G99 G102 d101 d104 n32 n35 R0 R1 w242 o105 (by omega) (by omega)).mono ?_
    rintro e w250 ⟨rfl, o257, mg, ms⟩
    clear o105
    replace o109 := o109.spare ms (fun v hv => by simp only [List.mem_cons, List.not_mem_nil, or_false] at hv; rcases hv with rfl | rfl; exact ap110.1; exact ap110.2)
    clear ms
    replace b0 := mg.heap b0 (by omega)
    replace i0_0 := i0_0.mid mg (by omega) low.size
    replace i0_1 := i0_1.mid mg (by omega) low.size
    replace i2 := i2.mid mg (by omega) low.size
    replace i3 := i3.mid mg (by omega) low.size
    replace o37 := o37.mid mg (by omega)
    replace o41 := o41.mid mg (by omega)
    replace b47 := mg.heap b47 (by omega)
    replace b115 := mg.heap b115 (by omega)
    replace low := mg.below low (by omega) low.size
    have q258 := mg.size
    clear mg
    clear c251 c252 c253 c254 c255 c256
    have c260 := (blk (i := 0) b0 rfl).1
    have c261 := (blk (i := 1) b0 rfl).1
    have c262 := (blk (i := 0) b47 rfl).1
    have c263 := (blk (i := 1) b47 rfl).1
    have c264 := (blk (i := 0) b115 rfl).1
    have c265 := (blk (i := 1) b115 rfl).1
    go_wp2_with fail
    refine (markIntS_ownA _ _ n39 (1 + n32 * 3 + n35) _ R2 w250 o109 (by omega)).mono ?_
    rintro e w259 ⟨rfl, o266, hg⟩
    have mg := Mid.of_grown (lo := w90.heap.size) (hi := w92.heap.size) hg (fun k e => o109.ltB e)
    replace o257 := (show OwnCircuit w90.heap.size (w92.heap.size) w259 _ _ _ _ _ _ from ⟨o257.o0.keep hg ap110.1.symm, o257.o1.keep hg ap110.2.symm, o257.a01⟩)
    clear o109 hg
    replace b0 := mg.heap b0 (by omega)
    replace i0_0 := i0_0.mid mg (by omega) low.size
    replace i0_1 := i0_1.mid mg (by omega) low.size
    replace i2 := i2.mid mg (by omega) low.size
    replace i3 := i3.mid mg (by omega) low.size
    replace o37 := o37.mid mg (by omega)
    replace o41 := o41.mid mg (by omega)
    replace b47 := mg.heap b47 (by omega)
    replace b115 := mg.heap b115 (by omega)
    replace low := mg.below low (by omega) low.size
    have q267 := mg.size
    clear mg
    clear c260 c261 c262 c263 c264 c265
    have c268 := (blk (i := 0) b0 rfl).1
    have c269 := (blk (i := 1) b0 rfl).1
    have c270 := (blk (i := 0) b47 rfl).1
    have c271 := (blk (i := 1) b47 rfl).1
    have c272 := (blk (i := 0) b115 rfl).1
    have c273 := (blk (i := 1) b115 rfl).1
    go_wp2_with fail
    refine (heldCircuit_any (1) G99 G102 d101 d104 n32 n35 w259 o257.o0.ints o257.o1.ints (by omega)).mono ?_
    rintro e w274 ⟨rfl, hb⟩
    replace b0 := heap_below b0 hb
    replace i0_0 := i0_0.below (hb.mono low.size)
    replace i0_1 := i0_1.below (hb.mono low.size)
    replace i2 := i2.below (hb.mono low.size)
    replace i3 := i3.below (hb.mono low.size)
    replace o37 := o37.below hb
    replace o41 := o41.below hb
    replace b47 := heap_below b47 hb
    replace b115 := heap_below b115 hb
    replace o257 := o257.below hb
    replace o266 := o266.below hb
    replace low := low.trans (hb.mono low.size)
    have q275 := hb.size
    clear hb
    clear c268 c269 c270 c271 c272 c273
    have c276 := (blk (i := 0) b0 rfl).1
    have c277 := (blk (i := 1) b0 rfl).1
    have c278 := (blk (i := 0) b47 rfl).1
    have c279 := (blk (i := 1) b47 rfl).1
    have c280 := (blk (i := 0) b115 rfl).1
    have c281 := (blk (i := 1) b115 rfl).1
    go_wp2_with fail
    refine (heldIntS_any n39 (1 + n32 * 3 + n35) d108 G106 w274 o266.ints (by omega)).mono ?_
    rintro e w282 ⟨rfl, rfl⟩
    clear c276 c277 c278 c279 c280 c281
    have c286 := (blk (i := 0) b0 rfl).1
    have c287 := (blk (i := 1) b0 rfl).1
    have c288 := (blk (i := 0) b47 rfl).1
    have c289 := (blk (i := 1) b47 rfl).1
    have c290 := (blk (i := 0) b115 rfl).1
    have c291 := (blk (i := 1) b115 rfl).1
    go_wp2_with fail
    refine (toCircuit_own A0_0 A0_1 c0_0 c0_1 n0_0 n0_1 z0_0 z0_1 w274 (i0_0.ints low.size) L0_0.out (by omega) (i0_1.ints low.size) L0_1.out (by omega)).mono ?_
    rintro e w292 ⟨X283, X284, rfl, o285, hb⟩
    replace b0 := heap_below b0 hb
    replace i0_0 := i0_0.below (hb.mono low.size)
    replace i0_1 := i0_1.below (hb.mono low.size)
    replace i2 := i2.below (hb.mono low.size)
    replace i3 := i3.below (hb.mono low.size)
    replace o37 := o37.below hb
    replace o41 := o41.below hb
    replace b47 := heap_below b47 hb
    replace b115 := heap_below b115 hb
    replace o257 := o257.below hb
    replace o266 := o266.below hb
    replace low := low.trans (hb.mono low.size)
    have q293 := hb.size
    clear hb
    clear c286 c287 c288 c289 c290 c291
    have c296 := (blk (i := 0) b0 rfl).1
    have c297 := (blk (i := 1) b0 rfl).1
    have c298 := (blk (i := 0) b47 rfl).1
    have c299 := (blk (i := 1) b47 rfl).1
    have c300 := (blk (i := 0) b115 rfl).1
    have c301 := (blk (i := 1) b115 rfl).1
    go_wp2_with fail
    refine (toIntS_ownA A2 n2 c2 z2 w292 (i2.ints low.size) L2.out (by omega)).mono ?_
    rintro e w302 ⟨X294, rfl, o295, hb⟩
    replace b0 := heap_below b0 hb
    replace i0_0 := i0_0.below (hb.mono low.size)
    replace i0_1 := i0_1.below (hb.mono low.size)
    replace i2 := i2.below (hb.mono low.size)
    replace i3 := i3.below (hb.mono low.size)
    replace o37 := o37.below hb
    replace o41 := o41.below hb
    replace b47 := heap_below b47 hb
    replace b115 := heap_below b115 hb
    replace o257 := o257.below hb
    replace o266 := o266.below hb
    replace o285 := o285.below hb
    replace low := low.trans (hb.mono low.size)
    have q303 := hb.size
    clear hb
    clear c296 c297 c298 c299 c300 c301
    have c306 := (blk (i := 0) b0 rfl).1
    have c307 := (blk (i := 1) b0 rfl).1
    have c308 := (blk (i := 0) b47 rfl).1
    have c309 := (blk (i := 1) b47 rfl).1
    have c310 := (blk (i := 0) b115 rfl).1
    have c311 := (blk (i := 1) b115 rfl).1
    go_wp2_with fail
    refine (toIntS_ownA A3 n3 c3 z3 w302 (i3.ints low.size) L3.out (by omega)).mono ?_
    rintro e w312 ⟨X304, rfl, o305, hb⟩
    replace b0 := heap_below b0 hb
    replace i0_0 := i0_0.below (hb.mono low.size)
    replace i0_1 := i0_1.below (hb.mono low.size)
    replace i2 := i2.below (hb.mono low.size)
    replace i3 := i3.below (hb.mono low.size)
    replace o37 := o37.below hb
    replace o41 := o41.below hb
    replace b47 := heap_below b47 hb
    replace b115 := heap_below b115 hb
    replace o257 := o257.below hb
    replace o266 := o266.below hb
    replace o285 := o285.below hb
    replace o295 := o295.below hb
    replace low := low.trans (hb.mono low.size)
    have q313 := hb.size
    clear hb
    clear c306 c307 c308 c309 c310 c311
    have c315 := (blk (i := 0) b0 rfl).1
    have c316 := (blk (i := 1) b0 rfl).1
    have c317 := (blk (i := 0) b47 rfl).1
    have c318 := (blk (i := 1) b47 rfl).1
    have c319 := (blk (i := 0) b115 rfl).1
    have c320 := (blk (i := 1) b115 rfl).1
    go_wp2_with fail
    refine (ex_impl_WordMux X283 n0_0 n0_0 z0_0 X284 n0_1 n0_1 z0_1 a1 X294 n2 n2 z2 X304 n3 n3 z3 w312 (o285.o0.ints) L0_0.out (by omega) (o285.o1.ints) L0_1.out (by omega) (o295.ints) L2.out (by omega) (o305.ints) L3.out (by omega)).mono ?_
    intro e w314 h
    obtain ⟨G321, G324, n322, n325, d323, d326, G328, n329, d330, rfl, o327, o331, ap332, hb⟩ := E.out _ _ _ h
    clear h
    replace b0 := heap_below b0 hb
    replace i0_0 := i0_0.below (hb.mono low.size)
    replace i0_1 := i0_1.below (hb.mono low.size)
    replace i2 := i2.below (hb.mono low.size)
    replace i3 := i3.below (hb.mono low.size)
    replace o37 := o37.below hb
    replace o41 := o41.below hb
    replace b47 := heap_below b47 hb
    replace b115 := heap_below b115 hb
    replace o257 := o257.below hb
    replace o266 := o266.below hb
    replace o285 := o285.below hb
    replace o295 := o295.below hb
    replace o305 := o305.below hb
    replace low := low.trans (hb.mono low.size)
    have q333 := hb.size
    clear hb
    clear o285
    clear o295
    clear o305
    have hl334 := o327.o0.len
    obtain rfl : n32 = n322 := by have := L44.out; omega
    clear hl334
    have hl335 := o327.o1.len1
    obtain rfl : n35 = n325 := by rw [← hl335, L45.out]
    clear hl335
    have hl336 := o331.len1
    obtain rfl : n39 = n329 := by rw [← hl336, L46.out]
    clear hl336
    replace b0 := heap_alloc b0 (.cells #[.slice G321 n32 d323, .slice G324 n35 d326] 28)
    replace i0_0 := i0_0.below ((below_alloc _ (.cells #[.slice G321 n32 d323, .slice G324 n35 d326] 28)).mono low.size)
    replace i0_1 := i0_1.below ((below_alloc _ (.cells #[.slice G321 n32 d323, .slice G324 n35 d326] 28)).mono low.size)
    replace i2 := i2.below ((below_alloc _ (.cells #[.slice G321 n32 d323, .slice G324 n35 d326] 28)).mono low.size)
    replace i3 := i3.below ((below_alloc _ (.cells #[.slice G321 n32 d323, .slice G324 n35 d326] 28)).mono low.size)
    replace o37 := o37.alloc (.cells #[.slice G321 n32 d323, .slice G324 n35 d326] 28)
    replace o41 := o41.alloc (.cells #[.slice G321 n32 d323, .slice G324 n35 d326] 28)
    replace b47 := heap_alloc b47 (.cells #[.slice G321 n32 d323, .slice G324 n35 d326] 28)
    replace b115 := heap_alloc b115 (.cells #[.slice G321 n32 d323, .slice G324 n35 d326] 28)
    replace o257 := o257.alloc (.cells #[.slice G321 n32 d323, .slice G324 n35 d326] 28)
    replace o266 := o266.alloc (.cells #[.slice G321 n32 d323, .slice G324 n35 d326] 28)
    replace o327 := o327.alloc (.cells #[.slice G321 n32 d323, .slice G324 n35 d326] 28)
    replace o331 := o331.alloc (.cells #[.slice G321 n32 d323, .slice G324 n35 d326] 28)
    replace low := low_alloc low (.cells #[.slice G321 n32 d323, .slice G324 n35 d326] 28)
    have b337 := heap_alloc_new w314 (.cells #[.slice G321 n32 d323, .slice G324 n35 d326] 28)
    have q338 := heap_lt b337
    clear c315 c316 c317 c318 c319 c320
    have c339 := (blk (i := 0) b0 rfl).1
    have c340 := (blk (i := 1) b0 rfl).1
    have c341 := (blk (i := 0) b47 rfl).1
    have c342 := (blk (i := 1) b47 rfl).1
    have c343 := (blk (i := 0) b115 rfl).1
    have c344 := (blk (i := 1) b115 rfl).1
    have c345 := (blk (i := 0) b337 rfl).1
    have c346 := (blk (i := 1) b337 rfl).1
    go_wp2_with fail
    generalize hg : (w314.alloc (.cells #[.slice G321 n32 d323, .slice G324 n35 d326] 28)) = w347 at *
    clear hg
    clear c339 c340 c341 c342 c343 c344 c345 c346
    have c349 := (blk (i := 0) b0 rfl).1
    have c350 := (blk (i := 1) b0 rfl).1
    have c351 := (blk (i := 0) b47 rfl).1
    have c352 := (blk (i := 1) b47 rfl).1
    have c353 := (blk (i := 0) b115 rfl).1
    have c354 := (blk (i := 1) b115 rfl).1
    have c355 := (blk (i := 0) b337 rfl).1
    have c356 := (blk (i := 1) b337 rfl).1
    go_wp2_with fail
    refine (eqCircuit_same G321 G324 d323 d326 G31 G34 d33 d36 n32 n35 R0 R1 w347 o327.o0.ints o37.o0.ints L44.out (by omega) o327.o1.ints o37.o1.ints L45.out (by omega)).mono ?_
    rintro e w348 ⟨rfl, hb⟩
    replace b0 := heap_below b0 hb
    replace i0_0 := i0_0.below (hb.mono low.size)
    replace i0_1 := i0_1.below (hb.mono low.size)
    replace i2 := i2.below (hb.mono low.size)
    replace i3 := i3.below (hb.mono low.size)
    replace o37 := o37.below hb
    replace o41 := o41.below hb
    replace b47 := heap_below b47 hb
    replace b115 := heap_below b115 hb
    replace o257 := o257.below hb
    replace o266 := o266.below hb
    replace o327 := o327.below hb
    replace o331 := o331.below hb
    replace b337 := heap_below b337 hb
    replace low := low.trans (hb.mono low.size)
    have q357 := hb.size
    clear hb
    clear c349 c350 c351 c352 c353 c354 c355 c356
    have c359 := (blk (i := 0) b0 rfl).1
    have c360 := (blk (i := 1) b0 rfl).1
    have c361 := (blk (i := 0) b47 rfl).1
    have c362 := (blk (i := 1) b47 rfl).1
    have c363 := (blk (i := 0) b115 rfl).1
    have c364 := (blk (i := 1) b115 rfl).1
    have c365 := (blk (i := 0) b337 rfl).1
    have c366 := (blk (i := 1) b337 rfl).1
    go_wp2_with fail
    refine (eqIntS_same n39 n39 d330 d40 G328 G38 R2 R2 w348 o331.ints o41.ints rfl L46.out L46.out (by omega)).mono ?_
    rintro e w358 ⟨rfl, hb⟩
    replace b0 := heap_below b0 hb
    replace i0_0 := i0_0.below (hb.mono low.size)
    replace i0_1 := i0_1.below (hb.mono low.size)
    replace i2 := i2.below (hb.mono low.size)
    replace i3 := i3.below (hb.mono low.size)
    replace o37 := o37.below hb
    replace o41 := o41.below hb
    replace b47 := heap_below b47 hb
    replace b115 := heap_below b115 hb
    replace o257 := o257.below hb
    replace o266 := o266.below hb
    replace o327 := o327.below hb
    replace o331 := o331.below hb
    replace b337 := heap_below b337 hb
    replace low := low.trans (hb.mono low.size)
    have q367 := hb.size
    clear hb
    clear c359 c360 c361 c362 c363 c364 c365 c366
    have c368 := (blk (i := 0) b0 rfl).1
    have c369 := (blk (i := 1) b0 rfl).1
    have c370 := (blk (i := 0) b47 rfl).1
    have c371 := (blk (i := 1) b47 rfl).1
    have c372 := (blk (i := 0) b115 rfl).1
    have c373 := (blk (i := 1) b115 rfl).1
    have c374 := (blk (i := 0) b337 rfl).1
    have c375 := (blk (i := 1) b337 rfl).1
    go_wp2_with fail
    refine (heldCircuit_any (1) G99 G102 d101 d104 n32 n35 w358 o257.o0.ints o257.o1.ints (by omega)).mono ?_
    rintro e w376 ⟨rfl, hb⟩
    replace b0 := heap_below b0 hb
    replace i0_0 := i0_0.below (hb.mono low.size)
    replace i0_1 := i0_1.below (hb.mono low.size)
    replace i2 := i2.below (hb.mono low.size)
    replace i3 := i3.below (hb.mono low.size)
    replace o37 := o37.below hb
    replace o41 := o41.below hb
    replace b47 := heap_below b47 hb
    replace b115 := heap_below b115 hb
    replace o257 := o257.below hb
    replace o266 := o266.below hb
    replace o327 := o327.below hb
    replace o331 := o331.below hb
    replace b337 := heap_below b337 hb
    replace low := low.trans (hb.mono low.size)
    have q377 := hb.size
    clear hb
    clear c368 c369 c370 c371 c372 c373 c374 c375
    have c378 := (blk (i := 0) b0 rfl).1
    have c379 := (blk (i := 1) b0 rfl).1
    have c380 := (blk (i := 0) b47 rfl).1
    have c381 := (blk (i := 1) b47 rfl).1
    have c382 := (blk (i := 0) b115 rfl).1
    have c383 := (blk (i := 1) b115 rfl).1
    have c384 := (blk (i := 0) b337 rfl).1
    have c385 := (blk (i := 1) b337 rfl).1
    go_wp2_with fail
    refine (heldIntS_any n39 (1 + n32 * 3 + n35) d108 G106 w376 o266.ints (by omega)).mono ?_
    rintro e w386 ⟨rfl, rfl⟩
    clear c378 c379 c380 c381 c382 c383 c384 c385
    have c387 := (blk (i := 0) b0 rfl).1
    have c388 := (blk (i := 1) b0 rfl).1
    have c389 := (blk (i := 0) b47 rfl).1
    have c390 := (blk (i := 1) b47 rfl).1
    have c391 := (blk (i := 0) b115 rfl).1
    have c392 := (blk (i := 1) b115 rfl).1
    have c393 := (blk (i := 0) b337 rfl).1
    have c394 := (blk (i := 1) b337 rfl).1
    go_wp2_with fail
    go_ret
    exact ⟨by first | rfl | simp, low⟩
end Go.Proofs.Ytkcknejkldhmaab

/- The law FnExactWordConst: the walk. -/
import Derived.Test.YtkcknejkldhmaabProg
import Derived.Test.YtkcknejkldhmaabB1
import Derived.Test.YtkcknejkldhmaabC1
import Derived.Test.YtkcknejkldhmaabCwZ
namespace Go.Proofs.Ytkcknejkldhmaab
open Go Go.RowKit
set_option maxRecDepth 100000 in
set_option maxHeartbeats 2000000 in
theorem FnExactWordConst_walk (A0_0 : Option Addr) (n0_0 c0_0 : Nat) (z0_0 : List Int) (A0_1 : Option Addr) (n0_1 c0_1 : Nat) (z0_1 : List Int) (a1 : Int) (w : World) (h0_0 : Ints w A0_0 z0_0) (l0_0 : z0_0.length = n0_0 * 3) (m0_0 : n0_0 ≤ 9223372036854775807) (h0_1 : Ints w A0_1 z0_1) (l0_1 : z0_1.length = n0_1) (m0_1 : n0_1 ≤ 9223372036854775807) (_h1 : (Lit.int .i64 a1).wf = true) :
    Calls Try.prog 5 #[.agg #[.slice A0_0 n0_0 c0_0, .slice A0_1 n0_1 c0_1], .int .i64 a1] w fun e w' => e = .returned (.bool true) ∧ Below w.heap.size w w' := by
  have low : Below w.heap.size w (w.alloc (.cells #[.slice A0_0 n0_0 c0_0, .slice A0_1 n0_1 c0_1] 41)) := (low_alloc (Below.refl _ _) _)
  have L0_0 := Lib.hid l0_0
  have i0_0 := h0_0.bound.below low
  have L0_1 := Lib.hid l0_1
  have i0_1 := h0_1.bound.below low
  clear h0_0 l0_0 h0_1 l0_1
  have b0 := new_at w (.cells #[.slice A0_0 n0_0 c0_0, .slice A0_1 n0_1 c0_1] 41) (w.heap.size) (by simp)
  go_enter Try.func5, Try.ntmps5
  have c1 := (blk (i := 0) b0 rfl).1
  have c2 := (blk (i := 1) b0 rfl).1
  go_wp2_with fail
  generalize hw0 : (w.alloc (.cells #[.slice A0_0 n0_0 c0_0, .slice A0_1 n0_1 c0_1] 41)) = v0 at *
  clear hw0
  have q0 := low.size
  have q00 := heap_lt b0
  clear c1 c2
  have c6 := (blk (i := 0) b0 rfl).1
  have c7 := (blk (i := 1) b0 rfl).1
  go_wp2_with fail
  have s3 := szCircuit_any 1048576 A0_0 A0_1 c0_0 c0_1 n0_0 n0_1 v0 (by omega) m0_0 m0_1
  unfold Sized at s3
  by_cases hn0 : n0_0 + n0_1 ≤ 1048576
  case neg =>
    rw [show szRes 1048576 (n0_0 + n0_1) = -1 by rw [szRes, if_neg hn0]] at s3
    refine s3.mono ?_
    rintro e w5 ⟨rfl, hb⟩
    go_wp2_with fail
    go_ret
    exact ⟨rfl, low.trans (hb.mono low.size)⟩
  rw [show szRes 1048576 (n0_0 + n0_1) = ((1048576 - (n0_0 + n0_1) : Nat) : Int) by rw [szRes, if_pos hn0]] at s3
  have mm0_0 : n0_0 ≤ 1048576 := by omega
  have mm0_1 : n0_1 ≤ 1048576 := by omega
  have zf4 : 1048576 - (n0_0 + n0_1) ≤ 1048576 := by omega
  clear hn0 m0_0 m0_1
  generalize 1048576 - (n0_0 + n0_1) = f4 at *
  refine s3.mono ?_
  rintro e w5 ⟨rfl, hb⟩
  clear s3
  replace b0 := heap_below b0 hb
  replace i0_0 := i0_0.below (hb.mono low.size)
  replace i0_1 := i0_1.below (hb.mono low.size)
  replace low := low.trans (hb.mono low.size)
  have q8 := hb.size
  clear hb
  have yf4 : (0 : Int) ≤ f4 := by omega
  obtain ⟨R0, hR0, bR0⟩ : ∃ r : List Int, (wConst z0_0 n0_0 z0_1 a1).1 = r ∧ r.length ≤ 5700000 := ⟨_, rfl, (wConst_len z0_1 a1 L0_0.out (by omega)).1⟩
  obtain ⟨R1, hR1, bR1⟩ : ∃ r : List Int, z0_1 = r ∧ r.length ≤ 1900000 := ⟨_, rfl, by have := L0_1.out; omega⟩
  obtain ⟨R2, hR2, bR2⟩ : ∃ r : List Int, (wConst z0_0 n0_0 z0_1 a1).2 = r ∧ r.length ≤ 1900000 := ⟨_, rfl, (wConst_len z0_1 a1 L0_0.out (by omega)).2⟩
  have E := Lib.hid (show ∀ w e w', Post_Circuit_A ((wConst z0_0 n0_0 z0_1 a1).1) (z0_1) ((wConst z0_0 n0_0 z0_1 a1).2) w e w' → Post_Circuit_A R0 R1 R2 w e w' from by subst hR0 hR1 hR2; intro _ _ _ h; exact h)
  clear hR0 hR1 hR2
  clear c6 c7
  have c12 := (blk (i := 0) b0 rfl).1
  have c13 := (blk (i := 1) b0 rfl).1
  go_wp2_with fail
  refine (toCircuit_own A0_0 A0_1 c0_0 c0_1 n0_0 n0_1 z0_0 z0_1 w5 (i0_0.ints low.size) L0_0.out (by omega) (i0_1.ints low.size) L0_1.out (by omega)).mono ?_
  rintro e w14 ⟨X9, X10, rfl, o11, hb⟩
  replace b0 := heap_below b0 hb
  replace i0_0 := i0_0.below (hb.mono low.size)
  replace i0_1 := i0_1.below (hb.mono low.size)
  replace low := low.trans (hb.mono low.size)
  have q15 := hb.size
  clear hb
  clear c12 c13
  have c17 := (blk (i := 0) b0 rfl).1
  have c18 := (blk (i := 1) b0 rfl).1
  go_wp2_with fail
  refine (ex_spec_WordConst X9 n0_0 n0_0 z0_0 X10 n0_1 n0_1 z0_1 a1 w14 (o11.o0.ints) L0_0.out (by omega) (o11.o1.ints) L0_1.out (by omega)).mono ?_
  intro e w16 h
  obtain ⟨G19, G22, n20, n23, d21, d24, G26, n27, d28, rfl, o25, o29, ap30, hb⟩ := E.out _ _ _ h
  clear h
  replace b0 := heap_below b0 hb
  replace i0_0 := i0_0.below (hb.mono low.size)
  replace i0_1 := i0_1.below (hb.mono low.size)
  replace o11 := o11.below hb
  replace low := low.trans (hb.mono low.size)
  have q31 := hb.size
  clear hb
  clear o11
  have L32 := Lib.hid (o25.o0.len)
  have bnL32 : n20 * 3 ≤ 5700000 := by rw [← L32.out]; exact bR0
  have L33 := Lib.hid (o25.o1.len1)
  have bnL33 : n23 ≤ 1900000 := by rw [← L33.out]; exact bR1
  have L34 := Lib.hid (o29.len1)
  have bnL34 : n27 ≤ 1900000 := by rw [← L34.out]; exact bR2
  replace b0 := heap_alloc b0 (.cells #[.slice G19 n20 d21, .slice G22 n23 d24] 28)
  replace i0_0 := i0_0.below ((below_alloc _ (.cells #[.slice G19 n20 d21, .slice G22 n23 d24] 28)).mono low.size)
  replace i0_1 := i0_1.below ((below_alloc _ (.cells #[.slice G19 n20 d21, .slice G22 n23 d24] 28)).mono low.size)
  replace o25 := o25.alloc (.cells #[.slice G19 n20 d21, .slice G22 n23 d24] 28)
  replace o29 := o29.alloc (.cells #[.slice G19 n20 d21, .slice G22 n23 d24] 28)
  replace low := low_alloc low (.cells #[.slice G19 n20 d21, .slice G22 n23 d24] 28)
  have b35 := heap_alloc_new w16 (.cells #[.slice G19 n20 d21, .slice G22 n23 d24] 28)
  have q36 := heap_lt b35
  clear c17 c18
  have c37 := (blk (i := 0) b0 rfl).1
  have c38 := (blk (i := 1) b0 rfl).1
  have c39 := (blk (i := 0) b35 rfl).1
  have c40 := (blk (i := 1) b35 rfl).1
  go_wp2_with fail
  generalize hg : (w16.alloc (.cells #[.slice G19 n20 d21, .slice G22 n23 d24] 28)) = w41 at *
  clear hg
  clear c37 c38 c39 c40
  have c45 := (blk (i := 0) b0 rfl).1
  have c46 := (blk (i := 1) b0 rfl).1
  have c47 := (blk (i := 0) b35 rfl).1
  have c48 := (blk (i := 1) b35 rfl).1
  go_wp2_with fail
  refine (toCircuit_own A0_0 A0_1 c0_0 c0_1 n0_0 n0_1 z0_0 z0_1 w41 (i0_0.ints low.size) L0_0.out (by omega) (i0_1.ints low.size) L0_1.out (by omega)).mono ?_
  rintro e w49 ⟨X42, X43, rfl, o44, hb⟩
  replace b0 := heap_below b0 hb
  replace i0_0 := i0_0.below (hb.mono low.size)
  replace i0_1 := i0_1.below (hb.mono low.size)
  replace o25 := o25.below hb
  replace o29 := o29.below hb
  replace b35 := heap_below b35 hb
  replace low := low.trans (hb.mono low.size)
  have q50 := hb.size
  clear hb
  replace b0 := heap_alloc b0 (.cells #[.slice X42 n0_0 n0_0, .slice X43 n0_1 n0_1] 28)
  replace i0_0 := i0_0.below ((below_alloc _ (.cells #[.slice X42 n0_0 n0_0, .slice X43 n0_1 n0_1] 28)).mono low.size)
  replace i0_1 := i0_1.below ((below_alloc _ (.cells #[.slice X42 n0_0 n0_0, .slice X43 n0_1 n0_1] 28)).mono low.size)
  replace o25 := o25.alloc (.cells #[.slice X42 n0_0 n0_0, .slice X43 n0_1 n0_1] 28)
  replace o29 := o29.alloc (.cells #[.slice X42 n0_0 n0_0, .slice X43 n0_1 n0_1] 28)
  replace b35 := heap_alloc b35 (.cells #[.slice X42 n0_0 n0_0, .slice X43 n0_1 n0_1] 28)
  replace o44 := o44.alloc (.cells #[.slice X42 n0_0 n0_0, .slice X43 n0_1 n0_1] 28)
  replace low := low_alloc low (.cells #[.slice X42 n0_0 n0_0, .slice X43 n0_1 n0_1] 28)
  have b51 := heap_alloc_new w49 (.cells #[.slice X42 n0_0 n0_0, .slice X43 n0_1 n0_1] 28)
  have q52 := heap_lt b51
  clear c45 c46 c47 c48
  have c53 := (blk (i := 0) b0 rfl).1
  have c54 := (blk (i := 1) b0 rfl).1
  have c55 := (blk (i := 0) b35 rfl).1
  have c56 := (blk (i := 1) b35 rfl).1
  have c57 := (blk (i := 0) b51 rfl).1
  have c58 := (blk (i := 1) b51 rfl).1
  go_wp2_with fail
  generalize hg : (w49.alloc (.cells #[.slice X42 n0_0 n0_0, .slice X43 n0_1 n0_1] 28)) = w59 at *
  clear hg
  clear c53 c54 c55 c56 c57 c58
  have c61 := (blk (i := 0) b0 rfl).1
  have c62 := (blk (i := 1) b0 rfl).1
  have c63 := (blk (i := 0) b35 rfl).1
  have c64 := (blk (i := 1) b35 rfl).1
  have c65 := (blk (i := 0) b51 rfl).1
  have c66 := (blk (i := 1) b51 rfl).1
  go_wp2_with fail
  refine (ex_impl_WordConst X42 n0_0 n0_0 z0_0 X43 n0_1 n0_1 z0_1 a1 w59 (o44.o0.ints) L0_0.out (by omega) (o44.o1.ints) L0_1.out (by omega)).mono ?_
  intro e w60 h
  obtain ⟨G67, G70, n68, n71, d69, d72, G74, n75, d76, rfl, o73, o77, ap78, hb⟩ := E.out _ _ _ h
  clear h
  replace b0 := heap_below b0 hb
  replace i0_0 := i0_0.below (hb.mono low.size)
  replace i0_1 := i0_1.below (hb.mono low.size)
  replace o25 := o25.below hb
  replace o29 := o29.below hb
  replace b35 := heap_below b35 hb
  replace o44 := o44.below hb
  replace b51 := heap_below b51 hb
  replace low := low.trans (hb.mono low.size)
  have q79 := hb.size
  clear hb
  have hl80 := o73.o0.len
  obtain rfl : n20 = n68 := by have := L32.out; omega
  clear hl80
  have hl81 := o73.o1.len1
  obtain rfl : n23 = n71 := by rw [← hl81, L33.out]
  clear hl81
  have hl82 := o77.len1
  obtain rfl : n27 = n75 := by rw [← hl82, L34.out]
  clear hl82
  replace b0 := heap_alloc b0 (.cells #[.slice G67 n20 d69, .slice G70 n23 d72] 28)
  replace i0_0 := i0_0.below ((below_alloc _ (.cells #[.slice G67 n20 d69, .slice G70 n23 d72] 28)).mono low.size)
  replace i0_1 := i0_1.below ((below_alloc _ (.cells #[.slice G67 n20 d69, .slice G70 n23 d72] 28)).mono low.size)
  replace o25 := o25.alloc (.cells #[.slice G67 n20 d69, .slice G70 n23 d72] 28)
  replace o29 := o29.alloc (.cells #[.slice G67 n20 d69, .slice G70 n23 d72] 28)
  replace b35 := heap_alloc b35 (.cells #[.slice G67 n20 d69, .slice G70 n23 d72] 28)
  replace o44 := o44.alloc (.cells #[.slice G67 n20 d69, .slice G70 n23 d72] 28)
  replace b51 := heap_alloc b51 (.cells #[.slice G67 n20 d69, .slice G70 n23 d72] 28)
  replace o73 := o73.alloc (.cells #[.slice G67 n20 d69, .slice G70 n23 d72] 28)
  replace o77 := o77.alloc (.cells #[.slice G67 n20 d69, .slice G70 n23 d72] 28)
  replace low := low_alloc low (.cells #[.slice G67 n20 d69, .slice G70 n23 d72] 28)
  have b83 := heap_alloc_new w60 (.cells #[.slice G67 n20 d69, .slice G70 n23 d72] 28)
  have q84 := heap_lt b83
  clear c61 c62 c63 c64 c65 c66
  have c85 := (blk (i := 0) b0 rfl).1
  have c86 := (blk (i := 1) b0 rfl).1
  have c87 := (blk (i := 0) b35 rfl).1
  have c88 := (blk (i := 1) b35 rfl).1
  have c89 := (blk (i := 0) b51 rfl).1
  have c90 := (blk (i := 1) b51 rfl).1
  have c91 := (blk (i := 0) b83 rfl).1
  have c92 := (blk (i := 1) b83 rfl).1
  go_wp2_with fail
  generalize hg : (w60.alloc (.cells #[.slice G67 n20 d69, .slice G70 n23 d72] 28)) = w93 at *
  clear hg
  clear c85 c86 c87 c88 c89 c90 c91 c92
  have c95 := (blk (i := 0) b0 rfl).1
  have c96 := (blk (i := 1) b0 rfl).1
  have c97 := (blk (i := 0) b35 rfl).1
  have c98 := (blk (i := 1) b35 rfl).1
  have c99 := (blk (i := 0) b51 rfl).1
  have c100 := (blk (i := 1) b51 rfl).1
  have c101 := (blk (i := 0) b83 rfl).1
  have c102 := (blk (i := 1) b83 rfl).1
  go_wp2_with fail
  refine (eqCircuit_same G67 G70 d69 d72 G19 G22 d21 d24 n20 n23 R0 R1 w93 o73.o0.ints o25.o0.ints L32.out (by omega) o73.o1.ints o25.o1.ints L33.out (by omega)).mono ?_
  rintro e w94 ⟨rfl, hb⟩
  replace b0 := heap_below b0 hb
  replace i0_0 := i0_0.below (hb.mono low.size)
  replace i0_1 := i0_1.below (hb.mono low.size)
  replace o25 := o25.below hb
  replace o29 := o29.below hb
  replace b35 := heap_below b35 hb
  replace o44 := o44.below hb
  replace b51 := heap_below b51 hb
  replace o73 := o73.below hb
  replace o77 := o77.below hb
  replace b83 := heap_below b83 hb
  replace low := low.trans (hb.mono low.size)
  have q103 := hb.size
  clear hb
  clear c95 c96 c97 c98 c99 c100 c101 c102
  have c105 := (blk (i := 0) b0 rfl).1
  have c106 := (blk (i := 1) b0 rfl).1
  have c107 := (blk (i := 0) b35 rfl).1
  have c108 := (blk (i := 1) b35 rfl).1
  have c109 := (blk (i := 0) b51 rfl).1
  have c110 := (blk (i := 1) b51 rfl).1
  have c111 := (blk (i := 0) b83 rfl).1
  have c112 := (blk (i := 1) b83 rfl).1
  go_wp2_with fail
  refine (eqIntS_same n27 n27 d76 d28 G74 G26 R2 R2 w94 o77.ints o29.ints rfl L34.out L34.out (by omega)).mono ?_
  rintro e w104 ⟨rfl, hb⟩
  replace b0 := heap_below b0 hb
  replace i0_0 := i0_0.below (hb.mono low.size)
  replace i0_1 := i0_1.below (hb.mono low.size)
  replace o25 := o25.below hb
  replace o29 := o29.below hb
  replace b35 := heap_below b35 hb
  replace o44 := o44.below hb
  replace b51 := heap_below b51 hb
  replace o73 := o73.below hb
  replace o77 := o77.below hb
  replace b83 := heap_below b83 hb
  replace low := low.trans (hb.mono low.size)
  have q113 := hb.size
  clear hb
  clear c105 c106 c107 c108 c109 c110 c111 c112
  have c117 := (blk (i := 0) b0 rfl).1
  have c118 := (blk (i := 1) b0 rfl).1
  have c119 := (blk (i := 0) b35 rfl).1
  have c120 := (blk (i := 1) b35 rfl).1
  have c121 := (blk (i := 0) b51 rfl).1
  have c122 := (blk (i := 1) b51 rfl).1
  have c123 := (blk (i := 0) b83 rfl).1
  have c124 := (blk (i := 1) b83 rfl).1
  go_upto_region 10 with (fail)
  go_cut [50] (fun s wx => s = .bool false ∧ Below w104.heap.size w104 wx)
  case first =>
    have lowd := low.drew
    have o44d := o44.drew
    go_wp2_with fail
    go_region_law (first
      | (go_simp; go_at_call 26; (with_reducible refine (toCircuit_own A0_0 A0_1 c0_0 c0_1 n0_0 n0_1 z0_0 z0_1 _ ((ints_drew i0_0 low)) L0_0.out (by omega) ((ints_drew i0_1 low)) L0_1.out (by omega)).mono ?_); rintro e w125 ⟨X114, X115, rfl, o116, hb1⟩; (have ox := o44d.below hb1); (have bx0 := heap_below (w := w104.drew) b51 hb1); (have cx00 := (blk (i := 0) bx0 rfl).1); (have cx01 := (blk (i := 1) bx0 rfl).1))
      | (go_simp; go_at_call 27; (with_reducible refine (eqCircuit_same X42 X43 n0_0 n0_1 X114 X115 n0_0 n0_1 n0_0 n0_1 z0_0 z0_1 _ ox.o0.ints o116.o0.ints L0_0.out (by omega) ox.o1.ints o116.o1.ints L0_1.out (by omega)).mono ?_); rintro e w126 ⟨rfl, hb2⟩))
    all_goals
      have hb := ((Below.refl w104.heap.size w104).drew.trans hb1).trans (hb2.mono (by have := hb1.size; exact this))
      go_wp2_with fail
      go_meet
      exact ⟨rfl, hb⟩
  case rest =>
    clear c117 c118 c119 c120 c121 c122 c123 c124
    obtain ⟨rfl, hb⟩ := hcut
    obtain ⟨w127, rfl⟩ : ∃ w127 : World, w127 = wc := ⟨_, rfl⟩
    replace b0 := heap_below b0 hb
    replace i0_0 := i0_0.below (hb.mono low.size)
    replace i0_1 := i0_1.below (hb.mono low.size)
    replace o25 := o25.below hb
    replace o29 := o29.below hb
    replace b35 := heap_below b35 hb
    replace o44 := o44.below hb
    replace b51 := heap_below b51 hb
    replace o73 := o73.below hb
    replace o77 := o77.below hb
    replace b83 := heap_below b83 hb
    replace low := low.trans (hb.mono low.size)
    have q128 := hb.size
    clear hb
    have c130 := (blk (i := 0) b0 rfl).1
    have c131 := (blk (i := 1) b0 rfl).1
    have c132 := (blk (i := 0) b35 rfl).1
    have c133 := (blk (i := 1) b35 rfl).1
    have c134 := (blk (i := 0) b51 rfl).1
    have c135 := (blk (i := 1) b51 rfl).1
    have c136 := (blk (i := 0) b83 rfl).1
    have c137 := (blk (i := 1) b83 rfl).1
    go_wp2_with fail
    refine (markCircuit_own w41.heap.size (w49.heap.size) (1) X42 X43 n0_0 n0_1 n0_0 n0_1 z0_0 z0_1 w127 o44 (by omega) (by omega)).mono ?_
    rintro e w129 ⟨rfl, o138, mg, ms⟩
    clear o44
    clear ms
    replace b0 := mg.heap b0 (by omega)
    replace i0_0 := i0_0.mid mg (by omega) low.size
    replace i0_1 := i0_1.mid mg (by omega) low.size
    replace o25 := o25.mid mg (by omega)
    replace o29 := o29.mid mg (by omega)
    replace b35 := mg.heap b35 (by omega)
    replace b51 := mg.heap b51 (by omega)
    replace o73 := o73.mid mg (by omega)
    replace o77 := o77.mid mg (by omega)
    replace b83 := mg.heap b83 (by omega)
    replace low := mg.below low (by omega) low.size
    have q139 := mg.size
    clear mg
    clear o138
    clear b51
    clear c130 c131 c132 c133 c134 c135 c136 c137
    have c141 := (blk (i := 0) b0 rfl).1
    have c142 := (blk (i := 1) b0 rfl).1
    have c143 := (blk (i := 0) b35 rfl).1
    have c144 := (blk (i := 1) b35 rfl).1
    have c145 := (blk (i := 0) b83 rfl).1
    have c146 := (blk (i := 1) b83 rfl).1
    go_wp2_with fail
    refine (eqCircuit_same G67 G70 d69 d72 G19 G22 d21 d24 n20 n23 R0 R1 w129 o73.o0.ints o25.o0.ints L32.out (by omega) o73.o1.ints o25.o1.ints L33.out (by omega)).mono ?_
    rintro e w140 ⟨rfl, hb⟩
    replace b0 := heap_below b0 hb
    replace i0_0 := i0_0.below (hb.mono low.size)
    replace i0_1 := i0_1.below (hb.mono low.size)
    replace o25 := o25.below hb
    replace o29 := o29.below hb
    replace b35 := heap_below b35 hb
    replace o73 := o73.below hb
    replace o77 := o77.below hb
    replace b83 := heap_below b83 hb
    replace low := low.trans (hb.mono low.size)
    have q147 := hb.size
    clear hb
    clear c141 c142 c143 c144 c145 c146
    have c149 := (blk (i := 0) b0 rfl).1
    have c150 := (blk (i := 1) b0 rfl).1
    have c151 := (blk (i := 0) b35 rfl).1
    have c152 := (blk (i := 1) b35 rfl).1
    have c153 := (blk (i := 0) b83 rfl).1
    have c154 := (blk (i := 1) b83 rfl).1
    go_wp2_with fail
    refine (eqIntS_same n27 n27 d76 d28 G74 G26 R2 R2 w140 o77.ints o29.ints rfl L34.out L34.out (by omega)).mono ?_
    rintro e w148 ⟨rfl, hb⟩
    replace b0 := heap_below b0 hb
    replace i0_0 := i0_0.below (hb.mono low.size)
    replace i0_1 := i0_1.below (hb.mono low.size)
    replace o25 := o25.below hb
    replace o29 := o29.below hb
    replace b35 := heap_below b35 hb
    replace o73 := o73.below hb
    replace o77 := o77.below hb
    replace b83 := heap_below b83 hb
    replace low := low.trans (hb.mono low.size)
    have q155 := hb.size
    clear hb
    clear c149 c150 c151 c152 c153 c154
    have c157 := (blk (i := 0) b0 rfl).1
    have c158 := (blk (i := 1) b0 rfl).1
    have c159 := (blk (i := 0) b35 rfl).1
    have c160 := (blk (i := 1) b35 rfl).1
    have c161 := (blk (i := 0) b83 rfl).1
    have c162 := (blk (i := 1) b83 rfl).1
    go_wp2_with fail
    refine (markCircuit_own w59.heap.size (w60.heap.size) (1) G67 G70 d69 d72 n20 n23 R0 R1 w148 o73 (by omega) (by omega)).mono ?_
    rintro e w156 ⟨rfl, o163, mg, ms⟩
    clear o73
    replace o77 := o77.spare ms (fun v hv => by simp only [List.mem_cons, List.not_mem_nil, or_false] at hv; rcases hv with rfl | rfl; exact ap78.1; exact ap78.2)
    clear ms
    replace b0 := mg.heap b0 (by omega)
    replace i0_0 := i0_0.mid mg (by omega) low.size
    replace i0_1 := i0_1.mid mg (by omega) low.size
    replace o25 := o25.mid mg (by omega)
    replace o29 := o29.mid mg (by omega)
    replace b35 := mg.heap b35 (by omega)
    replace b83 := mg.heap b83 (by omega)
    replace low := mg.below low (by omega) low.size
    have q164 := mg.size
    clear mg
    clear c157 c158 c159 c160 c161 c162
    have c166 := (blk (i := 0) b0 rfl).1
    have c167 := (blk (i := 1) b0 rfl).1
    have c168 := (blk (i := 0) b35 rfl).1
    have c169 := (blk (i := 1) b35 rfl).1
    have c170 := (blk (i := 0) b83 rfl).1
    have c171 := (blk (i := 1) b83 rfl).1
    go_wp2_with fail
    refine (markIntS_ownA _ _ n27 (1 + n20 * 3 + n23) _ R2 w156 o77 (by omega)).mono ?_
    rintro e w165 ⟨rfl, o172, hg⟩
    have mg := Mid.of_grown (lo := w59.heap.size) (hi := w60.heap.size) hg (fun k e => o77.ltB e)
    replace o163 := (show OwnCircuit w59.heap.size (w60.heap.size) w165 _ _ _ _ _ _ from ⟨o163.o0.keep hg ap78.1.symm, o163.o1.keep hg ap78.2.symm, o163.a01⟩)
    clear o77 hg
    replace b0 := mg.heap b0 (by omega)
    replace i0_0 := i0_0.mid mg (by omega) low.size
    replace i0_1 := i0_1.mid mg (by omega) low.size
    replace o25 := o25.mid mg (by omega)
    replace o29 := o29.mid mg (by omega)
    replace b35 := mg.heap b35 (by omega)
    replace b83 := mg.heap b83 (by omega)
    replace low := mg.below low (by omega) low.size
    have q173 := mg.size
    clear mg
    clear c166 c167 c168 c169 c170 c171
    have c174 := (blk (i := 0) b0 rfl).1
    have c175 := (blk (i := 1) b0 rfl).1
    have c176 := (blk (i := 0) b35 rfl).1
    have c177 := (blk (i := 1) b35 rfl).1
    have c178 := (blk (i := 0) b83 rfl).1
    have c179 := (blk (i := 1) b83 rfl).1
    go_wp2_with fail
    refine (heldCircuit_any (1) G67 G70 d69 d72 n20 n23 w165 o163.o0.ints o163.o1.ints (by omega)).mono ?_
    rintro e w180 ⟨rfl, hb⟩
    replace b0 := heap_below b0 hb
    replace i0_0 := i0_0.below (hb.mono low.size)
    replace i0_1 := i0_1.below (hb.mono low.size)
    replace o25 := o25.below hb
    replace o29 := o29.below hb
    replace b35 := heap_below b35 hb
    replace b83 := heap_below b83 hb
    replace o163 := o163.below hb
    replace o172 := o172.below hb
    replace low := low.trans (hb.mono low.size)
    have q181 := hb.size
    clear hb
    clear c174 c175 c176 c177 c178 c179
    have c182 := (blk (i := 0) b0 rfl).1
    have c183 := (blk (i := 1) b0 rfl).1
    have c184 := (blk (i := 0) b35 rfl).1
    have c185 := (blk (i := 1) b35 rfl).1
    have c186 := (blk (i := 0) b83 rfl).1
    have c187 := (blk (i := 1) b83 rfl).1
    go_wp2_with fail
    refine (heldIntS_any n27 (1 + n20 * 3 + n23) d76 G74 w180 o172.ints (by omega)).mono ?_
    rintro e w188 ⟨rfl, rfl⟩
    clear c182 c183 c184 c185 c186 c187
    have c192 := (blk (i := 0) b0 rfl).1
    have c193 := (blk (i := 1) b0 rfl).1
    have c194 := (blk (i := 0) b35 rfl).1
    have c195 := (blk (i := 1) b35 rfl).1
    have c196 := (blk (i := 0) b83 rfl).1
    have c197 := (blk (i := 1) b83 rfl).1
    go_wp2_with fail
    refine (toCircuit_own A0_0 A0_1 c0_0 c0_1 n0_0 n0_1 z0_0 z0_1 w180 (i0_0.ints low.size) L0_0.out (by omega) (i0_1.ints low.size) L0_1.out (by omega)).mono ?_
    rintro e w198 ⟨X189, X190, rfl, o191, hb⟩
    replace b0 := heap_below b0 hb
    replace i0_0 := i0_0.below (hb.mono low.size)
    replace i0_1 := i0_1.below (hb.mono low.size)
    replace o25 := o25.below hb
    replace o29 := o29.below hb
    replace b35 := heap_below b35 hb
    replace b83 := heap_below b83 hb
    replace o163 := o163.below hb
    replace o172 := o172.below hb
    replace low := low.trans (hb.mono low.size)
    have q199 := hb.size
    clear hb
    clear c192 c193 c194 c195 c196 c197
    have c201 := (blk (i := 0) b0 rfl).1
    have c202 := (blk (i := 1) b0 rfl).1
    have c203 := (blk (i := 0) b35 rfl).1
    have c204 := (blk (i := 1) b35 rfl).1
    have c205 := (blk (i := 0) b83 rfl).1
    have c206 := (blk (i := 1) b83 rfl).1
    go_wp2_with fail
    refine (ex_impl_WordConst X189 n0_0 n0_0 z0_0 X190 n0_1 n0_1 z0_1 a1 w198 (o191.o0.ints) L0_0.out (by omega) (o191.o1.ints) L0_1.out (by omega)).mono ?_
    intro e w200 h
    obtain ⟨G207, G210, n208, n211, d209, d212, G214, n215, d216, rfl, o213, o217, ap218, hb⟩ := E.out _ _ _ h
    clear h
    replace b0 := heap_below b0 hb
    replace i0_0 := i0_0.below (hb.mono low.size)
    replace i0_1 := i0_1.below (hb.mono low.size)
    replace o25 := o25.below hb
    replace o29 := o29.below hb
    replace b35 := heap_below b35 hb
    replace b83 := heap_below b83 hb
    replace o163 := o163.below hb
    replace o172 := o172.below hb
    replace o191 := o191.below hb
    replace low := low.trans (hb.mono low.size)
    have q219 := hb.size
    clear hb
    clear o191
    have hl220 := o213.o0.len
    obtain rfl : n20 = n208 := by have := L32.out; omega
    clear hl220
    have hl221 := o213.o1.len1
    obtain rfl : n23 = n211 := by rw [← hl221, L33.out]
    clear hl221
    have hl222 := o217.len1
    obtain rfl : n27 = n215 := by rw [← hl222, L34.out]
    clear hl222
    replace b0 := heap_alloc b0 (.cells #[.slice G207 n20 d209, .slice G210 n23 d212] 28)
    replace i0_0 := i0_0.below ((below_alloc _ (.cells #[.slice G207 n20 d209, .slice G210 n23 d212] 28)).mono low.size)
    replace i0_1 := i0_1.below ((below_alloc _ (.cells #[.slice G207 n20 d209, .slice G210 n23 d212] 28)).mono low.size)
    replace o25 := o25.alloc (.cells #[.slice G207 n20 d209, .slice G210 n23 d212] 28)
    replace o29 := o29.alloc (.cells #[.slice G207 n20 d209, .slice G210 n23 d212] 28)
    replace b35 := heap_alloc b35 (.cells #[.slice G207 n20 d209, .slice G210 n23 d212] 28)
    replace b83 := heap_alloc b83 (.cells #[.slice G207 n20 d209, .slice G210 n23 d212] 28)
    replace o163 := o163.alloc (.cells #[.slice G207 n20 d209, .slice G210 n23 d212] 28)
    replace o172 := o172.alloc (.cells #[.slice G207 n20 d209, .slice G210 n23 d212] 28)
    replace o213 := o213.alloc (.cells #[.slice G207 n20 d209, .slice G210 n23 d212] 28)
    replace o217 := o217.alloc (.cells #[.slice G207 n20 d209, .slice G210 n23 d212] 28)
    replace low := low_alloc low (.cells #[.slice G207 n20 d209, .slice G210 n23 d212] 28)
    have b223 := heap_alloc_new w200 (.cells #[.slice G207 n20 d209, .slice G210 n23 d212] 28)
    have q224 := heap_lt b223
    clear c201 c202 c203 c204 c205 c206
    have c225 := (blk (i := 0) b0 rfl).1
    have c226 := (blk (i := 1) b0 rfl).1
    have c227 := (blk (i := 0) b35 rfl).1
    have c228 := (blk (i := 1) b35 rfl).1
    have c229 := (blk (i := 0) b83 rfl).1
    have c230 := (blk (i := 1) b83 rfl).1
    have c231 := (blk (i := 0) b223 rfl).1
    have c232 := (blk (i := 1) b223 rfl).1
    go_wp2_with fail
    generalize hg : (w200.alloc (.cells #[.slice G207 n20 d209, .slice G210 n23 d212] 28)) = w233 at *
    clear hg
    clear c225 c226 c227 c228 c229 c230 c231 c232
    have c235 := (blk (i := 0) b0 rfl).1
    have c236 := (blk (i := 1) b0 rfl).1
    have c237 := (blk (i := 0) b35 rfl).1
    have c238 := (blk (i := 1) b35 rfl).1
    have c239 := (blk (i := 0) b83 rfl).1
    have c240 := (blk (i := 1) b83 rfl).1
    have c241 := (blk (i := 0) b223 rfl).1
    have c242 := (blk (i := 1) b223 rfl).1
    go_wp2_with fail
    refine (eqCircuit_same G207 G210 d209 d212 G19 G22 d21 d24 n20 n23 R0 R1 w233 o213.o0.ints o25.o0.ints L32.out (by omega) o213.o1.ints o25.o1.ints L33.out (by omega)).mono ?_
    rintro e w234 ⟨rfl, hb⟩
    replace b0 := heap_below b0 hb
    replace i0_0 := i0_0.below (hb.mono low.size)
    replace i0_1 := i0_1.below (hb.mono low.size)
    replace o25 := o25.below hb
    replace o29 := o29.below hb
    replace b35 := heap_below b35 hb
    replace b83 := heap_below b83 hb
    replace o163 := o163.below hb
    replace o172 := o172.below hb
    replace o213 := o213.below hb
    replace o217 := o217.below hb
    replace b223 := heap_below b223 hb
    replace low := low.trans (hb.mono low.size)
    have q243 := hb.size
    clear hb
    clear c235 c236 c237 c238 c239 c240 c241 c242
    have c245 := (blk (i := 0) b0 rfl).1
    have c246 := (blk (i := 1) b0 rfl).1
    have c247 := (blk (i := 0) b35 rfl).1
    have c248 := (blk (i := 1) b35 rfl).1
    have c249 := (blk (i := 0) b83 rfl).1
    have c250 := (blk (i := 1) b83 rfl).1
    have c251 := (blk (i := 0) b223 rfl).1
    have c252 := (blk (i := 1) b223 rfl).1
    go_wp2_with fail
    refine (eqIntS_same n27 n27 d216 d28 G214 G26 R2 R2 w234 o217.ints o29.ints rfl L34.out L34.out (by omega)).mono ?_
    rintro e w244 ⟨rfl, hb⟩
    replace b0 := heap_below b0 hb
    replace i0_0 := i0_0.below (hb.mono low.size)
    replace i0_1 := i0_1.below (hb.mono low.size)
    replace o25 := o25.below hb
    replace o29 := o29.below hb
    replace b35 := heap_below b35 hb
    replace b83 := heap_below b83 hb
    replace o163 := o163.below hb
    replace o172 := o172.below hb
    replace o213 := o213.below hb
    replace o217 := o217.below hb
    replace b223 := heap_below b223 hb
    replace low := low.trans (hb.mono low.size)
    have q253 := hb.size
    clear hb
    clear c245 c246 c247 c248 c249 c250 c251 c252
    have c254 := (blk (i := 0) b0 rfl).1
    have c255 := (blk (i := 1) b0 rfl).1
    have c256 := (blk (i := 0) b35 rfl).1
    have c257 := (blk (i := 1) b35 rfl).1
    have c258 := (blk (i := 0) b83 rfl).1
    have c259 := (blk (i := 1) b83 rfl).1
    have c260 := (blk (i := 0) b223 rfl).1
    have c261 := (blk (i := 1) b223 rfl).1
    go_wp2_with fail
    refine (heldCircuit_any (1) G67 G70 d69 d72 n20 n23 w244 o163.o0.ints o163.o1.ints (by omega)).mono ?_
    rintro e w262 ⟨rfl, hb⟩
    replace b0 := heap_below b0 hb
    replace i0_0 := i0_0.below (hb.mono low.size)
    replace i0_1 := i0_1.below (hb.mono low.size)
    replace o25 := o25.below hb
    replace o29 := o29.below hb
    replace b35 := heap_below b35 hb
    replace b83 := heap_below b83 hb
    replace o163 := o163.below hb
    replace o172 := o172.below hb
    replace o213 := o213.below hb
    replace o217 := o217.below hb
    replace b223 := heap_below b223 hb
    replace low := low.trans (hb.mono low.size)
    have q263 := hb.size
    clear hb
    clear c254 c255 c256 c257 c258 c259 c260 c261
    have c264 := (blk (i := 0) b0 rfl).1
    have c265 := (blk (i := 1) b0 rfl).1
    have c266 := (blk (i := 0) b35 rfl).1
    have c267 := (blk (i := 1) b35 rfl).1
    have c268 := (blk (i := 0) b83 rfl).1
    have c269 := (blk (i := 1) b83 rfl).1
    have c270 := (blk (i := 0) b223 rfl).1
    have c271 := (blk (i := 1) b223 rfl).1
    go_wp2_with fail
    refine (heldIntS_any n27 (1 + n20 * 3 + n23) d76 G74 w262 o172.ints (by omega)).mono ?_
    rintro e w272 ⟨rfl, rfl⟩
    clear c264 c265 c266 c267 c268 c269 c270 c271
    have c273 := (blk (i := 0) b0 rfl).1
    have c274 := (blk (i := 1) b0 rfl).1
    have c275 := (blk (i := 0) b35 rfl).1
    have c276 := (blk (i := 1) b35 rfl).1
    have c277 := (blk (i := 0) b83 rfl).1
    have c278 := (blk (i := 1) b83 rfl).1
    have c279 := (blk (i := 0) b223 rfl).1
    have c280 := (blk (i := 1) b223 rfl).1
    go_wp2_with fail
    go_ret
    exact ⟨by first | rfl | simp, low⟩
end Go.Proofs.Ytkcknejkldhmaab

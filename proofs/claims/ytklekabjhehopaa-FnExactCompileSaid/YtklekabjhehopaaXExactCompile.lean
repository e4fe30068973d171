/- The law FnExactCompile: the walk. -/
import Derived.Test.YtklekabjhehopaaProg
import Derived.Test.YtklekabjhehopaaB1
import Derived.Test.YtklekabjhehopaaC1
import Derived.Test.YtklekabjhehopaaB2
import Derived.Test.YtklekabjhehopaaCmY
namespace Go.Proofs.Ytklekabjhehopaa
open Go Go.RowKit
set_option maxRecDepth 100000 in
set_option maxHeartbeats 2000000 in
theorem FnExactCompile_walk (A0 : Option Addr) (n0 c0 : Nat) (z0 : List St) (w : World) (h0 : Ints w A0 (flat z0)) (l0 : z0.length = n0) (m0 : n0 ≤ 9223372036854775807) :
    Calls Try.prog 7 #[.slice A0 n0 c0] w fun e w' => e = .returned (.bool true) ∧ Below w.heap.size w w' := by
  have low : Below w.heap.size w w := Below.refl _ _
  have L0 := Lib.hid l0
  have i0 := h0.bound.below low
  clear h0 l0
  go_enter Try.func7, Try.ntmps7
  go_wp2_with fail
  go_wp2_with fail
  have s1 := szStmtS_any 1048576 A0 n0 c0 w (by omega) m0
  by_cases hn0 : n0 ≤ 1048576
  case neg =>
    rw [show szRes 1048576 (n0) = -1 by rw [szRes, if_neg hn0]] at s1
    refine s1.mono ?_
    rintro e w3 ⟨rfl, rfl⟩
    go_wp2_with fail
    go_ret
    exact ⟨rfl, low⟩
  rw [show szRes 1048576 (n0) = ((1048576 - (n0) : Nat) : Int) by rw [szRes, if_pos hn0]] at s1
  have mm0 : n0 ≤ 1048576 := by omega
  have zf2 : 1048576 - (n0) ≤ 1048576 := by omega
  clear hn0 m0
  generalize 1048576 - (n0) = f2 at *
  refine s1.mono ?_
  rintro e w3 ⟨rfl, rfl⟩
  clear s1
  have yf2 : (0 : Int) ≤ f2 := by omega
  obtain ⟨R0, hR0, bR0⟩ : ∃ r : List Int, (cmpI z0).1 = r ∧ r.length ≤ 5700000 := ⟨_, rfl, (cmp_len z0).1⟩
  obtain ⟨R1, hR1, bR1⟩ : ∃ r : List Int, (cmpI z0).2 = r ∧ r.length ≤ 1900000 := ⟨_, rfl, (cmp_len z0).2⟩
  obtain ⟨R2, hR2⟩ : ∃ r, decide (unrI z0) = r := ⟨_, rfl⟩
  have E := Lib.hid (show ∀ w e w', Post_Circuit_bool ((cmpI z0).1) ((cmpI z0).2) (decide (unrI z0)) w e w' → Post_Circuit_bool R0 R1 R2 w e w' from by subst hR0 hR1 hR2; intro _ _ _ h; exact h)
  clear hR0 hR1 hR2
  go_wp2_with fail
  refine (toStmtS_ownA A0 n0 c0 z0 w (i0.ints low.size) L0.out (by omega)).mono ?_
  rintro e w6 ⟨X4, rfl, o5, hb⟩
  replace i0 := i0.below (hb.mono low.size)
  replace low := low.trans (hb.mono low.size)
  have q7 := hb.size
  clear hb
  go_wp2_with fail
  refine (ex_spec_Compile X4 n0 n0 z0 w6 (o5.ints) L0.out (by omega)).mono ?_
  intro e w8 h
  obtain ⟨G9, G12, n10, n13, d11, d14, rfl, o15, hb⟩ := E.out _ _ _ h
  clear h
  replace i0 := i0.below (hb.mono low.size)
  replace o5 := o5.below hb
  replace low := low.trans (hb.mono low.size)
  have q16 := hb.size
  clear hb
  clear o5
  have L17 := Lib.hid (o15.o0.len)
  have bnL17 : n10 * 3 ≤ 5700000 := by rw [← L17.out]; exact bR0
  have L18 := Lib.hid (o15.o1.len1)
  have bnL18 : n13 ≤ 1900000 := by rw [← L18.out]; exact bR1
  replace i0 := i0.below ((below_alloc _ (.cells #[.slice G9 n10 d11, .slice G12 n13 d14] 31)).mono low.size)
  replace o15 := o15.alloc (.cells #[.slice G9 n10 d11, .slice G12 n13 d14] 31)
  replace low := low_alloc low (.cells #[.slice G9 n10 d11, .slice G12 n13 d14] 31)
  have b19 := heap_alloc_new w8 (.cells #[.slice G9 n10 d11, .slice G12 n13 d14] 31)
  have q20 := heap_lt b19
  have c21 := (blk (i := 0) b19 rfl).1
  have c22 := (blk (i := 1) b19 rfl).1
  go_wp2_with fail
  generalize hg : (w8.alloc (.cells #[.slice G9 n10 d11, .slice G12 n13 d14] 31)) = w23 at *
  clear hg
  clear c21 c22
  have c26 := (blk (i := 0) b19 rfl).1
  have c27 := (blk (i := 1) b19 rfl).1
  go_wp2_with fail
  refine (toStmtS_ownA A0 n0 c0 z0 w23 (i0.ints low.size) L0.out (by omega)).mono ?_
  rintro e w28 ⟨X24, rfl, o25, hb⟩
  replace i0 := i0.below (hb.mono low.size)
  replace o15 := o15.below hb
  replace b19 := heap_below b19 hb
  replace low := low.trans (hb.mono low.size)
  have q29 := hb.size
  clear hb
  clear c26 c27
  have c31 := (blk (i := 0) b19 rfl).1
  have c32 := (blk (i := 1) b19 rfl).1
  go_wp2_with fail
  refine (ex_impl_Compile X24 n0 n0 z0 w28 (o25.ints) L0.out (by omega)).mono ?_
  intro e w30 h
  obtain ⟨G33, G36, n34, n37, d35, d38, rfl, o39, hb⟩ := E.out _ _ _ h
  clear h
  replace i0 := i0.below (hb.mono low.size)
  replace o15 := o15.below hb
  replace b19 := heap_below b19 hb
  replace o25 := o25.below hb
  replace low := low.trans (hb.mono low.size)
  have q40 := hb.size
  clear hb
  have hl41 := o39.o0.len
  obtain rfl : n10 = n34 := by have := L17.out; omega
  clear hl41
  have hl42 := o39.o1.len1
  obtain rfl : n13 = n37 := by rw [← hl42, L18.out]
  clear hl42
  replace i0 := i0.below ((below_alloc _ (.cells #[.slice G33 n10 d35, .slice G36 n13 d38] 31)).mono low.size)
  replace o15 := o15.alloc (.cells #[.slice G33 n10 d35, .slice G36 n13 d38] 31)
  replace b19 := heap_alloc b19 (.cells #[.slice G33 n10 d35, .slice G36 n13 d38] 31)
  replace o25 := o25.alloc (.cells #[.slice G33 n10 d35, .slice G36 n13 d38] 31)
  replace o39 := o39.alloc (.cells #[.slice G33 n10 d35, .slice G36 n13 d38] 31)
  replace low := low_alloc low (.cells #[.slice G33 n10 d35, .slice G36 n13 d38] 31)
  have b43 := heap_alloc_new w30 (.cells #[.slice G33 n10 d35, .slice G36 n13 d38] 31)
  have q44 := heap_lt b43
  clear c31 c32
  have c45 := (blk (i := 0) b19 rfl).1
  have c46 := (blk (i := 1) b19 rfl).1
  have c47 := (blk (i := 0) b43 rfl).1
  have c48 := (blk (i := 1) b43 rfl).1
  go_wp2_with fail
  generalize hg : (w30.alloc (.cells #[.slice G33 n10 d35, .slice G36 n13 d38] 31)) = w49 at *
  clear hg
  clear c45 c46 c47 c48
  have c51 := (blk (i := 0) b19 rfl).1
  have c52 := (blk (i := 1) b19 rfl).1
  have c53 := (blk (i := 0) b43 rfl).1
  have c54 := (blk (i := 1) b43 rfl).1
  go_wp2_with fail
  refine (eqCircuit_same G33 G36 d35 d38 G9 G12 d11 d14 n10 n13 R0 R1 w49 o39.o0.ints o15.o0.ints L17.out (by omega) o39.o1.ints o15.o1.ints L18.out (by omega)).mono ?_
  rintro e w50 ⟨rfl, hb⟩
  replace i0 := i0.below (hb.mono low.size)
  replace o15 := o15.below hb
  replace b19 := heap_below b19 hb
  replace o25 := o25.below hb
  replace o39 := o39.below hb
  replace b43 := heap_below b43 hb
  replace low := low.trans (hb.mono low.size)
  have q55 := hb.size
  clear hb
  clear c51 c52 c53 c54
  have c58 := (blk (i := 0) b19 rfl).1
  have c59 := (blk (i := 1) b19 rfl).1
  have c60 := (blk (i := 0) b43 rfl).1
  have c61 := (blk (i := 1) b43 rfl).1
  go_wp2_with fail
  refine (toStmtS_ownA A0 n0 c0 z0 w50 (i0.ints low.size) L0.out (by omega)).mono ?_
  rintro e w62 ⟨X56, rfl, o57, hb⟩
  replace i0 := i0.below (hb.mono low.size)
  replace o15 := o15.below hb
  replace b19 := heap_below b19 hb
  replace o25 := o25.below hb
  replace o39 := o39.below hb
  replace b43 := heap_below b43 hb
  replace low := low.trans (hb.mono low.size)
  have q63 := hb.size
  clear hb
  clear c58 c59 c60 c61
  have c65 := (blk (i := 0) b19 rfl).1
  have c66 := (blk (i := 1) b19 rfl).1
  have c67 := (blk (i := 0) b43 rfl).1
  have c68 := (blk (i := 1) b43 rfl).1
  go_wp2_with fail
  refine (eqStmtS_same n0 n0 n0 n0 X24 X56 z0 z0 w62 o25.ints o57.ints rfl L0.out L0.out (by omega)).mono ?_
  rintro e w64 ⟨rfl, hb⟩
  replace i0 := i0.below (hb.mono low.size)
  replace o15 := o15.below hb
  replace b19 := heap_below b19 hb
  replace o25 := o25.below hb
  replace o39 := o39.below hb
  replace b43 := heap_below b43 hb
  replace o57 := o57.below hb
  replace low := low.trans (hb.mono low.size)
  have q69 := hb.size
  clear hb
  clear o57
  clear c65 c66 c67 c68
  have c71 := (blk (i := 0) b19 rfl).1
  have c72 := (blk (i := 1) b19 rfl).1
  have c73 := (blk (i := 0) b43 rfl).1
  have c74 := (blk (i := 1) b43 rfl).1
  go_wp2_with fail
  refine (markStmtS_ownA _ _ n0 (1) _ (flat z0) w64 o25 (by omega)).mono ?_
  rintro e w70 ⟨rfl, o75, hg⟩
  have mg := Mid.of_grown (lo := w23.heap.size) (hi := w28.heap.size) hg (fun k e => o25.ltB e)
  clear o25 hg
  replace i0 := i0.mid mg (by omega) low.size
  replace o15 := o15.mid mg (by omega)
  replace b19 := mg.heap b19 (by omega)
  replace o39 := o39.mid mg (by omega)
  replace b43 := mg.heap b43 (by omega)
  replace low := mg.below low (by omega) low.size
  have q76 := mg.size
  clear mg
  clear o75
  clear c71 c72 c73 c74
  have c78 := (blk (i := 0) b19 rfl).1
  have c79 := (blk (i := 1) b19 rfl).1
  have c80 := (blk (i := 0) b43 rfl).1
  have c81 := (blk (i := 1) b43 rfl).1
  go_wp2_with fail
  refine (eqCircuit_same G33 G36 d35 d38 G9 G12 d11 d14 n10 n13 R0 R1 w70 o39.o0.ints o15.o0.ints L17.out (by omega) o39.o1.ints o15.o1.ints L18.out (by omega)).mono ?_
  rintro e w77 ⟨rfl, hb⟩
  replace i0 := i0.below (hb.mono low.size)
  replace o15 := o15.below hb
  replace b19 := heap_below b19 hb
  replace o39 := o39.below hb
  replace b43 := heap_below b43 hb
  replace low := low.trans (hb.mono low.size)
  have q82 := hb.size
  clear hb
  clear c78 c79 c80 c81
  have c84 := (blk (i := 0) b19 rfl).1
  have c85 := (blk (i := 1) b19 rfl).1
  have c86 := (blk (i := 0) b43 rfl).1
  have c87 := (blk (i := 1) b43 rfl).1
  go_wp2_with fail
  refine (markCircuit_own w28.heap.size (w30.heap.size) (1) G33 G36 d35 d38 n10 n13 R0 R1 w77 o39 (by omega) (by omega)).mono ?_
  rintro e w83 ⟨rfl, o88, mg, ms⟩
  clear o39
  clear ms
  replace i0 := i0.mid mg (by omega) low.size
  replace o15 := o15.mid mg (by omega)
  replace b19 := mg.heap b19 (by omega)
  replace b43 := mg.heap b43 (by omega)
  replace low := mg.below low (by omega) low.size
  have q89 := mg.size
  clear mg
  clear c84 c85 c86 c87
  have c90 := (blk (i := 0) b19 rfl).1
  have c91 := (blk (i := 1) b19 rfl).1
  have c92 := (blk (i := 0) b43 rfl).1
  have c93 := (blk (i := 1) b43 rfl).1
  go_wp2_with fail
  refine (heldCircuit_any (1) G33 G36 d35 d38 n10 n13 w83 o88.o0.ints o88.o1.ints (by omega)).mono ?_
  rintro e w94 ⟨rfl, hb⟩
  replace i0 := i0.below (hb.mono low.size)
  replace o15 := o15.below hb
  replace b19 := heap_below b19 hb
  replace b43 := heap_below b43 hb
  replace o88 := o88.below hb
  replace low := low.trans (hb.mono low.size)
  have q95 := hb.size
  clear hb
  clear c90 c91 c92 c93
  have c98 := (blk (i := 0) b19 rfl).1
  have c99 := (blk (i := 1) b19 rfl).1
  have c100 := (blk (i := 0) b43 rfl).1
  have c101 := (blk (i := 1) b43 rfl).1
  go_wp2_with fail
  refine (toStmtS_ownA A0 n0 c0 z0 w94 (i0.ints low.size) L0.out (by omega)).mono ?_
  rintro e w102 ⟨X96, rfl, o97, hb⟩
  replace i0 := i0.below (hb.mono low.size)
  replace o15 := o15.below hb
  replace b19 := heap_below b19 hb
  replace b43 := heap_below b43 hb
  replace o88 := o88.below hb
  replace low := low.trans (hb.mono low.size)
  have q103 := hb.size
  clear hb
  clear c98 c99 c100 c101
  have c105 := (blk (i := 0) b19 rfl).1
  have c106 := (blk (i := 1) b19 rfl).1
  have c107 := (blk (i := 0) b43 rfl).1
  have c108 := (blk (i := 1) b43 rfl).1
  go_wp2_with fail
  refine (ex_impl_Compile X96 n0 n0 z0 w102 (o97.ints) L0.out (by omega)).mono ?_
  intro e w104 h
  obtain ⟨G109, G112, n110, n113, d111, d114, rfl, o115, hb⟩ := E.out _ _ _ h
  clear h
  replace i0 := i0.below (hb.mono low.size)
  replace o15 := o15.below hb
  replace b19 := heap_below b19 hb
  replace b43 := heap_below b43 hb
  replace o88 := o88.below hb
  replace o97 := o97.below hb
  replace low := low.trans (hb.mono low.size)
  have q116 := hb.size
  clear hb
  clear o97
  have hl117 := o115.o0.len
  obtain rfl : n10 = n110 := by have := L17.out; omega
  clear hl117
  have hl118 := o115.o1.len1
  obtain rfl : n13 = n113 := by rw [← hl118, L18.out]
  clear hl118
  replace i0 := i0.below ((below_alloc _ (.cells #[.slice G109 n10 d111, .slice G112 n13 d114] 31)).mono low.size)
  replace o15 := o15.alloc (.cells #[.slice G109 n10 d111, .slice G112 n13 d114] 31)
  replace b19 := heap_alloc b19 (.cells #[.slice G109 n10 d111, .slice G112 n13 d114] 31)
  replace b43 := heap_alloc b43 (.cells #[.slice G109 n10 d111, .slice G112 n13 d114] 31)
  replace o88 := o88.alloc (.cells #[.slice G109 n10 d111, .slice G112 n13 d114] 31)
  replace o115 := o115.alloc (.cells #[.slice G109 n10 d111, .slice G112 n13 d114] 31)
  replace low := low_alloc low (.cells #[.slice G109 n10 d111, .slice G112 n13 d114] 31)
  have b119 := heap_alloc_new w104 (.cells #[.slice G109 n10 d111, .slice G112 n13 d114] 31)
  have q120 := heap_lt b119
  clear c105 c106 c107 c108
  have c121 := (blk (i := 0) b19 rfl).1
  have c122 := (blk (i := 1) b19 rfl).1
  have c123 := (blk (i := 0) b43 rfl).1
  have c124 := (blk (i := 1) b43 rfl).1
  have c125 := (blk (i := 0) b119 rfl).1
  have c126 := (blk (i := 1) b119 rfl).1
  go_wp2_with fail
  generalize hg : (w104.alloc (.cells #[.slice G109 n10 d111, .slice G112 n13 d114] 31)) = w127 at *
  clear hg
  clear c121 c122 c123 c124 c125 c126
  have c129 := (blk (i := 0) b19 rfl).1
  have c130 := (blk (i := 1) b19 rfl).1
  have c131 := (blk (i := 0) b43 rfl).1
  have c132 := (blk (i := 1) b43 rfl).1
  have c133 := (blk (i := 0) b119 rfl).1
  have c134 := (blk (i := 1) b119 rfl).1
  go_wp2_with fail
  refine (eqCircuit_same G109 G112 d111 d114 G9 G12 d11 d14 n10 n13 R0 R1 w127 o115.o0.ints o15.o0.ints L17.out (by omega) o115.o1.ints o15.o1.ints L18.out (by omega)).mono ?_
  rintro e w128 ⟨rfl, hb⟩
  replace i0 := i0.below (hb.mono low.size)
  replace o15 := o15.below hb
  replace b19 := heap_below b19 hb
  replace b43 := heap_below b43 hb
  replace o88 := o88.below hb
  replace o115 := o115.below hb
  replace b119 := heap_below b119 hb
  replace low := low.trans (hb.mono low.size)
  have q135 := hb.size
  clear hb
  clear c129 c130 c131 c132 c133 c134
  have c136 := (blk (i := 0) b19 rfl).1
  have c137 := (blk (i := 1) b19 rfl).1
  have c138 := (blk (i := 0) b43 rfl).1
  have c139 := (blk (i := 1) b43 rfl).1
  have c140 := (blk (i := 0) b119 rfl).1
  have c141 := (blk (i := 1) b119 rfl).1
  go_wp2_with fail
  refine (heldCircuit_any (1) G33 G36 d35 d38 n10 n13 w128 o88.o0.ints o88.o1.ints (by omega)).mono ?_
  rintro e w142 ⟨rfl, hb⟩
  replace i0 := i0.below (hb.mono low.size)
  replace o15 := o15.below hb
  replace b19 := heap_below b19 hb
  replace b43 := heap_below b43 hb
  replace o88 := o88.below hb
  replace o115 := o115.below hb
  replace b119 := heap_below b119 hb
  replace low := low.trans (hb.mono low.size)
  have q143 := hb.size
  clear hb
  clear c136 c137 c138 c139 c140 c141
  have c144 := (blk (i := 0) b19 rfl).1
  have c145 := (blk (i := 1) b19 rfl).1
  have c146 := (blk (i := 0) b43 rfl).1
  have c147 := (blk (i := 1) b43 rfl).1
  have c148 := (blk (i := 0) b119 rfl).1
  have c149 := (blk (i := 1) b119 rfl).1
  go_wp2_with fail
  go_ret
  exact ⟨by first | rfl | simp, low⟩
end Go.Proofs.Ytklekabjhehopaa

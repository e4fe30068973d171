/- The law FnExactPrune: the walk. -/
import Derived.Test.YtegdlegndgdgiaaProg
import Derived.Test.YtegdlegndgdgiaaB1
import Derived.Test.YtegdlegndgdgiaaC1
import Derived.Test.YtegdlegndgdgiaaSmEi
namespace Go.Proofs.Ytegdlegndgdgiaa
open Go Go.RowKit
set_option maxRecDepth 100000 in
set_option maxHeartbeats 2000000 in
theorem FnExactPrune_walk (A0_0 : Option Addr) (n0_0 c0_0 : Nat) (z0_0 : List Int) (A0_1 : Option Addr) (n0_1 c0_1 : Nat) (z0_1 : List Int) (w : World) (h0_0 : Ints w A0_0 z0_0) (l0_0 : z0_0.length = n0_0 * 3) (m0_0 : n0_0 ≤ 9223372036854775807) (h0_1 : Ints w A0_1 z0_1) (l0_1 : z0_1.length = n0_1) (m0_1 : n0_1 ≤ 9223372036854775807) :
    Calls Try.prog 12 #[.agg #[.slice A0_0 n0_0 c0_0, .slice A0_1 n0_1 c0_1]] w fun e w' => e = .returned (.bool true) ∧ Below w.heap.size w w' := by
  have low : Below w.heap.size w (w.alloc (.cells #[.slice A0_0 n0_0 c0_0, .slice A0_1 n0_1 c0_1] 25)) := (low_alloc (Below.refl _ _) _)
  have L0_0 := Lib.hid l0_0
  have i0_0 := h0_0.bound.below low
  have L0_1 := Lib.hid l0_1
  have i0_1 := h0_1.bound.below low
  clear h0_0 l0_0 h0_1 l0_1
  have b0 := new_at w (.cells #[.slice A0_0 n0_0 c0_0, .slice A0_1 n0_1 c0_1] 25) (w.heap.size) (by simp)
  go_enter Try.func12, Try.ntmps12
  have c1 := (blk (i := 0) b0 rfl).1
  have c2 := (blk (i := 1) b0 rfl).1
  go_wp2_with fail
  generalize hw0 : (w.alloc (.cells #[.slice A0_0 n0_0 c0_0, .slice A0_1 n0_1 c0_1] 25)) = v0 at *
  clear hw0
  have q0 := low.size
  have q00 := heap_lt b0
  clear c1 c2
  have c6 := (blk (i := 0) b0 rfl).1
  have c7 := (blk (i := 1) b0 rfl).1
  go_wp2_with fail
  have s3 := szCircuit_any 1048576 A0_0 A0_1 c0_0 c0_1 n0_0 n0_1 v0 (by omega) m0_0 m0_1
  unfold Sized at s3
  by_cases hn0 : n0_0 + n0_1 ≤ 1048576
  case neg =>
    rw [show szRes 1048576 (n0_0 + n0_1) = -1 by rw [szRes, if_neg hn0]] at s3
    refine s3.mono ?_
    rintro e w5 ⟨rfl, hb⟩
    go_wp2_with fail
    go_ret
    exact ⟨rfl, low.trans (hb.mono low.size)⟩
  rw [show szRes 1048576 (n0_0 + n0_1) = ((1048576 - (n0_0 + n0_1) : Nat) : Int) by rw [szRes, if_pos hn0]] at s3
  have mm0_0 : n0_0 ≤ 1048576 := by omega
  have mm0_1 : n0_1 ≤ 1048576 := by omega
  have zf4 : 1048576 - (n0_0 + n0_1) ≤ 1048576 := by omega
  clear hn0 m0_0 m0_1
  generalize 1048576 - (n0_0 + n0_1) = f4 at *
  refine s3.mono ?_
  rintro e w5 ⟨rfl, hb⟩
  clear s3
  replace b0 := heap_below b0 hb
  replace i0_0 := i0_0.below (hb.mono low.size)
  replace i0_1 := i0_1.below (hb.mono low.size)
  replace low := low.trans (hb.mono low.size)
  have q8 := hb.size
  clear hb
  have yf4 : (0 : Int) ≤ f4 := by omega
  obtain ⟨R0, hR0, bR0⟩ : ∃ r : List Int, pruZ z0_0 n0_0 z0_1 = r ∧ r.length ≤ 5700000 := ⟨_, rfl, by have := pruZ_len (os := z0_1) L0_0.out; have := pruN_le z0_0 z0_1 n0_0; omega⟩
  obtain ⟨R1, hR1, bR1⟩ : ∃ r : List Int, pruO z0_0 n0_0 z0_1 = r ∧ r.length ≤ 1900000 := ⟨_, rfl, by rw [pruO_len]; have := L0_1.out; omega⟩
  have E := Lib.hid (show ∀ w e w', Post_Circuit (pruZ z0_0 n0_0 z0_1) (pruO z0_0 n0_0 z0_1) w e w' → Post_Circuit R0 R1 w e w' from by subst hR0 hR1; intro _ _ _ h; exact h)
  clear hR0 hR1
  clear c6 c7
  have c12 := (blk (i := 0) b0 rfl).1
  have c13 := (blk (i := 1) b0 rfl).1
  go_wp2_with fail
  refine (toCircuit_own A0_0 A0_1 c0_0 c0_1 n0_0 n0_1 z0_0 z0_1 w5 (i0_0.ints low.size) L0_0.out (by omega) (i0_1.ints low.size) L0_1.out (by omega)).mono ?_
  rintro e w14 ⟨X9, X10, rfl, o11, hb⟩
  replace b0 := heap_below b0 hb
  replace i0_0 := i0_0.below (hb.mono low.size)
  replace i0_1 := i0_1.below (hb.mono low.size)
  replace low := low.trans (hb.mono low.size)
  have q15 := hb.size
  clear hb
  clear c12 c13
  have c17 := (blk (i := 0) b0 rfl).1
  have c18 := (blk (i := 1) b0 rfl).1
  go_wp2_with fail
  refine (ex_spec_Prune X9 n0_0 n0_0 z0_0 X10 n0_1 n0_1 z0_1 w14 (o11.o0.ints) L0_0.out (by omega) (o11.o1.ints) L0_1.out (by omega)).mono ?_
  intro e w16 h
  obtain ⟨G19, G22, n20, n23, d21, d24, rfl, o25, hb⟩ := E.out _ _ _ h
  clear h
  replace b0 := heap_below b0 hb
  replace i0_0 := i0_0.below (hb.mono low.size)
  replace i0_1 := i0_1.below (hb.mono low.size)
  replace o11 := o11.below hb
  replace low := low.trans (hb.mono low.size)
  have q26 := hb.size
  clear hb
  clear o11
  have L27 := Lib.hid (o25.o0.len)
  have bnL27 : n20 * 3 ≤ 5700000 := by rw [← L27.out]; exact bR0
  have L28 := Lib.hid (o25.o1.len1)
  have bnL28 : n23 ≤ 1900000 := by rw [← L28.out]; exact bR1
  replace b0 := heap_alloc b0 (.cells #[.slice G19 n20 d21, .slice G22 n23 d24] 31)
  replace i0_0 := i0_0.below ((below_alloc _ (.cells #[.slice G19 n20 d21, .slice G22 n23 d24] 31)).mono low.size)
  replace i0_1 := i0_1.below ((below_alloc _ (.cells #[.slice G19 n20 d21, .slice G22 n23 d24] 31)).mono low.size)
  replace o25 := o25.alloc (.cells #[.slice G19 n20 d21, .slice G22 n23 d24] 31)
  replace low := low_alloc low (.cells #[.slice G19 n20 d21, .slice G22 n23 d24] 31)
  have b29 := heap_alloc_new w16 (.cells #[.slice G19 n20 d21, .slice G22 n23 d24] 31)
  have q30 := heap_lt b29
  clear c17 c18
  have c31 := (blk (i := 0) b0 rfl).1
  have c32 := (blk (i := 1) b0 rfl).1
  have c33 := (blk (i := 0) b29 rfl).1
  have c34 := (blk (i := 1) b29 rfl).1
  go_wp2_with fail
  generalize hg : (w16.alloc (.cells #[.slice G19 n20 d21, .slice G22 n23 d24] 31)) = w35 at *
  clear hg
  clear c31 c32 c33 c34
  have c39 := (blk (i := 0) b0 rfl).1
  have c40 := (blk (i := 1) b0 rfl).1
  have c41 := (blk (i := 0) b29 rfl).1
  have c42 := (blk (i := 1) b29 rfl).1
  go_wp2_with fail
  refine (toCircuit_own A0_0 A0_1 c0_0 c0_1 n0_0 n0_1 z0_0 z0_1 w35 (i0_0.ints low.size) L0_0.out (by omega) (i0_1.ints low.size) L0_1.out (by omega)).mono ?_
  rintro e w43 ⟨X36, X37, rfl, o38, hb⟩
  replace b0 := heap_below b0 hb
  replace i0_0 := i0_0.below (hb.mono low.size)
  replace i0_1 := i0_1.below (hb.mono low.size)
  replace o25 := o25.below hb
  replace b29 := heap_below b29 hb
  replace low := low.trans (hb.mono low.size)
  have q44 := hb.size
  clear hb
  replace b0 := heap_alloc b0 (.cells #[.slice X36 n0_0 n0_0, .slice X37 n0_1 n0_1] 31)
  replace i0_0 := i0_0.below ((below_alloc _ (.cells #[.slice X36 n0_0 n0_0, .slice X37 n0_1 n0_1] 31)).mono low.size)
  replace i0_1 := i0_1.below ((below_alloc _ (.cells #[.slice X36 n0_0 n0_0, .slice X37 n0_1 n0_1] 31)).mono low.size)
  replace o25 := o25.alloc (.cells #[.slice X36 n0_0 n0_0, .slice X37 n0_1 n0_1] 31)
  replace b29 := heap_alloc b29 (.cells #[.slice X36 n0_0 n0_0, .slice X37 n0_1 n0_1] 31)
  replace o38 := o38.alloc (.cells #[.slice X36 n0_0 n0_0, .slice X37 n0_1 n0_1] 31)
  replace low := low_alloc low (.cells #[.slice X36 n0_0 n0_0, .slice X37 n0_1 n0_1] 31)
  have b45 := heap_alloc_new w43 (.cells #[.slice X36 n0_0 n0_0, .slice X37 n0_1 n0_1] 31)
  have q46 := heap_lt b45
  clear c39 c40 c41 c42
  have c47 := (blk (i := 0) b0 rfl).1
  have c48 := (blk (i := 1) b0 rfl).1
  have c49 := (blk (i := 0) b29 rfl).1
  have c50 := (blk (i := 1) b29 rfl).1
  have c51 := (blk (i := 0) b45 rfl).1
  have c52 := (blk (i := 1) b45 rfl).1
  go_wp2_with fail
  generalize hg : (w43.alloc (.cells #[.slice X36 n0_0 n0_0, .slice X37 n0_1 n0_1] 31)) = w53 at *
  clear hg
  clear c47 c48 c49 c50 c51 c52
  have c55 := (blk (i := 0) b0 rfl).1
  have c56 := (blk (i := 1) b0 rfl).1
  have c57 := (blk (i := 0) b29 rfl).1
  have c58 := (blk (i := 1) b29 rfl).1
  have c59 := (blk (i := 0) b45 rfl).1
  have c60 := (blk (i := 1) b45 rfl).1
  go_wp2_with fail
  refine (ex_impl_Prune X36 n0_0 n0_0 z0_0 X37 n0_1 n0_1 z0_1 w53 (o38.o0.ints) L0_0.out (by omega) (o38.o1.ints) L0_1.out (by omega)).mono ?_
  intro e w54 h
  obtain ⟨G61, G64, n62, n65, d63, d66, rfl, o67, hb⟩ := E.out _ _ _ h
  clear h
  replace b0 := heap_below b0 hb
  replace i0_0 := i0_0.below (hb.mono low.size)
  replace i0_1 := i0_1.below (hb.mono low.size)
  replace o25 := o25.below hb
  replace b29 := heap_below b29 hb
  replace o38 := o38.below hb
  replace b45 := heap_below b45 hb
  replace low := low.trans (hb.mono low.size)
  have q68 := hb.size
  clear hb
  have hl69 := o67.o0.len
  obtain rfl : n20 = n62 := by have := L27.out; omega
  clear hl69
  have hl70 := o67.o1.len1
  obtain rfl : n23 = n65 := by rw [← hl70, L28.out]
  clear hl70
  replace b0 := heap_alloc b0 (.cells #[.slice G61 n20 d63, .slice G64 n23 d66] 31)
  replace i0_0 := i0_0.below ((below_alloc _ (.cells #[.slice G61 n20 d63, .slice G64 n23 d66] 31)).mono low.size)
  replace i0_1 := i0_1.below ((below_alloc _ (.cells #[.slice G61 n20 d63, .slice G64 n23 d66] 31)).mono low.size)
  replace o25 := o25.alloc (.cells #[.slice G61 n20 d63, .slice G64 n23 d66] 31)
  replace b29 := heap_alloc b29 (.cells #[.slice G61 n20 d63, .slice G64 n23 d66] 31)
  replace o38 := o38.alloc (.cells #[.slice G61 n20 d63, .slice G64 n23 d66] 31)
  replace b45 := heap_alloc b45 (.cells #[.slice G61 n20 d63, .slice G64 n23 d66] 31)
  replace o67 := o67.alloc (.cells #[.slice G61 n20 d63, .slice G64 n23 d66] 31)
  replace low := low_alloc low (.cells #[.slice G61 n20 d63, .slice G64 n23 d66] 31)
  have b71 := heap_alloc_new w54 (.cells #[.slice G61 n20 d63, .slice G64 n23 d66] 31)
  have q72 := heap_lt b71
  clear c55 c56 c57 c58 c59 c60
  have c73 := (blk (i := 0) b0 rfl).1
  have c74 := (blk (i := 1) b0 rfl).1
  have c75 := (blk (i := 0) b29 rfl).1
  have c76 := (blk (i := 1) b29 rfl).1
  have c77 := (blk (i := 0) b45 rfl).1
  have c78 := (blk (i := 1) b45 rfl).1
  have c79 := (blk (i := 0) b71 rfl).1
  have c80 := (blk (i := 1) b71 rfl).1
  go_wp2_with fail
  generalize hg : (w54.alloc (.cells #[.slice G61 n20 d63, .slice G64 n23 d66] 31)) = w81 at *
  clear hg
  clear c73 c74 c75 c76 c77 c78 c79 c80
  have c83 := (blk (i := 0) b0 rfl).1
  have c84 := (blk (i := 1) b0 rfl).1
  have c85 := (blk (i := 0) b29 rfl).1
  have c86 := (blk (i := 1) b29 rfl).1
  have c87 := (blk (i := 0) b45 rfl).1
  have c88 := (blk (i := 1) b45 rfl).1
  have c89 := (blk (i := 0) b71 rfl).1
  have c90 := (blk (i := 1) b71 rfl).1
  go_wp2_with fail
  refine (eqCircuit_same G61 G64 d63 d66 G19 G22 d21 d24 n20 n23 R0 R1 w81 o67.o0.ints o25.o0.ints L27.out (by omega) o67.o1.ints o25.o1.ints L28.out (by omega)).mono ?_
  rintro e w82 ⟨rfl, hb⟩
  replace b0 := heap_below b0 hb
  replace i0_0 := i0_0.below (hb.mono low.size)
  replace i0_1 := i0_1.below (hb.mono low.size)
  replace o25 := o25.below hb
  replace b29 := heap_below b29 hb
  replace o38 := o38.below hb
  replace b45 := heap_below b45 hb
  replace o67 := o67.below hb
  replace b71 := heap_below b71 hb
  replace low := low.trans (hb.mono low.size)
  have q91 := hb.size
  clear hb
  clear c83 c84 c85 c86 c87 c88 c89 c90
  have c95 := (blk (i := 0) b0 rfl).1
  have c96 := (blk (i := 1) b0 rfl).1
  have c97 := (blk (i := 0) b29 rfl).1
  have c98 := (blk (i := 1) b29 rfl).1
  have c99 := (blk (i := 0) b45 rfl).1
  have c100 := (blk (i := 1) b45 rfl).1
  have c101 := (blk (i := 0) b71 rfl).1
  have c102 := (blk (i := 1) b71 rfl).1
  go_upto_region 10 with (fail)
  go_cut [31] (fun s wx => s = .bool false ∧ Below w82.heap.size w82 wx)
  case first =>
    have lowd := low.drew
    have o38d := o38.drew
    go_wp2_with fail
    go_region_law (first
      | (go_simp; go_at_call 16; (with_reducible refine (toCircuit_own A0_0 A0_1 c0_0 c0_1 n0_0 n0_1 z0_0 z0_1 _ ((ints_drew i0_0 low)) L0_0.out (by omega) ((ints_drew i0_1 low)) L0_1.out (by omega)).mono ?_); rintro e w103 ⟨X92, X93, rfl, o94, hb1⟩; (have ox := o38d.below hb1); (have bx0 := heap_below (w := w82.drew) b45 hb1); (have cx00 := (blk (i := 0) bx0 rfl).1); (have cx01 := (blk (i := 1) bx0 rfl).1))
      | (go_simp; go_at_call 20; (with_reducible refine (eqCircuit_same X36 X37 n0_0 n0_1 X92 X93 n0_0 n0_1 n0_0 n0_1 z0_0 z0_1 _ ox.o0.ints o94.o0.ints L0_0.out (by omega) ox.o1.ints o94.o1.ints L0_1.out (by omega)).mono ?_); rintro e w104 ⟨rfl, hb2⟩))
    all_goals
      have hb := ((Below.refl w82.heap.size w82).drew.trans hb1).trans (hb2.mono (by have := hb1.size; exact this))
      go_wp2_with fail
      go_meet
      exact ⟨rfl, hb⟩
  case rest =>
    clear c95 c96 c97 c98 c99 c100 c101 c102
    obtain ⟨rfl, hb⟩ := hcut
    obtain ⟨w105, rfl⟩ : ∃ w105 : World, w105 = wc := ⟨_, rfl⟩
    replace b0 := heap_below b0 hb
    replace i0_0 := i0_0.below (hb.mono low.size)
    replace i0_1 := i0_1.below (hb.mono low.size)
    replace o25 := o25.below hb
    replace b29 := heap_below b29 hb
    replace o38 := o38.below hb
    replace b45 := heap_below b45 hb
    replace o67 := o67.below hb
    replace b71 := heap_below b71 hb
    replace low := low.trans (hb.mono low.size)
    have q106 := hb.size
    clear hb
    have c108 := (blk (i := 0) b0 rfl).1
    have c109 := (blk (i := 1) b0 rfl).1
    have c110 := (blk (i := 0) b29 rfl).1
    have c111 := (blk (i := 1) b29 rfl).1
    have c112 := (blk (i := 0) b45 rfl).1
    have c113 := (blk (i := 1) b45 rfl).1
    have c114 := (blk (i := 0) b71 rfl).1
    have c115 := (blk (i := 1) b71 rfl).1
    go_wp2_with fail
    refine (markCircuit_own w35.heap.size (w43.heap.size) (1) X36 X37 n0_0 n0_1 n0_0 n0_1 z0_0 z0_1 w105 o38 (by omega) (by omega)).mono ?_
    rintro e w107 ⟨rfl, o116, mg, ms⟩
    clear o38
    clear ms
    replace b0 := mg.heap b0 (by omega)
    replace i0_0 := i0_0.mid mg (by omega) low.size
    replace i0_1 := i0_1.mid mg (by omega) low.size
    replace o25 := o25.mid mg (by omega)
    replace b29 := mg.heap b29 (by omega)
    replace b45 := mg.heap b45 (by omega)
    replace o67 := o67.mid mg (by omega)
    replace b71 := mg.heap b71 (by omega)
    replace low := mg.below low (by omega) low.size
    have q117 := mg.size
    clear mg
    clear o116
    clear b45
    clear c108 c109 c110 c111 c112 c113 c114 c115
    have c119 := (blk (i := 0) b0 rfl).1
    have c120 := (blk (i := 1) b0 rfl).1
    have c121 := (blk (i := 0) b29 rfl).1
    have c122 := (blk (i := 1) b29 rfl).1
    have c123 := (blk (i := 0) b71 rfl).1
    have c124 := (blk (i := 1) b71 rfl).1
    go_wp2_with fail
    refine (eqCircuit_same G61 G64 d63 d66 G19 G22 d21 d24 n20 n23 R0 R1 w107 o67.o0.ints o25.o0.ints L27.out (by omega) o67.o1.ints o25.o1.ints L28.out (by omega)).mono ?_
    rintro e w118 ⟨rfl, hb⟩
    replace b0 := heap_below b0 hb
    replace i0_0 := i0_0.below (hb.mono low.size)
    replace i0_1 := i0_1.below (hb.mono low.size)
    replace o25 := o25.below hb
    replace b29 := heap_below b29 hb
    replace o67 := o67.below hb
    replace b71 := heap_below b71 hb
    replace low := low.trans (hb.mono low.size)
    have q125 := hb.size
    clear hb
    clear c119 c120 c121 c122 c123 c124
    have c127 := (blk (i := 0) b0 rfl).1
    have c128 := (blk (i := 1) b0 rfl).1
    have c129 := (blk (i := 0) b29 rfl).1
    have c130 := (blk (i := 1) b29 rfl).1
    have c131 := (blk (i := 0) b71 rfl).1
    have c132 := (blk (i := 1) b71 rfl).1
    go_wp2_with fail
    refine (markCircuit_own w53.heap.size (w54.heap.size) (1) G61 G64 d63 d66 n20 n23 R0 R1 w118 o67 (by omega) (by omega)).mono ?_
    rintro e w126 ⟨rfl, o133, mg, ms⟩
    clear o67
    clear ms
    replace b0 := mg.heap b0 (by omega)
    replace i0_0 := i0_0.mid mg (by omega) low.size
    replace i0_1 := i0_1.mid mg (by omega) low.size
    replace o25 := o25.mid mg (by omega)
    replace b29 := mg.heap b29 (by omega)
    replace b71 := mg.heap b71 (by omega)
    replace low := mg.below low (by omega) low.size
    have q134 := mg.size
    clear mg
    clear c127 c128 c129 c130 c131 c132
    have c135 := (blk (i := 0) b0 rfl).1
    have c136 := (blk (i := 1) b0 rfl).1
    have c137 := (blk (i := 0) b29 rfl).1
    have c138 := (blk (i := 1) b29 rfl).1
    have c139 := (blk (i := 0) b71 rfl).1
    have c140 := (blk (i := 1) b71 rfl).1
    go_wp2_with fail
    refine (heldCircuit_any (1) G61 G64 d63 d66 n20 n23 w126 o133.o0.ints o133.o1.ints (by omega)).mono ?_
    rintro e w141 ⟨rfl, hb⟩
    replace b0 := heap_below b0 hb
    replace i0_0 := i0_0.below (hb.mono low.size)
    replace i0_1 := i0_1.below (hb.mono low.size)
    replace o25 := o25.below hb
    replace b29 := heap_below b29 hb
    replace b71 := heap_below b71 hb
    replace o133 := o133.below hb
    replace low := low.trans (hb.mono low.size)
    have q142 := hb.size
    clear hb
    clear c135 c136 c137 c138 c139 c140
    have c146 := (blk (i := 0) b0 rfl).1
    have c147 := (blk (i := 1) b0 rfl).1
    have c148 := (blk (i := 0) b29 rfl).1
    have c149 := (blk (i := 1) b29 rfl).1
    have c150 := (blk (i := 0) b71 rfl).1
    have c151 := (blk (i := 1) b71 rfl).1
    go_wp2_with fail
    refine (toCircuit_own A0_0 A0_1 c0_0 c0_1 n0_0 n0_1 z0_0 z0_1 w141 (i0_0.ints low.size) L0_0.out (by omega) (i0_1.ints low.size) L0_1.out (by omega)).mono ?_
    rintro e w152 ⟨X143, X144, rfl, o145, hb⟩
    replace b0 := heap_below b0 hb
    replace i0_0 := i0_0.below (hb.mono low.size)
    replace i0_1 := i0_1.below (hb.mono low.size)
    replace o25 := o25.below hb
    replace b29 := heap_below b29 hb
    replace b71 := heap_below b71 hb
    replace o133 := o133.below hb
    replace low := low.trans (hb.mono low.size)
    have q153 := hb.size
    clear hb
    clear c146 c147 c148 c149 c150 c151
    have c155 := (blk (i := 0) b0 rfl).1
    have c156 := (blk (i := 1) b0 rfl).1
    have c157 := (blk (i := 0) b29 rfl).1
    have c158 := (blk (i := 1) b29 rfl).1
    have c159 := (blk (i := 0) b71 rfl).1
    have c160 := (blk (i := 1) b71 rfl).1
    go_wp2_with fail
    refine (ex_impl_Prune X143 n0_0 n0_0 z0_0 X144 n0_1 n0_1 z0_1 w152 (o145.o0.ints) L0_0.out (by omega) (o145.o1.ints) L0_1.out (by omega)).mono ?_
    intro e w154 h
    obtain ⟨G161, G164, n162, n165, d163, d166, rfl, o167, hb⟩ := E.out _ _ _ h
    clear h
    replace b0 := heap_below b0 hb
    replace i0_0 := i0_0.below (hb.mono low.size)
    replace i0_1 := i0_1.below (hb.mono low.size)
    replace o25 := o25.below hb
    replace b29 := heap_below b29 hb
    replace b71 := heap_below b71 hb
    replace o133 := o133.below hb
    replace o145 := o145.below hb
    replace low := low.trans (hb.mono low.size)
    have q168 := hb.size
    clear hb
    clear o145
    have hl169 := o167.o0.len
    obtain rfl : n20 = n162 := by have := L27.out; omega
    clear hl169
    have hl170 := o167.o1.len1
    obtain rfl : n23 = n165 := by rw [← hl170, L28.out]
    clear hl170
    replace b0 := heap_alloc b0 (.cells #[.slice G161 n20 d163, .slice G164 n23 d166] 31)
    replace i0_0 := i0_0.below ((below_alloc _ (.cells #[.slice G161 n20 d163, .slice G164 n23 d166] 31)).mono low.size)
    replace i0_1 := i0_1.below ((below_alloc _ (.cells #[.slice G161 n20 d163, .slice G164 n23 d166] 31)).mono low.size)
    replace o25 := o25.alloc (.cells #[.slice G161 n20 d163, .slice G164 n23 d166] 31)
    replace b29 := heap_alloc b29 (.cells #[.slice G161 n20 d163, .slice G164 n23 d166] 31)
    replace b71 := heap_alloc b71 (.cells #[.slice G161 n20 d163, .slice G164 n23 d166] 31)
    replace o133 := o133.alloc (.cells #[.slice G161 n20 d163, .slice G164 n23 d166] 31)
    replace o167 := o167.alloc (.cells #[.slice G161 n20 d163, .slice G164 n23 d166] 31)
    replace low := low_alloc low (.cells #[.slice G161 n20 d163, .slice G164 n23 d166] 31)
    have b171 := heap_alloc_new w154 (.cells #[.slice G161 n20 d163, .slice G164 n23 d166] 31)
    have q172 := heap_lt b171
    clear c155 c156 c157 c158 c159 c160
    have c173 := (blk (i := 0) b0 rfl).1
    have c174 := (blk (i := 1) b0 rfl).1
    have c175 := (blk (i := 0) b29 rfl).1
    have c176 := (blk (i := 1) b29 rfl).1
    have c177 := (blk (i := 0) b71 rfl).1
    have c178 := (blk (i := 1) b71 rfl).1
    have c179 := (blk (i := 0) b171 rfl).1
    have c180 := (blk (i := 1) b171 rfl).1
    go_wp2_with fail
    generalize hg : (w154.alloc (.cells #[.slice G161 n20 d163, .slice G164 n23 d166] 31)) = w181 at *
    clear hg
    clear c173 c174 c175 c176 c177 c178 c179 c180
    have c183 := (blk (i := 0) b0 rfl).1
    have c184 := (blk (i := 1) b0 rfl).1
    have c185 := (blk (i := 0) b29 rfl).1
    have c186 := (blk (i := 1) b29 rfl).1
    have c187 := (blk (i := 0) b71 rfl).1
    have c188 := (blk (i := 1) b71 rfl).1
    have c189 := (blk (i := 0) b171 rfl).1
    have c190 := (blk (i := 1) b171 rfl).1
    go_wp2_with fail
    refine (eqCircuit_same G161 G164 d163 d166 G19 G22 d21 d24 n20 n23 R0 R1 w181 o167.o0.ints o25.o0.ints L27.out (by omega) o167.o1.ints o25.o1.ints L28.out (by omega)).mono ?_
    rintro e w182 ⟨rfl, hb⟩
    replace b0 := heap_below b0 hb
    replace i0_0 := i0_0.below (hb.mono low.size)
    replace i0_1 := i0_1.below (hb.mono low.size)
    replace o25 := o25.below hb
    replace b29 := heap_below b29 hb
    replace b71 := heap_below b71 hb
    replace o133 := o133.below hb
    replace o167 := o167.below hb
    replace b171 := heap_below b171 hb
    replace low := low.trans (hb.mono low.size)
    have q191 := hb.size
    clear hb
    clear c183 c184 c185 c186 c187 c188 c189 c190
    have c192 := (blk (i := 0) b0 rfl).1
    have c193 := (blk (i := 1) b0 rfl).1
    have c194 := (blk (i := 0) b29 rfl).1
    have c195 := (blk (i := 1) b29 rfl).1
    have c196 := (blk (i := 0) b71 rfl).1
    have c197 := (blk (i := 1) b71 rfl).1
    have c198 := (blk (i := 0) b171 rfl).1
    have c199 := (blk (i := 1) b171 rfl).1
    go_wp2_with fail
    refine (heldCircuit_any (1) G61 G64 d63 d66 n20 n23 w182 o133.o0.ints o133.o1.ints (by omega)).mono ?_
    rintro e w200 ⟨rfl, hb⟩
    replace b0 := heap_below b0 hb
    replace i0_0 := i0_0.below (hb.mono low.size)
    replace i0_1 := i0_1.below (hb.mono low.size)
    replace o25 := o25.below hb
    replace b29 := heap_below b29 hb
    replace b71 := heap_below b71 hb
    replace o133 := o133.below hb
    replace o167 := o167.below hb
    replace b171 := heap_below b171 hb
    replace low := low.trans (hb.mono low.size)
    have q201 := hb.size
    clear hb
    clear c192 c193 c194 c195 c196 c197 c198 c199
    have c202 := (blk (i := 0) b0 rfl).1
    have c203 := (blk (i := 1) b0 rfl).1
    have c204 := (blk (i := 0) b29 rfl).1
    have c205 := (blk (i := 1) b29 rfl).1
    have c206 := (blk (i := 0) b71 rfl).1
    have c207 := (blk (i := 1) b71 rfl).1
    have c208 := (blk (i := 0) b171 rfl).1
    have c209 := (blk (i := 1) b171 rfl).1
    go_wp2_with fail
    go_ret
    exact ⟨by first | rfl | simp, low⟩
end Go.Proofs.Ytegdlegndgdgiaa

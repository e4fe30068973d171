/- The law FnExactRunCircuit: the walk. -/
import Derived.Test.YtbbdmgomcpmhpaaProg
import Derived.Test.YtbbdmgomcpmhpaaB1
import Derived.Test.YtbbdmgomcpmhpaaC1
import Derived.Test.YtbbdmgomcpmhpaaIntSS
import Derived.Test.YtbbdmgomcpmhpaaCmX
namespace Go.Proofs.Ytbbdmgomcpmhpaa
open Go Go.RowKit
set_option maxRecDepth 100000 in
set_option maxHeartbeats 2000000 in
theorem FnExactRunCircuit_walk (A0_0 : Option Addr) (n0_0 c0_0 : Nat) (z0_0 : List Int) (A0_1 : Option Addr) (n0_1 c0_1 : Nat) (z0_1 : List Int) (A1 : Option Addr) (n1 c1 : Nat) (z1 : List (List Int)) (w : World) (h0_0 : Ints w A0_0 z0_0) (l0_0 : z0_0.length = n0_0 * 3) (m0_0 : n0_0 ≤ 9223372036854775807) (h0_1 : Ints w A0_1 z0_1) (l0_1 : z0_1.length = n0_1) (m0_1 : n0_1 ≤ 9223372036854775807) (h1 : Rows w.heap.size w A1 z1) (l1 : z1.length = n1) (m1 : n1 ≤ 9223372036854775807) (r1 : ∀ r ∈ z1, r.length ≤ 9223372036854775807) :
    Calls Try.prog 4 #[.agg #[.slice A0_0 n0_0 c0_0, .slice A0_1 n0_1 c0_1], .slice A1 n1 c1] w fun e w' => e = .returned (.bool true) ∧ Below w.heap.size w w' := by
  have low : Below w.heap.size w (w.alloc (.cells #[.slice A0_0 n0_0 c0_0, .slice A0_1 n0_1 c0_1] 39)) := (low_alloc (Below.refl _ _) _)
  have L0_0 := Lib.hid l0_0
  have i0_0 := h0_0.bound.below low
  have L0_1 := Lib.hid l0_1
  have i0_1 := h0_1.bound.below low
  have L1 := Lib.hid l1
  have i1 := h1.below low
  clear h0_0 l0_0 h0_1 l0_1 h1 l1
  have b0 := new_at w (.cells #[.slice A0_0 n0_0 c0_0, .slice A0_1 n0_1 c0_1] 39) (w.heap.size) (by simp)
  go_enter Try.func4, Try.ntmps4
  have c1 := (blk (i := 0) b0 rfl).1
  have c2 := (blk (i := 1) b0 rfl).1
  go_wp2_with fail
  generalize hw0 : (w.alloc (.cells #[.slice A0_0 n0_0 c0_0, .slice A0_1 n0_1 c0_1] 39)) = v0 at *
  clear hw0
  have q0 := low.size
  have q00 := heap_lt b0
  clear c1 c2
  have c6 := (blk (i := 0) b0 rfl).1
  have c7 := (blk (i := 1) b0 rfl).1
  go_wp2_with fail
  have s3 := szCircuit_any 1048576 A0_0 A0_1 c0_0 c0_1 n0_0 n0_1 v0 (by omega) m0_0 m0_1
  unfold Sized at s3
  by_cases hn0 : n0_0 + n0_1 ≤ 1048576
  case neg =>
    rw [show szRes 1048576 (n0_0 + n0_1) = -1 by rw [szRes, if_neg hn0]] at s3
    refine s3.mono ?_
    rintro e w5 ⟨rfl, hb⟩
    go_wp2_with fail
    go_ret
    exact ⟨rfl, low.trans (hb.mono low.size)⟩
  rw [show szRes 1048576 (n0_0 + n0_1) = ((1048576 - (n0_0 + n0_1) : Nat) : Int) by rw [szRes, if_pos hn0]] at s3
  have mm0_0 : n0_0 ≤ 1048576 := by omega
  have mm0_1 : n0_1 ≤ 1048576 := by omega
  have zf4 : 1048576 - (n0_0 + n0_1) ≤ 1048576 := by omega
  clear hn0 m0_0 m0_1
  generalize 1048576 - (n0_0 + n0_1) = f4 at *
  refine s3.mono ?_
  rintro e w5 ⟨rfl, hb⟩
  clear s3
  replace b0 := heap_below b0 hb
  replace i0_0 := i0_0.below (hb.mono low.size)
  replace i0_1 := i0_1.below (hb.mono low.size)
  replace i1 := i1.below (hb.mono low.size)
  replace low := low.trans (hb.mono low.size)
  have q8 := hb.size
  clear hb
  have yf4 : (0 : Int) ≤ f4 := by omega
  clear c6 c7
  have c12 := (blk (i := 0) b0 rfl).1
  have c13 := (blk (i := 1) b0 rfl).1
  go_wp2_with fail
  have s9 := szIntSS_any f4 A1 n1 c1 z1 w5 (i1.ints low.size) L1.out (by omega) m1 r1
  by_cases hn1 : n1 + tot z1 ≤ f4
  case neg =>
    rw [show szRes f4 (n1 + tot z1) = -1 by rw [szRes, if_neg hn1]] at s9
    refine s9.mono ?_
    rintro e w11 ⟨rfl, rfl⟩
    go_wp2_with fail
    go_ret
    exact ⟨rfl, low⟩
  rw [show szRes f4 (n1 + tot z1) = ((f4 - (n1 + tot z1) : Nat) : Int) by rw [szRes, if_pos hn1]] at s9
  have mm1 : n1 ≤ 1048576 := by omega
  have mt1 : tot z1 ≤ 1048576 := by omega
  have zf10 : f4 - (n1 + tot z1) ≤ 1048576 := by omega
  clear hn1 m1 r1
  generalize f4 - (n1 + tot z1) = f10 at *
  refine s9.mono ?_
  rintro e w11 ⟨rfl, rfl⟩
  clear s9
  have yf10 : (0 : Int) ≤ f10 := by omega
  obtain ⟨R0, hR0, bR0⟩ : ∃ r : List Int, runC z0_0 n0_0 z0_1 z1 = r ∧ r.length ≤ 1900000 := ⟨_, rfl, by have := runC_len z0_0 n0_0 z0_1 z1; have := L0_1.out; omega⟩
  obtain ⟨R1, hR1⟩ : ∃ r, decide (runsC z0_0 n0_0 z0_1 z1) = r := ⟨_, rfl⟩
  have E := Lib.hid (show ∀ w e w', Post_A_bool (runC z0_0 n0_0 z0_1 z1) (decide (runsC z0_0 n0_0 z0_1 z1)) w e w' → Post_A_bool R0 R1 w e w' from by subst hR0 hR1; intro _ _ _ h; exact h)
  clear hR0 hR1
  clear c12 c13
  have c17 := (blk (i := 0) b0 rfl).1
  have c18 := (blk (i := 1) b0 rfl).1
  go_wp2_with fail
  refine (toCircuit_own A0_0 A0_1 c0_0 c0_1 n0_0 n0_1 z0_0 z0_1 w5 (i0_0.ints low.size) L0_0.out (by omega) (i0_1.ints low.size) L0_1.out (by omega)).mono ?_
  rintro e w19 ⟨X14, X15, rfl, o16, hb⟩
  replace b0 := heap_below b0 hb
  replace i0_0 := i0_0.below (hb.mono low.size)
  replace i0_1 := i0_1.below (hb.mono low.size)
  replace i1 := i1.below (hb.mono low.size)
  replace low := low.trans (hb.mono low.size)
  have q20 := hb.size
  clear hb
  clear c17 c18
  have c24 := (blk (i := 0) b0 rfl).1
  have c25 := (blk (i := 1) b0 rfl).1
  go_wp2_with fail
  refine (toIntSS_own A1 n1 c1 z1 w19 (i1.ints low.size) L1.out (by omega) (by omega)).mono ?_
  rintro e w26 ⟨X21, U22, rfl, o23, hb⟩
  replace b0 := heap_below b0 hb
  replace i0_0 := i0_0.below (hb.mono low.size)
  replace i0_1 := i0_1.below (hb.mono low.size)
  replace i1 := i1.below (hb.mono low.size)
  replace o16 := o16.below hb
  replace low := low.trans (hb.mono low.size)
  have q27 := hb.size
  clear hb
  clear c24 c25
  have c29 := (blk (i := 0) b0 rfl).1
  have c30 := (blk (i := 1) b0 rfl).1
  go_wp2_with fail
  refine (ex_spec_RunCircuit X14 n0_0 n0_0 z0_0 X15 n0_1 n0_1 z0_1 X21 n1 n1 z1 w26 (o16.o0.ints) L0_0.out (by omega) (o16.o1.ints) L0_1.out (by omega) (o23.ints) L1.out (by omega)).mono ?_
  intro e w28 h
  obtain ⟨G31, n32, d33, rfl, o34, hb⟩ := E.out _ _ _ h
  clear h
  replace b0 := heap_below b0 hb
  replace i0_0 := i0_0.below (hb.mono low.size)
  replace i0_1 := i0_1.below (hb.mono low.size)
  replace i1 := i1.below (hb.mono low.size)
  replace o16 := o16.below hb
  replace o23 := o23.below hb
  replace low := low.trans (hb.mono low.size)
  have q35 := hb.size
  clear hb
  clear o16
  clear o23
  have L36 := Lib.hid (o34.len1)
  have bnL36 : n32 ≤ 1900000 := by rw [← L36.out]; exact bR0
  clear c29 c30
  have c40 := (blk (i := 0) b0 rfl).1
  have c41 := (blk (i := 1) b0 rfl).1
  go_wp2_with fail
  refine (toCircuit_own A0_0 A0_1 c0_0 c0_1 n0_0 n0_1 z0_0 z0_1 w28 (i0_0.ints low.size) L0_0.out (by omega) (i0_1.ints low.size) L0_1.out (by omega)).mono ?_
  rintro e w42 ⟨X37, X38, rfl, o39, hb⟩
  replace b0 := heap_below b0 hb
  replace i0_0 := i0_0.below (hb.mono low.size)
  replace i0_1 := i0_1.below (hb.mono low.size)
  replace i1 := i1.below (hb.mono low.size)
  replace o34 := o34.below hb
  replace low := low.trans (hb.mono low.size)
  have q43 := hb.size
  clear hb
  replace b0 := heap_alloc b0 (.cells #[.slice X37 n0_0 n0_0, .slice X38 n0_1 n0_1] 27)
  replace i0_0 := i0_0.below ((below_alloc _ (.cells #[.slice X37 n0_0 n0_0, .slice X38 n0_1 n0_1] 27)).mono low.size)
  replace i0_1 := i0_1.below ((below_alloc _ (.cells #[.slice X37 n0_0 n0_0, .slice X38 n0_1 n0_1] 27)).mono low.size)
  replace i1 := i1.below ((below_alloc _ (.cells #[.slice X37 n0_0 n0_0, .slice X38 n0_1 n0_1] 27)).mono low.size)
  replace o34 := o34.alloc (.cells #[.slice X37 n0_0 n0_0, .slice X38 n0_1 n0_1] 27)
  replace o39 := o39.alloc (.cells #[.slice X37 n0_0 n0_0, .slice X38 n0_1 n0_1] 27)
  replace low := low_alloc low (.cells #[.slice X37 n0_0 n0_0, .slice X38 n0_1 n0_1] 27)
  have b44 := heap_alloc_new w42 (.cells #[.slice X37 n0_0 n0_0, .slice X38 n0_1 n0_1] 27)
  have q45 := heap_lt b44
  clear c40 c41
  have c46 := (blk (i := 0) b0 rfl).1
  have c47 := (blk (i := 1) b0 rfl).1
  have c48 := (blk (i := 0) b44 rfl).1
  have c49 := (blk (i := 1) b44 rfl).1
  go_wp2_with fail
  generalize hg : (w42.alloc (.cells #[.slice X37 n0_0 n0_0, .slice X38 n0_1 n0_1] 27)) = w50 at *
  clear hg
  clear c46 c47 c48 c49
  have c54 := (blk (i := 0) b0 rfl).1
  have c55 := (blk (i := 1) b0 rfl).1
  have c56 := (blk (i := 0) b44 rfl).1
  have c57 := (blk (i := 1) b44 rfl).1
  go_wp2_with fail
  refine (toIntSS_own A1 n1 c1 z1 w50 (i1.ints low.size) L1.out (by omega) (by omega)).mono ?_
  rintro e w58 ⟨X51, U52, rfl, o53, hb⟩
  replace b0 := heap_below b0 hb
  replace i0_0 := i0_0.below (hb.mono low.size)
  replace i0_1 := i0_1.below (hb.mono low.size)
  replace i1 := i1.below (hb.mono low.size)
  replace o34 := o34.below hb
  replace o39 := o39.below hb
  replace b44 := heap_below b44 hb
  replace low := low.trans (hb.mono low.size)
  have q59 := hb.size
  clear hb
  clear c54 c55 c56 c57
  have c61 := (blk (i := 0) b0 rfl).1
  have c62 := (blk (i := 1) b0 rfl).1
  have c63 := (blk (i := 0) b44 rfl).1
  have c64 := (blk (i := 1) b44 rfl).1
  go_wp2_with fail
  refine (ex_impl_RunCircuit X37 n0_0 n0_0 z0_0 X38 n0_1 n0_1 z0_1 X51 n1 n1 z1 w58 (o39.o0.ints) L0_0.out (by omega) (o39.o1.ints) L0_1.out (by omega) (o53.ints) L1.out (by omega)).mono ?_
  intro e w60 h
  obtain ⟨G65, n66, d67, rfl, o68, hb⟩ := E.out _ _ _ h
  clear h
  replace b0 := heap_below b0 hb
  replace i0_0 := i0_0.below (hb.mono low.size)
  replace i0_1 := i0_1.below (hb.mono low.size)
  replace i1 := i1.below (hb.mono low.size)
  replace o34 := o34.below hb
  replace o39 := o39.below hb
  replace b44 := heap_below b44 hb
  replace o53 := o53.below hb
  replace low := low.trans (hb.mono low.size)
  have q69 := hb.size
  clear hb
  have hl70 := o68.len1
  obtain rfl : n32 = n66 := by rw [← hl70, L36.out]
  clear hl70
  clear c61 c62 c63 c64
  have c72 := (blk (i := 0) b0 rfl).1
  have c73 := (blk (i := 1) b0 rfl).1
  have c74 := (blk (i := 0) b44 rfl).1
  have c75 := (blk (i := 1) b44 rfl).1
  go_wp2_with fail
  refine (eqIntS_same n32 n32 d67 d33 G65 G31 R0 R0 w60 o68.ints o34.ints rfl L36.out L36.out (by omega)).mono ?_
  rintro e w71 ⟨rfl, hb⟩
  replace b0 := heap_below b0 hb
  replace i0_0 := i0_0.below (hb.mono low.size)
  replace i0_1 := i0_1.below (hb.mono low.size)
  replace i1 := i1.below (hb.mono low.size)
  replace o34 := o34.below hb
  replace o39 := o39.below hb
  replace b44 := heap_below b44 hb
  replace o53 := o53.below hb
  replace o68 := o68.below hb
  replace low := low.trans (hb.mono low.size)
  have q76 := hb.size
  clear hb
  clear c72 c73 c74 c75
  have c80 := (blk (i := 0) b0 rfl).1
  have c81 := (blk (i := 1) b0 rfl).1
  have c82 := (blk (i := 0) b44 rfl).1
  have c83 := (blk (i := 1) b44 rfl).1
  go_upto_region 14 with (fail)
  go_cut [58] (fun s wx => s = .bool false ∧ Below w71.heap.size w71 wx)
  case first =>
    have lowd := low.drew
    have o39d := o39.drew
    go_wp2_with fail
    go_region_law (first
      | (go_simp; go_at_call 17; (with_reducible refine (toCircuit_own A0_0 A0_1 c0_0 c0_1 n0_0 n0_1 z0_0 z0_1 _ ((ints_drew i0_0 low)) L0_0.out (by omega) ((ints_drew i0_1 low)) L0_1.out (by omega)).mono ?_); rintro e w84 ⟨X77, X78, rfl, o79, hb1⟩; (have ox := o39d.below hb1); (have bx0 := heap_below (w := w71.drew) b44 hb1); (have cx00 := (blk (i := 0) bx0 rfl).1); (have cx01 := (blk (i := 1) bx0 rfl).1))
      | (go_simp; go_at_call 9; (with_reducible refine (eqCircuit_same X37 X38 n0_0 n0_1 X77 X78 n0_0 n0_1 n0_0 n0_1 z0_0 z0_1 _ ox.o0.ints o79.o0.ints L0_0.out (by omega) ox.o1.ints o79.o1.ints L0_1.out (by omega)).mono ?_); rintro e w85 ⟨rfl, hb2⟩))
    all_goals
      have hb := ((Below.refl w71.heap.size w71).drew.trans hb1).trans (hb2.mono (by have := hb1.size; exact this))
      go_wp2_with fail
      go_meet
      exact ⟨rfl, hb⟩
  case rest =>
    clear c80 c81 c82 c83
    obtain ⟨rfl, hb⟩ := hcut
    obtain ⟨w86, rfl⟩ : ∃ w86 : World, w86 = wc := ⟨_, rfl⟩
    replace b0 := heap_below b0 hb
    replace i0_0 := i0_0.below (hb.mono low.size)
    replace i0_1 := i0_1.below (hb.mono low.size)
    replace i1 := i1.below (hb.mono low.size)
    replace o34 := o34.below hb
    replace o39 := o39.below hb
    replace b44 := heap_below b44 hb
    replace o53 := o53.below hb
    replace o68 := o68.below hb
    replace low := low.trans (hb.mono low.size)
    have q87 := hb.size
    clear hb
    have c91 := (blk (i := 0) b0 rfl).1
    have c92 := (blk (i := 1) b0 rfl).1
    have c93 := (blk (i := 0) b44 rfl).1
    have c94 := (blk (i := 1) b44 rfl).1
    go_wp2_with fail
    refine (toIntSS_own A1 n1 c1 z1 w86 (i1.ints low.size) L1.out (by omega) (by omega)).mono ?_
    rintro e w95 ⟨X88, U89, rfl, o90, hb⟩
    replace b0 := heap_below b0 hb
    replace i0_0 := i0_0.below (hb.mono low.size)
    replace i0_1 := i0_1.below (hb.mono low.size)
    replace i1 := i1.below (hb.mono low.size)
    replace o34 := o34.below hb
    replace o39 := o39.below hb
    replace b44 := heap_below b44 hb
    replace o53 := o53.below hb
    replace o68 := o68.below hb
    replace low := low.trans (hb.mono low.size)
    have q96 := hb.size
    clear hb
    clear c91 c92 c93 c94
    have c98 := (blk (i := 0) b0 rfl).1
    have c99 := (blk (i := 1) b0 rfl).1
    have c100 := (blk (i := 0) b44 rfl).1
    have c101 := (blk (i := 1) b44 rfl).1
    go_wp2_with fail
    refine (eqIntSS_same X51 X88 n1 n1 n1 z1 w95 o53.ints o90.ints L1.out (by omega) (by omega)).mono ?_
    rintro e w97 ⟨rfl, hb⟩
    replace b0 := heap_below b0 hb
    replace i0_0 := i0_0.below (hb.mono low.size)
    replace i0_1 := i0_1.below (hb.mono low.size)
    replace i1 := i1.below (hb.mono low.size)
    replace o34 := o34.below hb
    replace o39 := o39.below hb
    replace b44 := heap_below b44 hb
    replace o53 := o53.below hb
    replace o68 := o68.below hb
    replace o90 := o90.below hb
    replace low := low.trans (hb.mono low.size)
    have q102 := hb.size
    clear hb
    clear o90
    clear c98 c99 c100 c101
    have c104 := (blk (i := 0) b0 rfl).1
    have c105 := (blk (i := 1) b0 rfl).1
    have c106 := (blk (i := 0) b44 rfl).1
    have c107 := (blk (i := 1) b44 rfl).1
    go_wp2_with fail
    refine (markCircuit_own w28.heap.size (w42.heap.size) (1) X37 X38 n0_0 n0_1 n0_0 n0_1 z0_0 z0_1 w97 o39 (by omega) (by omega)).mono ?_
    rintro e w103 ⟨rfl, o108, mg, ms⟩
    clear o39
    clear ms
    replace b0 := mg.heap b0 (by omega)
    replace i0_0 := i0_0.mid mg (by omega) low.size
    replace i0_1 := i0_1.mid mg (by omega) low.size
    replace i1 := i1.mid mg (by omega) low.size
    replace o34 := o34.mid mg (by omega)
    replace b44 := mg.heap b44 (by omega)
    replace o53 := o53.mid mg (by omega)
    replace o68 := o68.mid mg (by omega)
    replace low := mg.below low (by omega) low.size
    have q109 := mg.size
    clear mg
    clear o108
    clear b44
    clear c104 c105 c106 c107
    have c111 := (blk (i := 0) b0 rfl).1
    have c112 := (blk (i := 1) b0 rfl).1
    go_wp2_with fail
    refine (markIntSS_own w50.heap.size w58.heap.size n1 (1 + n0_0 * 3 + n0_1) _ U52 z1 w103 o53 (by omega) (by omega)).mono ?_
    rintro e w110 ⟨rfl, ⟨Y114, o113, _⟩, mg⟩
    clear o53
    replace b0 := mg.heap b0 (by omega)
    replace i0_0 := i0_0.mid mg (by omega) low.size
    replace i0_1 := i0_1.mid mg (by omega) low.size
    replace i1 := i1.mid mg (by omega) low.size
    replace o34 := o34.mid mg (by omega)
    replace o68 := o68.mid mg (by omega)
    replace low := mg.below low (by omega) low.size
    have q115 := mg.size
    clear mg
    clear o113
    clear c111 c112
    have c117 := (blk (i := 0) b0 rfl).1
    have c118 := (blk (i := 1) b0 rfl).1
    go_wp2_with fail
    refine (eqIntS_same n32 n32 d67 d33 G65 G31 R0 R0 w110 o68.ints o34.ints rfl L36.out L36.out (by omega)).mono ?_
    rintro e w116 ⟨rfl, hb⟩
    replace b0 := heap_below b0 hb
    replace i0_0 := i0_0.below (hb.mono low.size)
    replace i0_1 := i0_1.below (hb.mono low.size)
    replace i1 := i1.below (hb.mono low.size)
    replace o34 := o34.below hb
    replace o68 := o68.below hb
    replace low := low.trans (hb.mono low.size)
    have q119 := hb.size
    clear hb
    clear c117 c118
    have c121 := (blk (i := 0) b0 rfl).1
    have c122 := (blk (i := 1) b0 rfl).1
    go_wp2_with fail
    refine (markIntS_ownA _ _ n32 (1) _ R0 w116 o68 (by omega)).mono ?_
    rintro e w120 ⟨rfl, o123, hg⟩
    have mg := Mid.of_grown (lo := w58.heap.size) (hi := w60.heap.size) hg (fun k e => o68.ltB e)
    clear o68 hg
    replace b0 := mg.heap b0 (by omega)
    replace i0_0 := i0_0.mid mg (by omega) low.size
    replace i0_1 := i0_1.mid mg (by omega) low.size
    replace i1 := i1.mid mg (by omega) low.size
    replace o34 := o34.mid mg (by omega)
    replace low := mg.below low (by omega) low.size
    have q124 := mg.size
    clear mg
    clear c121 c122
    have c125 := (blk (i := 0) b0 rfl).1
    have c126 := (blk (i := 1) b0 rfl).1
    go_wp2_with fail
    refine (heldIntS_any n32 (1) d67 G65 w120 o123.ints (by omega)).mono ?_
    rintro e w127 ⟨rfl, rfl⟩
    clear c125 c126
    have c131 := (blk (i := 0) b0 rfl).1
    have c132 := (blk (i := 1) b0 rfl).1
    go_wp2_with fail
    refine (toCircuit_own A0_0 A0_1 c0_0 c0_1 n0_0 n0_1 z0_0 z0_1 w120 (i0_0.ints low.size) L0_0.out (by omega) (i0_1.ints low.size) L0_1.out (by omega)).mono ?_
    rintro e w133 ⟨X128, X129, rfl, o130, hb⟩
    replace b0 := heap_below b0 hb
    replace i0_0 := i0_0.below (hb.mono low.size)
    replace i0_1 := i0_1.below (hb.mono low.size)
    replace i1 := i1.below (hb.mono low.size)
    replace o34 := o34.below hb
    replace o123 := o123.below hb
    replace low := low.trans (hb.mono low.size)
    have q134 := hb.size
    clear hb
    clear c131 c132
    have c138 := (blk (i := 0) b0 rfl).1
    have c139 := (blk (i := 1) b0 rfl).1
    go_wp2_with fail
    refine (toIntSS_own A1 n1 c1 z1 w133 (i1.ints low.size) L1.out (by omega) (by omega)).mono ?_
    rintro e w140 ⟨X135, U136, rfl, o137, hb⟩
    replace b0 := heap_below b0 hb
    replace i0_0 := i0_0.below (hb.mono low.size)
    replace i0_1 := i0_1.below (hb.mono low.size)
    replace i1 := i1.below (hb.mono low.size)
    replace o34 := o34.below hb
    replace o123 := o123.below hb
    replace o130 := o130.below hb
    replace low := low.trans (hb.mono low.size)
    have q141 := hb.size
    clear hb
    clear c138 c139
    have c143 := (blk (i := 0) b0 rfl).1
    have c144 := (blk (i := 1) b0 rfl).1
    go_wp2_with fail
    refine (ex_impl_RunCircuit X128 n0_0 n0_0 z0_0 X129 n0_1 n0_1 z0_1 X135 n1 n1 z1 w140 (o130.o0.ints) L0_0.out (by omega) (o130.o1.ints) L0_1.out (by omega) (o137.ints) L1.out (by omega)).mono ?_
    intro e w142 h
    obtain ⟨G145, n146, d147, rfl, o148, hb⟩ := E.out _ _ _ h
    clear h
    replace b0 := heap_below b0 hb
    replace i0_0 := i0_0.below (hb.mono low.size)
    replace i0_1 := i0_1.below (hb.mono low.size)
    replace i1 := i1.below (hb.mono low.size)
    replace o34 := o34.below hb
    replace o123 := o123.below hb
    replace o130 := o130.below hb
    replace o137 := o137.below hb
    replace low := low.trans (hb.mono low.size)
    have q149 := hb.size
    clear hb
    clear o130
    clear o137
    have hl150 := o148.len1
    obtain rfl : n32 = n146 := by rw [← hl150, L36.out]
    clear hl150
    clear c143 c144
    have c152 := (blk (i := 0) b0 rfl).1
    have c153 := (blk (i := 1) b0 rfl).1
    go_wp2_with fail
    refine (eqIntS_same n32 n32 d147 d33 G145 G31 R0 R0 w142 o148.ints o34.ints rfl L36.out L36.out (by omega)).mono ?_
    rintro e w151 ⟨rfl, hb⟩
    replace b0 := heap_below b0 hb
    replace i0_0 := i0_0.below (hb.mono low.size)
    replace i0_1 := i0_1.below (hb.mono low.size)
    replace i1 := i1.below (hb.mono low.size)
    replace o34 := o34.below hb
    replace o123 := o123.below hb
    replace o148 := o148.below hb
    replace low := low.trans (hb.mono low.size)
    have q154 := hb.size
    clear hb
    clear c152 c153
    have c155 := (blk (i := 0) b0 rfl).1
    have c156 := (blk (i := 1) b0 rfl).1
    go_wp2_with fail
    refine (heldIntS_any n32 (1) d67 G65 w151 o123.ints (by omega)).mono ?_
    rintro e w157 ⟨rfl, rfl⟩
    clear c155 c156
    have c158 := (blk (i := 0) b0 rfl).1
    have c159 := (blk (i := 1) b0 rfl).1
    go_wp2_with fail
    go_ret
    exact ⟨by first | rfl | simp, low⟩
end Go.Proofs.Ytbbdmgomcpmhpaa

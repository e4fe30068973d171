/- The law FnExactEvalCircuit: the walk. -/
import Derived.Test.YtegdlegndgdgiaaProg
import Derived.Test.YtegdlegndgdgiaaB1
import Derived.Test.YtegdlegndgdgiaaC1
import Derived.Test.YtegdlegndgdgiaaCirX
namespace Go.Proofs.Ytegdlegndgdgiaa
open Go Go.RowKit
set_option maxRecDepth 100000 in
set_option maxHeartbeats 2000000 in
theorem FnExactEvalCircuit_walk (A0_0 : Option Addr) (n0_0 c0_0 : Nat) (z0_0 : List Int) (A0_1 : Option Addr) (n0_1 c0_1 : Nat) (z0_1 : List Int) (A1 : Option Addr) (n1 c1 : Nat) (z1 : List Int) (w : World) (h0_0 : Ints w A0_0 z0_0) (l0_0 : z0_0.length = n0_0 * 3) (m0_0 : n0_0 ≤ 9223372036854775807) (h0_1 : Ints w A0_1 z0_1) (l0_1 : z0_1.length = n0_1) (m0_1 : n0_1 ≤ 9223372036854775807) (h1 : Ints w A1 z1) (l1 : z1.length = n1) (m1 : n1 ≤ 9223372036854775807) :
    Calls Try.prog 3 #[.agg #[.slice A0_0 n0_0 c0_0, .slice A0_1 n0_1 c0_1], .slice A1 n1 c1] w fun e w' => e = .returned (.bool true) ∧ Below w.heap.size w w' := by
  have low : Below w.heap.size w (w.alloc (.cells #[.slice A0_0 n0_0 c0_0, .slice A0_1 n0_1 c0_1] 25)) := (low_alloc (Below.refl _ _) _)
  by_cases hn1 : 1048576 < n1
  · clear h0_0 l0_0 h0_1 l0_1 h1 l1
    go_enter Try.func3, Try.ntmps3
    go_wp2_with fail
    go_ret
    exact ⟨rfl, low⟩
  have mm1 : n1 ≤ 1048576 := by omega
  clear hn1 m1
  have L0_0 := Lib.hid l0_0
  have i0_0 := h0_0.bound.below low
  have L0_1 := Lib.hid l0_1
  have i0_1 := h0_1.bound.below low
  have L1 := Lib.hid l1
  have i1 := h1.bound.below low
  clear h0_0 l0_0 h0_1 l0_1 h1 l1
  have b0 := new_at w (.cells #[.slice A0_0 n0_0 c0_0, .slice A0_1 n0_1 c0_1] 25) (w.heap.size) (by simp)
  go_enter Try.func3, Try.ntmps3
  have c1 := (blk (i := 0) b0 rfl).1
  have c2 := (blk (i := 1) b0 rfl).1
  go_wp2_with fail
  generalize hw0 : (w.alloc (.cells #[.slice A0_0 n0_0 c0_0, .slice A0_1 n0_1 c0_1] 25)) = v0 at *
  clear hw0
  have q0 := low.size
  have q00 := heap_lt b0
  clear c1 c2
  have c6 := (blk (i := 0) b0 rfl).1
  have c7 := (blk (i := 1) b0 rfl).1
  go_wp2_with fail
  have s3 := szCircuit_any 1048576 A0_0 A0_1 c0_0 c0_1 n0_0 n0_1 v0 (by omega) m0_0 m0_1
  unfold Sized at s3
  by_cases hn0 : n0_0 + n0_1 ≤ 1048576
  case neg =>
    rw [show szRes 1048576 (n0_0 + n0_1) = -1 by rw [szRes, if_neg hn0]] at s3
    refine s3.mono ?_
    rintro e w5 ⟨rfl, hb⟩
    go_wp2_with fail
    go_ret
    exact ⟨rfl, low.trans (hb.mono low.size)⟩
  rw [show szRes 1048576 (n0_0 + n0_1) = ((1048576 - (n0_0 + n0_1) : Nat) : Int) by rw [szRes, if_pos hn0]] at s3
  have mm0_0 : n0_0 ≤ 1048576 := by omega
  have mm0_1 : n0_1 ≤ 1048576 := by omega
  have zf4 : 1048576 - (n0_0 + n0_1) ≤ 1048576 := by omega
  clear hn0 m0_0 m0_1
  generalize 1048576 - (n0_0 + n0_1) = f4 at *
  refine s3.mono ?_
  rintro e w5 ⟨rfl, hb⟩
  clear s3
  replace b0 := heap_below b0 hb
  replace i0_0 := i0_0.below (hb.mono low.size)
  replace i0_1 := i0_1.below (hb.mono low.size)
  replace i1 := i1.below (hb.mono low.size)
  replace low := low.trans (hb.mono low.size)
  have q8 := hb.size
  clear hb
  have yf4 : (0 : Int) ≤ f4 := by omega
  obtain ⟨R0, hR0, bR0⟩ : ∃ r : List Int, evC z0_0 n0_0 z0_1 z1 = r ∧ r.length ≤ 1900000 := ⟨_, rfl, by have := evC_length z0_0 n0_0 z0_1 z1; have := L0_1.out; omega⟩
  obtain ⟨R1, hR1⟩ : ∃ r, decide (evOk z0_0 n0_0 z0_1 z1) = r := ⟨_, rfl⟩
  have E := Lib.hid (show ∀ w e w', Post_A_bool (evC z0_0 n0_0 z0_1 z1) (decide (evOk z0_0 n0_0 z0_1 z1)) w e w' → Post_A_bool R0 R1 w e w' from by subst hR0 hR1; intro _ _ _ h; exact h)
  clear hR0 hR1
  clear c6 c7
  have c12 := (blk (i := 0) b0 rfl).1
  have c13 := (blk (i := 1) b0 rfl).1
  go_wp2_with fail
  refine (toCircuit_own A0_0 A0_1 c0_0 c0_1 n0_0 n0_1 z0_0 z0_1 w5 (i0_0.ints low.size) L0_0.out (by omega) (i0_1.ints low.size) L0_1.out (by omega)).mono ?_
  rintro e w14 ⟨X9, X10, rfl, o11, hb⟩
  replace b0 := heap_below b0 hb
  replace i0_0 := i0_0.below (hb.mono low.size)
  replace i0_1 := i0_1.below (hb.mono low.size)
  replace i1 := i1.below (hb.mono low.size)
  replace low := low.trans (hb.mono low.size)
  have q15 := hb.size
  clear hb
  clear c12 c13
  have c18 := (blk (i := 0) b0 rfl).1
  have c19 := (blk (i := 1) b0 rfl).1
  go_wp2_with fail
  refine (toIntS_ownA A1 n1 c1 z1 w14 (i1.ints low.size) L1.out (by omega)).mono ?_
  rintro e w20 ⟨X16, rfl, o17, hb⟩
  replace b0 := heap_below b0 hb
  replace i0_0 := i0_0.below (hb.mono low.size)
  replace i0_1 := i0_1.below (hb.mono low.size)
  replace i1 := i1.below (hb.mono low.size)
  replace o11 := o11.below hb
  replace low := low.trans (hb.mono low.size)
  have q21 := hb.size
  clear hb
  clear c18 c19
  have c23 := (blk (i := 0) b0 rfl).1
  have c24 := (blk (i := 1) b0 rfl).1
  go_wp2_with fail
  refine (ex_spec_EvalCircuit X9 n0_0 n0_0 z0_0 X10 n0_1 n0_1 z0_1 X16 n1 n1 z1 w20 (o11.o0.ints) L0_0.out (by omega) (o11.o1.ints) L0_1.out (by omega) (o17.ints) L1.out (by omega)).mono ?_
  intro e w22 h
  obtain ⟨G25, n26, d27, rfl, o28, hb⟩ := E.out _ _ _ h
  clear h
  replace b0 := heap_below b0 hb
  replace i0_0 := i0_0.below (hb.mono low.size)
  replace i0_1 := i0_1.below (hb.mono low.size)
  replace i1 := i1.below (hb.mono low.size)
  replace o11 := o11.below hb
  replace o17 := o17.below hb
  replace low := low.trans (hb.mono low.size)
  have q29 := hb.size
  clear hb
  clear o11
  clear o17
  have L30 := Lib.hid (o28.len1)
  have bnL30 : n26 ≤ 1900000 := by rw [← L30.out]; exact bR0
  clear c23 c24
  have c34 := (blk (i := 0) b0 rfl).1
  have c35 := (blk (i := 1) b0 rfl).1
  go_wp2_with fail
  refine (toCircuit_own A0_0 A0_1 c0_0 c0_1 n0_0 n0_1 z0_0 z0_1 w22 (i0_0.ints low.size) L0_0.out (by omega) (i0_1.ints low.size) L0_1.out (by omega)).mono ?_
  rintro e w36 ⟨X31, X32, rfl, o33, hb⟩
  replace b0 := heap_below b0 hb
  replace i0_0 := i0_0.below (hb.mono low.size)
  replace i0_1 := i0_1.below (hb.mono low.size)
  replace i1 := i1.below (hb.mono low.size)
  replace o28 := o28.below hb
  replace low := low.trans (hb.mono low.size)
  have q37 := hb.size
  clear hb
  replace b0 := heap_alloc b0 (.cells #[.slice X31 n0_0 n0_0, .slice X32 n0_1 n0_1] 31)
  replace i0_0 := i0_0.below ((below_alloc _ (.cells #[.slice X31 n0_0 n0_0, .slice X32 n0_1 n0_1] 31)).mono low.size)
  replace i0_1 := i0_1.below ((below_alloc _ (.cells #[.slice X31 n0_0 n0_0, .slice X32 n0_1 n0_1] 31)).mono low.size)
  replace i1 := i1.below ((below_alloc _ (.cells #[.slice X31 n0_0 n0_0, .slice X32 n0_1 n0_1] 31)).mono low.size)
  replace o28 := o28.alloc (.cells #[.slice X31 n0_0 n0_0, .slice X32 n0_1 n0_1] 31)
  replace o33 := o33.alloc (.cells #[.slice X31 n0_0 n0_0, .slice X32 n0_1 n0_1] 31)
  replace low := low_alloc low (.cells #[.slice X31 n0_0 n0_0, .slice X32 n0_1 n0_1] 31)
  have b38 := heap_alloc_new w36 (.cells #[.slice X31 n0_0 n0_0, .slice X32 n0_1 n0_1] 31)
  have q39 := heap_lt b38
  clear c34 c35
  have c40 := (blk (i := 0) b0 rfl).1
  have c41 := (blk (i := 1) b0 rfl).1
  have c42 := (blk (i := 0) b38 rfl).1
  have c43 := (blk (i := 1) b38 rfl).1
  go_wp2_with fail
  generalize hg : (w36.alloc (.cells #[.slice X31 n0_0 n0_0, .slice X32 n0_1 n0_1] 31)) = w44 at *
  clear hg
  clear c40 c41 c42 c43
  have c47 := (blk (i := 0) b0 rfl).1
  have c48 := (blk (i := 1) b0 rfl).1
  have c49 := (blk (i := 0) b38 rfl).1
  have c50 := (blk (i := 1) b38 rfl).1
  go_wp2_with fail
  refine (toIntS_ownA A1 n1 c1 z1 w44 (i1.ints low.size) L1.out (by omega)).mono ?_
  rintro e w51 ⟨X45, rfl, o46, hb⟩
  replace b0 := heap_below b0 hb
  replace i0_0 := i0_0.below (hb.mono low.size)
  replace i0_1 := i0_1.below (hb.mono low.size)
  replace i1 := i1.below (hb.mono low.size)
  replace o28 := o28.below hb
  replace o33 := o33.below hb
  replace b38 := heap_below b38 hb
  replace low := low.trans (hb.mono low.size)
  have q52 := hb.size
  clear hb
  clear c47 c48 c49 c50
  have c54 := (blk (i := 0) b0 rfl).1
  have c55 := (blk (i := 1) b0 rfl).1
  have c56 := (blk (i := 0) b38 rfl).1
  have c57 := (blk (i := 1) b38 rfl).1
  go_wp2_with fail
  refine (ex_impl_EvalCircuit X31 n0_0 n0_0 z0_0 X32 n0_1 n0_1 z0_1 X45 n1 n1 z1 w51 (o33.o0.ints) L0_0.out (by omega) (o33.o1.ints) L0_1.out (by omega) (o46.ints) L1.out (by omega)).mono ?_
  intro e w53 h
  obtain ⟨G58, n59, d60, rfl, o61, hb⟩ := E.out _ _ _ h
  clear h
  replace b0 := heap_below b0 hb
  replace i0_0 := i0_0.below (hb.mono low.size)
  replace i0_1 := i0_1.below (hb.mono low.size)
  replace i1 := i1.below (hb.mono low.size)
  replace o28 := o28.below hb
  replace o33 := o33.below hb
  replace b38 := heap_below b38 hb
  replace o46 := o46.below hb
  replace low := low.trans (hb.mono low.size)
  have q62 := hb.size
  clear hb
  have hl63 := o61.len1
  obtain rfl : n26 = n59 := by rw [← hl63, L30.out]
  clear hl63
  clear c54 c55 c56 c57
  have c65 := (blk (i := 0) b0 rfl).1
  have c66 := (blk (i := 1) b0 rfl).1
  have c67 := (blk (i := 0) b38 rfl).1
  have c68 := (blk (i := 1) b38 rfl).1
  go_wp2_with fail
  refine (eqIntS_same n26 n26 d60 d27 G58 G25 R0 R0 w53 o61.ints o28.ints rfl L30.out L30.out (by omega)).mono ?_
  rintro e w64 ⟨rfl, hb⟩
  replace b0 := heap_below b0 hb
  replace i0_0 := i0_0.below (hb.mono low.size)
  replace i0_1 := i0_1.below (hb.mono low.size)
  replace i1 := i1.below (hb.mono low.size)
  replace o28 := o28.below hb
  replace o33 := o33.below hb
  replace b38 := heap_below b38 hb
  replace o46 := o46.below hb
  replace o61 := o61.below hb
  replace low := low.trans (hb.mono low.size)
  have q69 := hb.size
  clear hb
  clear c65 c66 c67 c68
  have c73 := (blk (i := 0) b0 rfl).1
  have c74 := (blk (i := 1) b0 rfl).1
  have c75 := (blk (i := 0) b38 rfl).1
  have c76 := (blk (i := 1) b38 rfl).1
  go_upto_region 13 with (fail)
  go_cut [56] (fun s wx => s = .bool false ∧ Below w64.heap.size w64 wx)
  case first =>
    have lowd := low.drew
    have o33d := o33.drew
    go_wp2_with fail
    go_region_law (first
      | (go_simp; go_at_call 16; (with_reducible refine (toCircuit_own A0_0 A0_1 c0_0 c0_1 n0_0 n0_1 z0_0 z0_1 _ ((ints_drew i0_0 low)) L0_0.out (by omega) ((ints_drew i0_1 low)) L0_1.out (by omega)).mono ?_); rintro e w77 ⟨X70, X71, rfl, o72, hb1⟩; (have ox := o33d.below hb1); (have bx0 := heap_below (w := w64.drew) b38 hb1); (have cx00 := (blk (i := 0) bx0 rfl).1); (have cx01 := (blk (i := 1) bx0 rfl).1))
      | (go_simp; go_at_call 20; (with_reducible refine (eqCircuit_same X31 X32 n0_0 n0_1 X70 X71 n0_0 n0_1 n0_0 n0_1 z0_0 z0_1 _ ox.o0.ints o72.o0.ints L0_0.out (by omega) ox.o1.ints o72.o1.ints L0_1.out (by omega)).mono ?_); rintro e w78 ⟨rfl, hb2⟩))
    all_goals
      have hb := ((Below.refl w64.heap.size w64).drew.trans hb1).trans (hb2.mono (by have := hb1.size; exact this))
      go_wp2_with fail
      go_meet
      exact ⟨rfl, hb⟩
  case rest =>
    clear c73 c74 c75 c76
    obtain ⟨rfl, hb⟩ := hcut
    obtain ⟨w79, rfl⟩ : ∃ w79 : World, w79 = wc := ⟨_, rfl⟩
    replace b0 := heap_below b0 hb
    replace i0_0 := i0_0.below (hb.mono low.size)
    replace i0_1 := i0_1.below (hb.mono low.size)
    replace i1 := i1.below (hb.mono low.size)
    replace o28 := o28.below hb
    replace o33 := o33.below hb
    replace b38 := heap_below b38 hb
    replace o46 := o46.below hb
    replace o61 := o61.below hb
    replace low := low.trans (hb.mono low.size)
    have q80 := hb.size
    clear hb
    have c83 := (blk (i := 0) b0 rfl).1
    have c84 := (blk (i := 1) b0 rfl).1
    have c85 := (blk (i := 0) b38 rfl).1
    have c86 := (blk (i := 1) b38 rfl).1
    go_wp2_with fail
    refine (toIntS_ownA A1 n1 c1 z1 w79 (i1.ints low.size) L1.out (by omega)).mono ?_
    rintro e w87 ⟨X81, rfl, o82, hb⟩
    replace b0 := heap_below b0 hb
    replace i0_0 := i0_0.below (hb.mono low.size)
    replace i0_1 := i0_1.below (hb.mono low.size)
    replace i1 := i1.below (hb.mono low.size)
    replace o28 := o28.below hb
    replace o33 := o33.below hb
    replace b38 := heap_below b38 hb
    replace o46 := o46.below hb
    replace o61 := o61.below hb
    replace low := low.trans (hb.mono low.size)
    have q88 := hb.size
    clear hb
    clear c83 c84 c85 c86
    have c90 := (blk (i := 0) b0 rfl).1
    have c91 := (blk (i := 1) b0 rfl).1
    have c92 := (blk (i := 0) b38 rfl).1
    have c93 := (blk (i := 1) b38 rfl).1
    go_wp2_with fail
    refine (eqIntS_same n1 n1 n1 n1 X45 X81 z1 z1 w87 o46.ints o82.ints rfl L1.out L1.out (by omega)).mono ?_
    rintro e w89 ⟨rfl, hb⟩
    replace b0 := heap_below b0 hb
    replace i0_0 := i0_0.below (hb.mono low.size)
    replace i0_1 := i0_1.below (hb.mono low.size)
    replace i1 := i1.below (hb.mono low.size)
    replace o28 := o28.below hb
    replace o33 := o33.below hb
    replace b38 := heap_below b38 hb
    replace o46 := o46.below hb
    replace o61 := o61.below hb
    replace o82 := o82.below hb
    replace low := low.trans (hb.mono low.size)
    have q94 := hb.size
    clear hb
    clear o82
    clear c90 c91 c92 c93
    have c96 := (blk (i := 0) b0 rfl).1
    have c97 := (blk (i := 1) b0 rfl).1
    have c98 := (blk (i := 0) b38 rfl).1
    have c99 := (blk (i := 1) b38 rfl).1
    go_wp2_with fail
    refine (markCircuit_own w22.heap.size (w36.heap.size) (1) X31 X32 n0_0 n0_1 n0_0 n0_1 z0_0 z0_1 w89 o33 (by omega) (by omega)).mono ?_
    rintro e w95 ⟨rfl, o100, mg, ms⟩
    clear o33
    clear ms
    replace b0 := mg.heap b0 (by omega)
    replace i0_0 := i0_0.mid mg (by omega) low.size
    replace i0_1 := i0_1.mid mg (by omega) low.size
    replace i1 := i1.mid mg (by omega) low.size
    replace o28 := o28.mid mg (by omega)
    replace b38 := mg.heap b38 (by omega)
    replace o46 := o46.mid mg (by omega)
    replace o61 := o61.mid mg (by omega)
    replace low := mg.below low (by omega) low.size
    have q101 := mg.size
    clear mg
    clear o100
    clear b38
    clear c96 c97 c98 c99
    have c103 := (blk (i := 0) b0 rfl).1
    have c104 := (blk (i := 1) b0 rfl).1
    go_wp2_with fail
    refine (markIntS_ownA _ _ n1 (1 + n0_0 * 3 + n0_1) _ z1 w95 o46 (by omega)).mono ?_
    rintro e w102 ⟨rfl, o105, hg⟩
    have mg := Mid.of_grown (lo := w44.heap.size) (hi := w51.heap.size) hg (fun k e => o46.ltB e)
    clear o46 hg
    replace b0 := mg.heap b0 (by omega)
    replace i0_0 := i0_0.mid mg (by omega) low.size
    replace i0_1 := i0_1.mid mg (by omega) low.size
    replace i1 := i1.mid mg (by omega) low.size
    replace o28 := o28.mid mg (by omega)
    replace o61 := o61.mid mg (by omega)
    replace low := mg.below low (by omega) low.size
    have q106 := mg.size
    clear mg
    clear o105
    clear c103 c104
    have c108 := (blk (i := 0) b0 rfl).1
    have c109 := (blk (i := 1) b0 rfl).1
    go_wp2_with fail
    refine (eqIntS_same n26 n26 d60 d27 G58 G25 R0 R0 w102 o61.ints o28.ints rfl L30.out L30.out (by omega)).mono ?_
    rintro e w107 ⟨rfl, hb⟩
    replace b0 := heap_below b0 hb
    replace i0_0 := i0_0.below (hb.mono low.size)
    replace i0_1 := i0_1.below (hb.mono low.size)
    replace i1 := i1.below (hb.mono low.size)
    replace o28 := o28.below hb
    replace o61 := o61.below hb
    replace low := low.trans (hb.mono low.size)
    have q110 := hb.size
    clear hb
    clear c108 c109
    have c112 := (blk (i := 0) b0 rfl).1
    have c113 := (blk (i := 1) b0 rfl).1
    go_wp2_with fail
    refine (markIntS_ownA _ _ n26 (1) _ R0 w107 o61 (by omega)).mono ?_
    rintro e w111 ⟨rfl, o114, hg⟩
    have mg := Mid.of_grown (lo := w51.heap.size) (hi := w53.heap.size) hg (fun k e => o61.ltB e)
    clear o61 hg
    replace b0 := mg.heap b0 (by omega)
    replace i0_0 := i0_0.mid mg (by omega) low.size
    replace i0_1 := i0_1.mid mg (by omega) low.size
    replace i1 := i1.mid mg (by omega) low.size
    replace o28 := o28.mid mg (by omega)
    replace low := mg.below low (by omega) low.size
    have q115 := mg.size
    clear mg
    clear c112 c113
    have c116 := (blk (i := 0) b0 rfl).1
    have c117 := (blk (i := 1) b0 rfl).1
    go_wp2_with fail
    refine (heldIntS_any n26 (1) d60 G58 w111 o114.ints (by omega)).mono ?_
    rintro e w118 ⟨rfl, rfl⟩
    clear c116 c117
    have c122 := (blk (i := 0) b0 rfl).1
    have c123 := (blk (i := 1) b0 rfl).1
    go_wp2_with fail
    refine (toCircuit_own A0_0 A0_1 c0_0 c0_1 n0_0 n0_1 z0_0 z0_1 w111 (i0_0.ints low.size) L0_0.out (by omega) (i0_1.ints low.size) L0_1.out (by omega)).mono ?_
    rintro e w124 ⟨X119, X120, rfl, o121, hb⟩
    replace b0 := heap_below b0 hb
    replace i0_0 := i0_0.below (hb.mono low.size)
    replace i0_1 := i0_1.below (hb.mono low.size)
    replace i1 := i1.below (hb.mono low.size)
    replace o28 := o28.below hb
    replace o114 := o114.below hb
    replace low := low.trans (hb.mono low.size)
    have q125 := hb.size
    clear hb
    clear c122 c123
    have c128 := (blk (i := 0) b0 rfl).1
    have c129 := (blk (i := 1) b0 rfl).1
    go_wp2_with fail
    refine (toIntS_ownA A1 n1 c1 z1 w124 (i1.ints low.size) L1.out (by omega)).mono ?_
    rintro e w130 ⟨X126, rfl, o127, hb⟩
    replace b0 := heap_below b0 hb
    replace i0_0 := i0_0.below (hb.mono low.size)
    replace i0_1 := i0_1.below (hb.mono low.size)
    replace i1 := i1.below (hb.mono low.size)
    replace o28 := o28.below hb
    replace o114 := o114.below hb
    replace o121 := o121.below hb
    replace low := low.trans (hb.mono low.size)
    have q131 := hb.size
    clear hb
    clear c128 c129
    have c133 := (blk (i := 0) b0 rfl).1
    have c134 := (blk (i := 1) b0 rfl).1
    go_wp2_with fail
    refine (ex_impl_EvalCircuit X119 n0_0 n0_0 z0_0 X120 n0_1 n0_1 z0_1 X126 n1 n1 z1 w130 (o121.o0.ints) L0_0.out (by omega) (o121.o1.ints) L0_1.out (by omega) (o127.ints) L1.out (by omega)).mono ?_
    intro e w132 h
    obtain ⟨G135, n136, d137, rfl, o138, hb⟩ := E.out _ _ _ h
    clear h
    replace b0 := heap_below b0 hb
    replace i0_0 := i0_0.below (hb.mono low.size)
    replace i0_1 := i0_1.below (hb.mono low.size)
    replace i1 := i1.below (hb.mono low.size)
    replace o28 := o28.below hb
    replace o114 := o114.below hb
    replace o121 := o121.below hb
    replace o127 := o127.below hb
    replace low := low.trans (hb.mono low.size)
    have q139 := hb.size
    clear hb
    clear o121
    clear o127
    have hl140 := o138.len1
    obtain rfl : n26 = n136 := by rw [← hl140, L30.out]
    clear hl140
    clear c133 c134
    have c142 := (blk (i := 0) b0 rfl).1
    have c143 := (blk (i := 1) b0 rfl).1
    go_wp2_with fail
    refine (eqIntS_same n26 n26 d137 d27 G135 G25 R0 R0 w132 o138.ints o28.ints rfl L30.out L30.out (by omega)).mono ?_
    rintro e w141 ⟨rfl, hb⟩
    replace b0 := heap_below b0 hb
    replace i0_0 := i0_0.below (hb.mono low.size)
    replace i0_1 := i0_1.below (hb.mono low.size)
    replace i1 := i1.below (hb.mono low.size)
    replace o28 := o28.below hb
    replace o114 := o114.below hb
    replace o138 := o138.below hb
    replace low := low.trans (hb.mono low.size)
    have q144 := hb.size
    clear hb
    clear c142 c143
    have c145 := (blk (i := 0) b0 rfl).1
    have c146 := (blk (i := 1) b0 rfl).1
    go_wp2_with fail
    refine (heldIntS_any n26 (1) d60 G58 w141 o114.ints (by omega)).mono ?_
    rintro e w147 ⟨rfl, rfl⟩
    clear c145 c146
    have c148 := (blk (i := 0) b0 rfl).1
    have c149 := (blk (i := 1) b0 rfl).1
    go_wp2_with fail
    go_ret
    exact ⟨by first | rfl | simp, low⟩
end Go.Proofs.Ytegdlegndgdgiaa

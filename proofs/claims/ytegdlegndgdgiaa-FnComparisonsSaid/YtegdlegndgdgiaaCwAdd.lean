/- Circuit builders: WordAdd, the program's. No condition. -/
import Derived.Test.YtegdlegndgdgiaaProg
import Derived.Test.YtegdlegndgdgiaaCwF
import Derived.Test.YtegdlegndgdgiaaW2
namespace Go.Proofs.Ytegdlegndgdgiaa
open Go Go.RowKit
theorem impl_WordAdd1 (B g n : Nat) (v v1 : Value) (z : List Int) (A : Option Addr) (c : Nat) (us : List Int) (A' : Option Addr) (c' : Nat) (ws : List Int) (ba bb : Nat) (W : World) (h : Cir B g W v v1 n z) (hB : B ≤ W.heap.size) (xa : W.cell? ⟨ba, 0, none⟩ = some (.slice A 4 c)) (xb : W.cell? ⟨bb, 0, none⟩ = some (.slice A' 4 c')) (ho : Off g v W A us) (lu : us.length = 4) (hc : 4 ≤ c) (ho' : Off g v W A' ws) (lw : ws.length = 4) (hc' : 4 ≤ c') (hn : n ≤ 970000) :
    Calls Try.prog 83 #[.pointer (some ⟨g, 0, none⟩), .pointer (some ⟨ba, 0, none⟩), .pointer (some ⟨bb, 0, none⟩)] W (PutL B g v1 (n + 1 + 5 * 3 + 1 + 1) (sumA z us ws 0 3).1 (sumA z us ws 0 3).2 v W) := by
  have cc := impl_sum B g n v v1 z A c us A' c' ws W h hB ho lu hc ho' lw hc' hn
  clear h ho ho'
  go_enter Try.func83, Try.ntmps83
  go_wp2_with fail
  refine cc.mono ?_
  rintro e w1 ⟨v', A5, k5, c5, rfl, l5, h5, t5, wl5⟩
  go_wp2_with fail
  go_ret
  exact ⟨v', A5, k5, c5, rfl, l5, h5, t5, wl5⟩
set_option maxRecDepth 100000 in
set_option maxHeartbeats 4000000 in
theorem impl_WordAdd (A0 : Option Addr) (n0 c0 : Nat) (z0 : List Int) (A1 : Option Addr) (n1 c1 : Nat) (z1 : List Int) (A2 : Option Addr) (n2 c2 : Nat) (us : List Int) (A3 : Option Addr) (n3 c3 : Nat) (ws : List Int) (w : World) (h0 : Ints w A0 z0) (l0 : z0.length = n0 * 3) (m0 : n0 ≤ 2000000) (h1 : Ints w A1 z1) (l1 : z1.length = n1) (m1 : n1 ≤ 2000000)
    (h2 : Ints w A2 us) (l2 : us.length = n2) (m2 : n2 ≤ 2000000) (hc2 : n2 ≤ c2) (h3 : Ints w A3 ws) (l3 : ws.length = n3) (m3 : n3 ≤ 2000000) (hc3 : n3 ≤ c3) :
    Calls Try.prog 33 #[.agg #[.slice A0 n0 c0, .slice A1 n1 c1], .slice A2 n2 c2, .slice A3 n3 c3] w (Post_Circuit_A (wAdd z0 n0 z1 us ws).1 z1 (wAdd z0 n0 z1 us ws).2 w) := by
  have b0 := heap_alloc (heap_alloc (heap_alloc (heap_alloc_new w (.cells #[.slice A0 n0 c0, .slice A1 n1 c1] 31)) (.cells #[.slice A2 n2 c2] 23)) (.cells #[.slice A3 n3 c3] 23)) (.cells #[.slice none 0 0, .slice none 0 0] 31)
  have b1 := heap_alloc (heap_alloc (new_at (w.alloc (.cells #[.slice A0 n0 c0, .slice A1 n1 c1] 31)) (.cells #[.slice A2 n2 c2] 23) (w.heap.size + 1) (by simp)) (.cells #[.slice A3 n3 c3] 23)) (.cells #[.slice none 0 0, .slice none 0 0] 31)
  have b2 := heap_alloc (new_at ((w.alloc (.cells #[.slice A0 n0 c0, .slice A1 n1 c1] 31)).alloc (.cells #[.slice A2 n2 c2] 23)) (.cells #[.slice A3 n3 c3] 23) (w.heap.size + 1 + 1) (by simp)) (.cells #[.slice none 0 0, .slice none 0 0] 31)
  have b3 := new_at (((w.alloc (.cells #[.slice A0 n0 c0, .slice A1 n1 c1] 31)).alloc (.cells #[.slice A2 n2 c2] 23)).alloc (.cells #[.slice A3 n3 c3] 23)) (.cells #[.slice none 0 0, .slice none 0 0] 31) (w.heap.size + 1 + 1 + 1) (by simp)
  have low := low_alloc (low_alloc (low_alloc (below_alloc w (.cells #[.slice A0 n0 c0, .slice A1 n1 c1] 31)) (.cells #[.slice A2 n2 c2] 23)) (.cells #[.slice A3 n3 c3] 23)) (.cells #[.slice none 0 0, .slice none 0 0] 31)
  generalize hw0 : (((w.alloc (.cells #[.slice A0 n0 c0, .slice A1 n1 c1] 31)).alloc (.cells #[.slice A2 n2 c2] 23)).alloc (.cells #[.slice A3 n3 c3] 23)).alloc (.cells #[.slice none 0 0, .slice none 0 0] 31) = w0 at b0 b1 b2 b3 low
  have hs := heap_lt b3
  have L0 := Lib.hid l0
  have L1 := Lib.hid l1
  have L2 := Lib.hid l2
  have L3 := Lib.hid l3
  have j0 := (h0.bound.below low).ints low.size
  have j1 := (h1.bound.below low).ints low.size
  have j2 := (h2.bound.below low).ints low.size
  have j3 := (h3.bound.below low).ints low.size
  clear h0 h1 l0 l1 l2 l3
  have x0 := (blk (i := 0) b0 rfl).1
  have x1 := (blk (i := 1) b0 rfl).1
  have x2 := (blk (i := 0) b1 rfl).1
  have x3 := (blk (i := 0) b2 rfl).1
  have r1 : Below w0.heap.size w0 (w0.alloc (.cells #[.slice A2 n2 c2, .slice A3 n3 c3] 23)).drew := (below_alloc _ _).drew
  have x4 := cell_on x0 r1
  have x5 := cell_on x1 r1
  have x6 := cell_on x2 r1
  have x7 := cell_on x3 r1
  have bw : (w0.alloc (.cells #[.slice A2 n2 c2, .slice A3 n3 c3] 23)).drew.heap[w0.heap.size]? = some (.cells #[.slice A2 n2 c2, .slice A3 n3 c3] 23 (0, 0)) := heap_alloc_new w0 _
  by_cases hcan : canB14 z0 n0 z1 us ws
  case pos =>
    have E := Lib.hid (show wAdd z0 n0 z1 us ws = sumA z0 us ws 0 3 from if_pos hcan)
    have n4 : n2 = 4 := by rw [← L2.out]; exact hcan.2.1.1
    have n5 : n3 = 4 := by rw [← L3.out]; exact hcan.2.2.1
    subst n4 n5
    have n59 := hcan.1.2
    have cE := Lib.hid (fun (w4 : World) (L4 : Below w0.heap.size w0 w4) => impl_extendL_yes A0 n0 c0 z0 A1 n1 c1 z1 83 #[.pointer (some ⟨w.heap.size + 1, 0, none⟩), .pointer (some ⟨w.heap.size + 1 + 1, 0, none⟩)] (n0 + 1 + 5 * 3 + 1 + 1) (sumA z0 us ws 0 3).1 (sumA z0 us ws 0 3).2 w4 (ints_to j0 L4) L0.out m0 (ints_to j1 L4) L1.out m1 Try.call83 (fun B g v v1 W h hB hg hw hb => by
      have LW := low.trans ((L4.trans (hb.mono L4.size)).mono low.size)
      have hL4 := L4.size
      have o2 := Off.of_bound ((h2.bound.below LW).more (hi := B) (by have := low.size; omega)) hg (fun b e => (h.own.lt b e).1) hB
      have o3 := Off.of_bound ((h3.bound.below LW).more (hi := B) (by have := low.size; omega)) hg (fun b e => (h.own.lt b e).1) hB
      exact impl_WordAdd1 B g n0 v v1 z0 A2 c2 us A3 c3 ws (w.heap.size + 1) (w.heap.size + 1 + 1) W h hB (cell_on (cell_on x2 L4) hb) (cell_on (cell_on x3 L4) hb) o2 L2.out hc2 o3 L3.out hc3 (by omega)))
    have HC := Lib.hid (decide_eq_true hcan)
    clear hcan h2 h3
    go_enter Try.func33, Try.ntmps33
    go_upto_region 1 with (fail)
    clear hw0
    go_region_held3 (fun w' => w'.cell? ⟨w.heap.size, 0, none⟩ = some (.slice A0 n0 c0) ∧ w'.cell? ⟨w.heap.size, 1, none⟩ = some (.slice A1 n1 c1) ∧ w'.cell? ⟨w.heap.size + 1, 0, none⟩ = some (.slice A2 4 c2) ∧ w'.cell? ⟨w.heap.size + 1 + 1, 0, none⟩ = some (.slice A3 4 c3))
      (first | exact ⟨x0, x1, x2, x3⟩ | exact ⟨x4, x5, x6, x7⟩ | exact ⟨y0, y1, y2, y3⟩ | exact ⟨u0, u1, u2, u3⟩ | exact ⟨far_two u0 (by show w.heap.size ≠ _; omega) _ _, far_two u1 (by show w.heap.size ≠ _; omega) _ _, far_two u2 (by show w.heap.size + 1 ≠ _; omega) _ _, far_two u3 (by show w.heap.size + 1 + 1 ≠ _; omega) _ _⟩) (first
      | (go_at_call 78; (with_reducible refine (impl_canBuild_two A0 n0 c0 z0 A1 n1 c1 z1 A2 4 c2 us A3 4 c3 ws w0.heap.size 23 _ HC.out _ (ints_to j0 r1) L0.out (by omega) (ints_to j1 r1) L1.out (by omega) (ints_to j2 r1) L2.out (by omega) (ints_to j3 r1) L3.out (by omega) bw).mono ?_); rintro e w4 ⟨rfl, hb4⟩; (have L4 := below_on hb4 r1); (have s4 := L4.size); (have y0 := cell_on x0 L4); (have y1 := cell_on x1 L4); (have y2 := cell_on x2 L4); (have y3 := cell_on x3 L4))
      | (go_at_call 80; (with_reducible refine (cE.out _ L4).mono ?_); rintro e w5 ⟨A5, A6, n5, n6, c5, c6, A7, n7, c7, rfl, oc, oa, ap, hb5⟩; (have L5 := L4.trans (hb5.mono L4.size)); (have u0 := cell_on x0 L5); (have u1 := cell_on x1 L5); (have u2 := cell_on x2 L5); (have u3 := cell_on x3 L5); (have bz5 := heap_below b3 L5); (obtain ⟨e0, f0⟩ := blk (i := 0) bz5 rfl); (obtain ⟨e1, f1⟩ := blk (i := 1) bz5 rfl)))
    all_goals
      have D := Lib.hid (stored_A (G := w.heap.size + 1 + 1 + 1) (by omega) (by omega) (low.trans (L4.mono low.size)) oc oa ap hb5)
      have R := Lib.hid (heap_set (i := 1) (heap_set (i := 0) bz5 (.slice A5 n5 c5)) (.slice A6 n6 c6))
      clear oc oa ap hb5 bz5 e0 f0 e1 f1 y0 y1 y2 y3 u0 u1 u2 u3 x0 x1 x2 x3 x4 x5 x6 x7 cE hb4 L4 L5 j0 j1 j2 j3
      go_wp2_with fail
      refine bodyPost_ret (results_cell_tmp_row (P := Try.prog) rfl _ _ _ (w.heap.size + 1 + 1 + 1) 31 _ (0, 0) _ rfl rfl R.out Try.underlying31 rfl (by kernel_rfl)) rfl ?_
      rw [E.out]
      exact D.out
  case neg =>
    have E := Lib.hid (show wAdd z0 n0 z1 us ws = (z0, []) from if_neg hcan)
    have cE := Lib.hid (fun (w4 : World) (L4 : Below w0.heap.size w0 w4) => impl_extendL_no A0 n0 c0 z0 A1 n1 c1 z1 (.func (.func 83) #[] #[.pointer (some ⟨w.heap.size + 1, 0, none⟩), .pointer (some ⟨w.heap.size + 1 + 1, 0, none⟩)]) w4 (ints_to j0 L4) L0.out m0 (ints_to j1 L4) L1.out m1)
    have HC := Lib.hid (decide_eq_false hcan)
    clear hcan h2 h3
    go_enter Try.func33, Try.ntmps33
    go_upto_region 1 with (fail)
    clear hw0
    go_region_held3 (fun w' => w'.cell? ⟨w.heap.size, 0, none⟩ = some (.slice A0 n0 c0) ∧ w'.cell? ⟨w.heap.size, 1, none⟩ = some (.slice A1 n1 c1) ∧ w'.cell? ⟨w.heap.size + 1, 0, none⟩ = some (.slice A2 n2 c2) ∧ w'.cell? ⟨w.heap.size + 1 + 1, 0, none⟩ = some (.slice A3 n3 c3))
      (first | exact ⟨x0, x1, x2, x3⟩ | exact ⟨x4, x5, x6, x7⟩ | exact ⟨y0, y1, y2, y3⟩ | exact ⟨u0, u1, u2, u3⟩ | exact ⟨far_two u0 (by show w.heap.size ≠ _; omega) _ _, far_two u1 (by show w.heap.size ≠ _; omega) _ _, far_two u2 (by show w.heap.size + 1 ≠ _; omega) _ _, far_two u3 (by show w.heap.size + 1 + 1 ≠ _; omega) _ _⟩) (first
      | (go_at_call 78; (with_reducible refine (impl_canBuild_two A0 n0 c0 z0 A1 n1 c1 z1 A2 n2 c2 us A3 n3 c3 ws w0.heap.size 23 _ HC.out _ (ints_to j0 r1) L0.out (by omega) (ints_to j1 r1) L1.out (by omega) (ints_to j2 r1) L2.out (by omega) (ints_to j3 r1) L3.out (by omega) bw).mono ?_); rintro e w4 ⟨rfl, hb4⟩; (have L4 := below_on hb4 r1); (have s4 := L4.size); (have y0 := cell_on x0 L4); (have y1 := cell_on x1 L4); (have y2 := cell_on x2 L4); (have y3 := cell_on x3 L4))
      | (go_at_call 80; (with_reducible refine (cE.out _ L4).mono ?_); rintro e w5 ⟨A5, A6, n5, n6, c5, c6, A7, n7, c7, rfl, oc, oa, ap, hb5⟩; (have L5 := L4.trans (hb5.mono L4.size)); (have u0 := cell_on x0 L5); (have u1 := cell_on x1 L5); (have u2 := cell_on x2 L5); (have u3 := cell_on x3 L5); (have bz5 := heap_below b3 L5); (obtain ⟨e0, f0⟩ := blk (i := 0) bz5 rfl); (obtain ⟨e1, f1⟩ := blk (i := 1) bz5 rfl)))
    all_goals
      have D := Lib.hid (stored_A (G := w.heap.size + 1 + 1 + 1) (by omega) (by omega) (low.trans (L4.mono low.size)) oc oa ap hb5)
      have R := Lib.hid (heap_set (i := 1) (heap_set (i := 0) bz5 (.slice A5 n5 c5)) (.slice A6 n6 c6))
      clear oc oa ap hb5 bz5 e0 f0 e1 f1 y0 y1 y2 y3 u0 u1 u2 u3 x0 x1 x2 x3 x4 x5 x6 x7 cE hb4 L4 L5 j0 j1 j2 j3
      go_wp2_with fail
      refine bodyPost_ret (results_cell_tmp_row (P := Try.prog) rfl _ _ _ (w.heap.size + 1 + 1 + 1) 31 _ (0, 0) _ rfl rfl R.out Try.underlying31 rfl (by kernel_rfl)) rfl ?_
      rw [E.out]
      exact D.out
end Go.Proofs.Ytegdlegndgdgiaa

/- Circuit builders: WordMux, the program's. No condition. -/
import Derived.Test.YtegdlegndgdgiaaProg
import Derived.Test.YtegdlegndgdgiaaCwF
import Derived.Test.YtegdlegndgdgiaaCwV
namespace Go.Proofs.Ytegdlegndgdgiaa
open Go Go.RowKit
theorem impl_WordMux1 (B g n : Nat) (v v1 : Value) (z : List Int) (s : Int) (A : Option Addr) (c : Nat) (us : List Int) (A' : Option Addr) (c' : Nat) (ws : List Int) (bs ba bb : Nat) (W : World) (h : Cir B g W v v1 n z) (hB : B ≤ W.heap.size) (xs : W.cell? ⟨bs, 0, none⟩ = some (.int .i64 s)) (xa : W.cell? ⟨ba, 0, none⟩ = some (.slice A 4 c)) (xb : W.cell? ⟨bb, 0, none⟩ = some (.slice A' 4 c')) (ho : Off g v W A us) (lu : us.length = 4) (ho' : Off g v W A' ws) (lw : ws.length = 4) (hn : n ≤ 970000) :
    Calls Try.prog 94 #[.pointer (some ⟨g, 0, none⟩), .pointer (some ⟨bs, 0, none⟩), .pointer (some ⟨ba, 0, none⟩), .pointer (some ⟨bb, 0, none⟩)] W (PutL B g v1 (n + 3 * 4) (muxAt z s us ws 4).1 (muxAt z s us ws 4).2 v W) := by
  have cc := impl_mux B g n v v1 z s A c us A' c' ws W h hB ho lu ho' lw hn
  clear h ho ho'
  go_enter Try.func94, Try.ntmps94
  go_wp2_with fail
  refine cc.mono ?_
  rintro e w1 ⟨v', A5, k5, c5, rfl, l5, h5, t5, wl5⟩
  go_wp2_with fail
  go_ret
  exact ⟨v', A5, k5, c5, rfl, l5, h5, t5, wl5⟩
set_option maxRecDepth 100000 in
set_option maxHeartbeats 4000000 in
theorem impl_WordMux (A0 : Option Addr) (n0 c0 : Nat) (z0 : List Int) (A1 : Option Addr) (n1 c1 : Nat) (z1 : List Int) (s : Int) (A2 : Option Addr) (n2 c2 : Nat) (us : List Int) (A3 : Option Addr) (n3 c3 : Nat) (ws : List Int) (w : World) (h0 : Ints w A0 z0) (l0 : z0.length = n0 * 3) (m0 : n0 ≤ 2000000) (h1 : Ints w A1 z1) (l1 : z1.length = n1) (m1 : n1 ≤ 2000000)
    (h2 : Ints w A2 us) (l2 : us.length = n2) (m2 : n2 ≤ 2000000) (h3 : Ints w A3 ws) (l3 : ws.length = n3) (m3 : n3 ≤ 2000000) :
    Calls Try.prog 39 #[.agg #[.slice A0 n0 c0, .slice A1 n1 c1], .int .i64 s, .slice A2 n2 c2, .slice A3 n3 c3] w (Post_Circuit_A (wMux z0 n0 z1 s us ws).1 z1 (wMux z0 n0 z1 s us ws).2 w) := by
  have b0 := heap_alloc (heap_alloc (heap_alloc (heap_alloc (heap_alloc_new w (.cells #[.slice A0 n0 c0, .slice A1 n1 c1] 31)) (.cells #[.int .i64 s] 3)) (.cells #[.slice A2 n2 c2] 23)) (.cells #[.slice A3 n3 c3] 23)) (.cells #[.slice none 0 0, .slice none 0 0] 31)
  have b1 := heap_alloc (heap_alloc (heap_alloc (new_at (w.alloc (.cells #[.slice A0 n0 c0, .slice A1 n1 c1] 31)) (.cells #[.int .i64 s] 3) (w.heap.size + 1) (by simp)) (.cells #[.slice A2 n2 c2] 23)) (.cells #[.slice A3 n3 c3] 23)) (.cells #[.slice none 0 0, .slice none 0 0] 31)
  have b2 := heap_alloc (heap_alloc (new_at ((w.alloc (.cells #[.slice A0 n0 c0, .slice A1 n1 c1] 31)).alloc (.cells #[.int .i64 s] 3)) (.cells #[.slice A2 n2 c2] 23) (w.heap.size + 1 + 1) (by simp)) (.cells #[.slice A3 n3 c3] 23)) (.cells #[.slice none 0 0, .slice none 0 0] 31)
  have b3 := heap_alloc (new_at (((w.alloc (.cells #[.slice A0 n0 c0, .slice A1 n1 c1] 31)).alloc (.cells #[.int .i64 s] 3)).alloc (.cells #[.slice A2 n2 c2] 23)) (.cells #[.slice A3 n3 c3] 23) (w.heap.size + 1 + 1 + 1) (by simp)) (.cells #[.slice none 0 0, .slice none 0 0] 31)
  have b4 := new_at ((((w.alloc (.cells #[.slice A0 n0 c0, .slice A1 n1 c1] 31)).alloc (.cells #[.int .i64 s] 3)).alloc (.cells #[.slice A2 n2 c2] 23)).alloc (.cells #[.slice A3 n3 c3] 23)) (.cells #[.slice none 0 0, .slice none 0 0] 31) (w.heap.size + 1 + 1 + 1 + 1) (by simp)
  have low := low_alloc (low_alloc (low_alloc (low_alloc (below_alloc w (.cells #[.slice A0 n0 c0, .slice A1 n1 c1] 31)) (.cells #[.int .i64 s] 3)) (.cells #[.slice A2 n2 c2] 23)) (.cells #[.slice A3 n3 c3] 23)) (.cells #[.slice none 0 0, .slice none 0 0] 31)
  generalize hw0 : ((((w.alloc (.cells #[.slice A0 n0 c0, .slice A1 n1 c1] 31)).alloc (.cells #[.int .i64 s] 3)).alloc (.cells #[.slice A2 n2 c2] 23)).alloc (.cells #[.slice A3 n3 c3] 23)).alloc (.cells #[.slice none 0 0, .slice none 0 0] 31) = w0 at b0 b1 b2 b3 b4 low
  have hs := heap_lt b4
  have L0 := Lib.hid l0
  have L1 := Lib.hid l1
  have L2 := Lib.hid l2
  have L3 := Lib.hid l3
  have j0 := (h0.bound.below low).ints low.size
  have j1 := (h1.bound.below low).ints low.size
  have j2 := (h2.bound.below low).ints low.size
  have j3 := (h3.bound.below low).ints low.size
  clear h0 h1 l0 l1 l2 l3
  have x0 := (blk (i := 0) b0 rfl).1
  have x1 := (blk (i := 1) b0 rfl).1
  have x2 := (blk (i := 0) b1 rfl).1
  have x3 := (blk (i := 0) b2 rfl).1
  have x4 := (blk (i := 0) b3 rfl).1
  have r1 : Below w0.heap.size w0 (w0.alloc (.cells #[.slice A2 n2 c2, .slice A3 n3 c3] 23)) := below_alloc _ _
  have bw : (w0.alloc (.cells #[.slice A2 n2 c2, .slice A3 n3 c3] 23)).heap[w0.heap.size]? = some (.cells #[.slice A2 n2 c2, .slice A3 n3 c3] 23 (0, 0)) := heap_alloc_new w0 _
  obtain ⟨r, hr⟩ : ∃ r, decide (canB14 z0 n0 z1 us ws) = r := ⟨_, rfl⟩
  have cB := impl_canBuild_two A0 n0 c0 z0 A1 n1 c1 z1 A2 n2 c2 us A3 n3 c3 ws w0.heap.size 23 r hr _ (ints_to j0 r1) L0.out (by omega) (ints_to j1 r1) L1.out (by omega) (ints_to j2 r1) L2.out (by omega) (ints_to j3 r1) L3.out (by omega) bw
  have cN := fun (w4 : World) (L4 : Below w0.heap.size w0 w4) => impl_extendL_no A0 n0 c0 z0 A1 n1 c1 z1 (.func (.func 94) #[] #[.pointer (some ⟨w.heap.size + 1, 0, none⟩), .pointer (some ⟨w.heap.size + 1 + 1, 0, none⟩), .pointer (some ⟨w.heap.size + 1 + 1 + 1, 0, none⟩)]) w4 (ints_to j0 L4) L0.out m0 (ints_to j1 L4) L1.out m1
  have cW := impl_isWire s n0
  go_enter Try.func39, Try.ntmps39
  go_upto_region 1 with (fail)
  clear hw0
  go_wp2_with fail
  refine cB.mono ?_
  rintro e w4 ⟨rfl, hb4⟩
  have L4 := below_on hb4 r1
  have s4 := L4.size
  have y0 := cell_on x0 L4
  have y1 := cell_on x1 L4
  have y2 := cell_on x2 L4
  have bz4 := heap_below b4 L4
  clear cB hb4 bw r1 b0 b1 b2 b3 b4
  by_cases hcan : canB14 z0 n0 z1 us ws
  case neg =>
    obtain rfl : r = false := by rw [← hr, decide_eq_false hcan]
    have cE := Lib.hid cN
    clear cN
    have E := Lib.hid (show wMux z0 n0 z1 s us ws = (z0, []) from if_neg (fun e => hcan e.1))
    clear hr cW
    go_wp2_with fail
    refine (cE.out _ L4).mono ?_
    rintro e w5 ⟨A5, A6, n5, n6, c5, c6, A7, n7, c7, rfl, oc, oa, ap, hb5⟩
    have bz5 := heap_below bz4 hb5
    obtain ⟨e0, f0⟩ := blk (i := 0) bz5 rfl
    obtain ⟨e1, f1⟩ := blk (i := 1) bz5 rfl
    have D := Lib.hid (stored_A (G := w.heap.size + 1 + 1 + 1 + 1) (by omega) (by omega) (low.trans (L4.mono low.size)) oc oa ap hb5)
    have R := Lib.hid (heap_set (i := 1) (heap_set (i := 0) bz5 (.slice A5 n5 c5)) (.slice A6 n6 c6))
    clear oc oa ap hb5 bz5 y0 y1 y2 x0 x1 x2 x3 x4 cE L4 j0 j1 j2 j3 bz4 h2 h3
    go_wp2_with fail
    refine bodyPost_ret (results_cell_tmp_row (P := Try.prog) rfl _ _ _ (w.heap.size + 1 + 1 + 1 + 1) 31 _ (0, 0) _ rfl rfl R.out Try.underlying31 rfl (by kernel_rfl)) rfl ?_
    rw [E.out]
    exact D.out
  case pos =>
    obtain rfl : r = true := by rw [← hr, decide_eq_true hcan]
    by_cases hsw : 0 ≤ s ∧ s < (n0 : Int)
    case neg =>
      have cE := Lib.hid cN
      have cV := cW false (decide_eq_false hsw)
      clear cN cW
      go_wp2_with fail
      refine (cV _).mono ?_
      rintro e w3 ⟨rfl, rfl⟩
      have cW := trivial
      have E := Lib.hid (show wMux z0 n0 z1 s us ws = (z0, []) from if_neg (fun e => hsw e.2))
      clear hr cW
      go_wp2_with fail
      refine (cE.out _ L4).mono ?_
      rintro e w5 ⟨A5, A6, n5, n6, c5, c6, A7, n7, c7, rfl, oc, oa, ap, hb5⟩
      have bz5 := heap_below bz4 hb5
      obtain ⟨e0, f0⟩ := blk (i := 0) bz5 rfl
      obtain ⟨e1, f1⟩ := blk (i := 1) bz5 rfl
      have D := Lib.hid (stored_A (G := w.heap.size + 1 + 1 + 1 + 1) (by omega) (by omega) (low.trans (L4.mono low.size)) oc oa ap hb5)
      have R := Lib.hid (heap_set (i := 1) (heap_set (i := 0) bz5 (.slice A5 n5 c5)) (.slice A6 n6 c6))
      clear oc oa ap hb5 bz5 y0 y1 y2 x0 x1 x2 x3 x4 cE L4 j0 j1 j2 j3 bz4 h2 h3
      go_wp2_with fail
      refine bodyPost_ret (results_cell_tmp_row (P := Try.prog) rfl _ _ _ (w.heap.size + 1 + 1 + 1 + 1) 31 _ (0, 0) _ rfl rfl R.out Try.underlying31 rfl (by kernel_rfl)) rfl ?_
      rw [E.out]
      exact D.out
    case pos =>
      have n4 : n2 = 4 := by rw [← L2.out]; exact hcan.2.1.1
      have n5 : n3 = 4 := by rw [← L3.out]; exact hcan.2.2.1
      have n59 := hcan.1.2
      subst n4 n5
      have cE := Lib.hid (fun (w4 : World) (L4 : Below w0.heap.size w0 w4) => impl_extendL_yes A0 n0 c0 z0 A1 n1 c1 z1 94 #[.pointer (some ⟨w.heap.size + 1, 0, none⟩), .pointer (some ⟨w.heap.size + 1 + 1, 0, none⟩), .pointer (some ⟨w.heap.size + 1 + 1 + 1, 0, none⟩)] (n0 + 3 * 4) (muxAt z0 s us ws 4).1 (muxAt z0 s us ws 4).2 w4 (ints_to j0 L4) L0.out m0 (ints_to j1 L4) L1.out m1 Try.call94 (fun B g v v1 W h hB hg hw hb => by
        have LW := low.trans ((L4.trans (hb.mono L4.size)).mono low.size)
        have hL4 := L4.size
        have o2 := Off.of_bound ((h2.bound.below LW).more (hi := B) (by have := low.size; omega)) hg (fun b e => (h.own.lt b e).1) hB
        have o3 := Off.of_bound ((h3.bound.below LW).more (hi := B) (by have := low.size; omega)) hg (fun b e => (h.own.lt b e).1) hB
        exact impl_WordMux1 B g n0 v v1 z0 s A2 c2 us A3 c3 ws (w.heap.size + 1) (w.heap.size + 1 + 1) (w.heap.size + 1 + 1 + 1) W h hB (cell_on (cell_on x2 L4) hb) (cell_on (cell_on x3 L4) hb) (cell_on (cell_on x4 L4) hb) o2 L2.out o3 L3.out (by omega)))
      have cV := cW true (decide_eq_true hsw)
      clear cN cW
      go_wp2_with fail
      refine (cV _).mono ?_
      rintro e w3 ⟨rfl, rfl⟩
      have cW := trivial
      have E := Lib.hid (show wMux z0 n0 z1 s us ws = muxAt z0 s us ws 4 from if_pos ⟨hcan, hsw⟩)
      clear hr cW
      go_wp2_with fail
      refine (cE.out _ L4).mono ?_
      rintro e w5 ⟨A5, A6, n5, n6, c5, c6, A7, n7, c7, rfl, oc, oa, ap, hb5⟩
      have bz5 := heap_below bz4 hb5
      obtain ⟨e0, f0⟩ := blk (i := 0) bz5 rfl
      obtain ⟨e1, f1⟩ := blk (i := 1) bz5 rfl
      have D := Lib.hid (stored_A (G := w.heap.size + 1 + 1 + 1 + 1) (by omega) (by omega) (low.trans (L4.mono low.size)) oc oa ap hb5)
      have R := Lib.hid (heap_set (i := 1) (heap_set (i := 0) bz5 (.slice A5 n5 c5)) (.slice A6 n6 c6))
      clear oc oa ap hb5 bz5 y0 y1 y2 x0 x1 x2 x3 x4 cE L4 j0 j1 j2 j3 bz4 h2 h3
      go_wp2_with fail
      refine bodyPost_ret (results_cell_tmp_row (P := Try.prog) rfl _ _ _ (w.heap.size + 1 + 1 + 1 + 1) 31 _ (0, 0) _ rfl rfl R.out Try.underlying31 rfl (by kernel_rfl)) rfl ?_
      rw [E.out]
      exact D.out
end Go.Proofs.Ytegdlegndgdgiaa

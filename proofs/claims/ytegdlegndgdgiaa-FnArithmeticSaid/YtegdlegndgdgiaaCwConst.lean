/- Circuit builders: WordConst, the program's. No condition. -/
import Derived.Test.YtegdlegndgdgiaaProg
import Derived.Test.YtegdlegndgdgiaaCwF
import Derived.Test.YtegdlegndgdgiaaW2
import Derived.Test.YtegdlegndgdgiaaRegV
namespace Go.Proofs.Ytegdlegndgdgiaa
open Go Go.RowKit
theorem impl_WordConst1 (B g n : Nat) (v v1 : Value) (z : List Int) (N : Int) (hN : 0 ≤ N ∧ N ≤ 15) (bn : Nat) (W : World) (h : Cir B g W v v1 n z) (hB : B ≤ W.heap.size) (xn : W.cell? ⟨bn, 0, none⟩ = some (.int .i64 N)) (hn : n ≤ 970000) :
    Calls Try.prog 81 #[.pointer (some ⟨g, 0, none⟩), .pointer (some ⟨bn, 0, none⟩)] W (PutL B g v1 (n + 4) (constAt z N 4).1 (constAt z N 4).2 v W) := by
  have cc := impl_number B g n v v1 z N hN W h hB (by omega)
  clear h
  go_enter Try.func81, Try.ntmps81
  go_wp2_with fail
  refine cc.mono ?_
  rintro e w1 ⟨v', A5, k5, c5, rfl, l5, h5, t5, wl5⟩
  go_wp2_with fail
  go_ret
  exact ⟨v', A5, k5, c5, rfl, l5, h5, t5, wl5⟩
theorem all4_one {N : Int} : all4 [N] ↔ 0 ≤ N ∧ N ≤ 15 := ⟨fun h => h N (by simp), fun h x hx => by simp at hx; subst hx; exact h⟩
set_option maxRecDepth 100000 in
set_option maxHeartbeats 4000000 in
theorem impl_WordConst (A0 : Option Addr) (n0 c0 : Nat) (z0 : List Int) (A1 : Option Addr) (n1 c1 : Nat) (z1 : List Int) (N : Int) (w : World) (h0 : Ints w A0 z0) (l0 : z0.length = n0 * 3) (m0 : n0 ≤ 2000000) (h1 : Ints w A1 z1) (l1 : z1.length = n1) (m1 : n1 ≤ 2000000) :
    Calls Try.prog 32 #[.agg #[.slice A0 n0 c0, .slice A1 n1 c1], .int .i64 N] w (Post_Circuit_A (wConst z0 n0 z1 N).1 z1 (wConst z0 n0 z1 N).2 w) := by
  have b0 := heap_alloc (heap_alloc (heap_alloc_new w (.cells #[.slice A0 n0 c0, .slice A1 n1 c1] 31)) (.cells #[.int .i64 N] 3)) (.cells #[.slice none 0 0, .slice none 0 0] 31)
  have b1 := heap_alloc (new_at (w.alloc (.cells #[.slice A0 n0 c0, .slice A1 n1 c1] 31)) (.cells #[.int .i64 N] 3) (w.heap.size + 1) (by simp)) (.cells #[.slice none 0 0, .slice none 0 0] 31)
  have b2 := new_at ((w.alloc (.cells #[.slice A0 n0 c0, .slice A1 n1 c1] 31)).alloc (.cells #[.int .i64 N] 3)) (.cells #[.slice none 0 0, .slice none 0 0] 31) (w.heap.size + 1 + 1) (by simp)
  have low := low_alloc (low_alloc (below_alloc w (.cells #[.slice A0 n0 c0, .slice A1 n1 c1] 31)) (.cells #[.int .i64 N] 3)) (.cells #[.slice none 0 0, .slice none 0 0] 31)
  generalize hw0 : ((w.alloc (.cells #[.slice A0 n0 c0, .slice A1 n1 c1] 31)).alloc (.cells #[.int .i64 N] 3)).alloc (.cells #[.slice none 0 0, .slice none 0 0] 31) = w0 at b0 b1 b2 low
  have hs := heap_lt b2
  have L0 := Lib.hid l0
  have L1 := Lib.hid l1
  have j0 := (h0.bound.below low).ints low.size
  have j1 := (h1.bound.below low).ints low.size
  clear h0 h1 l0 l1
  have x0 := (blk (i := 0) b0 rfl).1
  have x1 := (blk (i := 1) b0 rfl).1
  have x2 := (blk (i := 0) b1 rfl).1
  obtain ⟨r, hr⟩ : ∃ r, decide (canC14 z0 n0 z1) = r := ⟨_, rfl⟩
  have cB := impl_canBuild_none A0 n0 c0 z0 A1 n1 c1 z1 r hr w0 j0 L0.out (by omega) j1 L1.out (by omega)
  have cN := fun (w4 : World) (L4 : Below w0.heap.size w0 w4) => impl_extendL_no A0 n0 c0 z0 A1 n1 c1 z1 (.func (.func 81) #[] #[.pointer (some ⟨w.heap.size + 1, 0, none⟩)]) w4 (ints_to j0 L4) L0.out m0 (ints_to j1 L4) L1.out m1
  go_enter Try.func32, Try.ntmps32
  go_upto_region 1 with (fail)
  clear hw0
  go_wp2_with fail
  refine cB.mono ?_
  rintro e w4 ⟨rfl, L4⟩
  have s4 := L4.size
  have y0 := cell_on x0 L4
  have y1 := cell_on x1 L4
  have y2 := cell_on x2 L4
  have bz4 := heap_below b2 L4
  clear cB b0 b1 b2
  by_cases hcan : canC14 z0 n0 z1
  case neg =>
    obtain rfl : r = false := by rw [← hr, decide_eq_false hcan]
    have cE := Lib.hid cN
    clear cN
    have E := Lib.hid (show wConst z0 n0 z1 N = (z0, []) from if_neg (fun e => hcan e.1))
    clear hr
    go_wp2_with fail
    refine (cE.out _ L4).mono ?_
    rintro e w5 ⟨A5, A6, n5, n6, c5, c6, A7, n7, c7, rfl, oc, oa, ap, hb5⟩
    have bz5 := heap_below bz4 hb5
    obtain ⟨e0, f0⟩ := blk (i := 0) bz5 rfl
    obtain ⟨e1, f1⟩ := blk (i := 1) bz5 rfl
    have D := Lib.hid (stored_A (G := w.heap.size + 1 + 1) (by omega) (by omega) (low.trans (L4.mono low.size)) oc oa ap hb5)
    have R := Lib.hid (heap_set (i := 1) (heap_set (i := 0) bz5 (.slice A5 n5 c5)) (.slice A6 n6 c6))
    clear oc oa ap hb5 bz5 y0 y1 y2 x0 x1 x2 cE L4 j0 j1 bz4
    go_wp2_with fail
    refine bodyPost_ret (results_cell_tmp_row (P := Try.prog) rfl _ _ _ (w.heap.size + 1 + 1) 31 _ (0, 0) _ rfl rfl R.out Try.underlying31 rfl (by kernel_rfl)) rfl ?_
    rw [E.out]
    exact D.out
  case pos =>
    obtain rfl : r = true := by rw [← hr, decide_eq_true hcan]
    have r4 := L4.alloc L4.size (.cells #[.int .i64 N] 3)
    have z4 : (w4.alloc (.cells #[.int .i64 N] 3)).heap[w4.heap.size]? = some (.cells #[.int .i64 N] 3 (0, 0)) := heap_alloc_new w4 _
    have iN : Ints (w4.alloc (.cells #[.int .i64 N] 3)) (some ⟨w4.heap.size, 0, none⟩) [N] := fun _ => ⟨w4.heap.size, 0, rfl, heap_lt z4, fun j hj => by
      obtain rfl : j = 0 := by simp at hj; exact hj
      exact (blk (i := 0) z4 rfl).1⟩
    have y3 := cell_on y0 (below_alloc w4 (.cells #[.int .i64 N] 3))
    have y4 := cell_on y1 (below_alloc w4 (.cells #[.int .i64 N] 3))
    have bz6 := heap_alloc bz4 (.cells #[.int .i64 N] 3)
    have sz6 : w4.heap.size ≤ (w4.alloc (.cells #[.int .i64 N] 3)).heap.size := by simp
    by_cases hsw : 0 ≤ N ∧ N ≤ 15
    case neg =>
      have cE := Lib.hid cN
      have cV := impl_allRegValues (some ⟨w4.heap.size, 0, none⟩) 1 1 [N] false (decide_eq_false (fun e => hsw (all4_one.1 e))) _ iN rfl (by omega)
      clear cN
      go_wp2_with fail
      refine cV.mono ?_
      rintro e w3 ⟨rfl, rfl⟩
      generalize hw6 : w4.alloc (.cells #[.int .i64 N] 3) = w6 at *
      clear hw6 cV iN z4 y0 y1 y2 bz4
      have E := Lib.hid (show wConst z0 n0 z1 N = (z0, []) from if_neg (fun e => hsw e.2))
      clear hr
      go_wp2_with fail
      refine (cE.out _ r4).mono ?_
      rintro e w5 ⟨A5, A6, n5, n6, c5, c6, A7, n7, c7, rfl, oc, oa, ap, hb5⟩
      have bz5 := heap_below bz6 hb5
      obtain ⟨e0, f0⟩ := blk (i := 0) bz5 rfl
      obtain ⟨e1, f1⟩ := blk (i := 1) bz5 rfl
      have D := Lib.hid (stored_A (G := w.heap.size + 1 + 1) (by omega) (by omega) (low.trans (r4.mono low.size)) oc oa ap hb5)
      have R := Lib.hid (heap_set (i := 1) (heap_set (i := 0) bz5 (.slice A5 n5 c5)) (.slice A6 n6 c6))
      clear oc oa ap hb5 bz5 y3 y4 x0 x1 x2 cE L4 r4 j0 j1 bz6
      go_wp2_with fail
      refine bodyPost_ret (results_cell_tmp_row (P := Try.prog) rfl _ _ _ (w.heap.size + 1 + 1) 31 _ (0, 0) _ rfl rfl R.out Try.underlying31 rfl (by kernel_rfl)) rfl ?_
      rw [E.out]
      exact D.out
    case pos =>
      have n59 := hcan.2
      have cE := Lib.hid (fun (w4 : World) (L4 : Below w0.heap.size w0 w4) => impl_extendL_yes A0 n0 c0 z0 A1 n1 c1 z1 81 #[.pointer (some ⟨w.heap.size + 1, 0, none⟩)] (n0 + 4) (constAt z0 N 4).1 (constAt z0 N 4).2 w4 (ints_to j0 L4) L0.out m0 (ints_to j1 L4) L1.out m1 Try.call81 (fun B g v v1 W h hB _ _ hb =>
        impl_WordConst1 B g n0 v v1 z0 N hsw (w.heap.size + 1) W h hB (cell_on (cell_on x2 L4) hb) (by omega)))
      have cV := impl_allRegValues (some ⟨w4.heap.size, 0, none⟩) 1 1 [N] true (decide_eq_true (all4_one.2 hsw)) _ iN rfl (by omega)
      clear cN
      go_wp2_with fail
      refine cV.mono ?_
      rintro e w3 ⟨rfl, rfl⟩
      generalize hw6 : w4.alloc (.cells #[.int .i64 N] 3) = w6 at *
      clear hw6 cV iN z4 y0 y1 y2 bz4
      have E := Lib.hid (show wConst z0 n0 z1 N = constAt z0 N 4 from if_pos ⟨hcan, hsw⟩)
      clear hr
      go_wp2_with fail
      refine (cE.out _ r4).mono ?_
      rintro e w5 ⟨A5, A6, n5, n6, c5, c6, A7, n7, c7, rfl, oc, oa, ap, hb5⟩
      have bz5 := heap_below bz6 hb5
      obtain ⟨e0, f0⟩ := blk (i := 0) bz5 rfl
      obtain ⟨e1, f1⟩ := blk (i := 1) bz5 rfl
      have D := Lib.hid (stored_A (G := w.heap.size + 1 + 1) (by omega) (by omega) (low.trans (r4.mono low.size)) oc oa ap hb5)
      have R := Lib.hid (heap_set (i := 1) (heap_set (i := 0) bz5 (.slice A5 n5 c5)) (.slice A6 n6 c6))
      clear oc oa ap hb5 bz5 y3 y4 x0 x1 x2 cE L4 r4 j0 j1 bz6
      go_wp2_with fail
      refine bodyPost_ret (results_cell_tmp_row (P := Try.prog) rfl _ _ _ (w.heap.size + 1 + 1) 31 _ (0, 0) _ rfl rfl R.out Try.underlying31 rfl (by kernel_rfl)) rfl ?_
      rw [E.out]
      exact D.out
end Go.Proofs.Ytegdlegndgdgiaa

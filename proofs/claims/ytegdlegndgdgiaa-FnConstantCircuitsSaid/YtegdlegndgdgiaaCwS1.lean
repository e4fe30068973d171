/- Circuit builders: WordAdd, the model's. No condition. -/
import Derived.Test.YtegdlegndgdgiaaProg
import Derived.Test.YtegdlegndgdgiaaCwF
import Derived.Test.YtegdlegndgdgiaaCwK
import Derived.Test.YtegdlegndgdgiaaW3
namespace Go.Proofs.Ytegdlegndgdgiaa
open Go Go.RowKit
set_option maxRecDepth 100000 in
set_option maxHeartbeats 4000000 in
theorem spec_WordAdd (A0 : Option Addr) (n0 c0 : Nat) (z0 : List Int) (A1 : Option Addr) (n1 c1 : Nat) (z1 : List Int) (A2 : Option Addr) (n2 c2 : Nat) (us : List Int) (A3 : Option Addr) (n3 c3 : Nat) (ws : List Int) (w : World) (h0 : Ints w A0 z0) (l0 : z0.length = n0 * 3) (m0 : n0 ≤ 2000000) (h1 : Ints w A1 z1) (l1 : z1.length = n1) (m1 : n1 ≤ 2000000)
    (h2 : Ints w A2 us) (l2 : us.length = n2) (m2 : n2 ≤ 2000000) (h3 : Ints w A3 ws) (l3 : ws.length = n3) (m3 : n3 ≤ 2000000) :
    Calls Try.prog 56 #[.agg #[.slice A0 n0 c0, .slice A1 n1 c1], .slice A2 n2 c2, .slice A3 n3 c3] w (Post_Circuit_A (wAdd z0 n0 z1 us ws).1 z1 (wAdd z0 n0 z1 us ws).2 w) := by
  have k0 := Bx2.start w 31 #[.slice A0 n0 c0, .slice A1 n1 c1] 31 #[.slice none 0 0, .slice none 0 0]
  generalize hw0 : (w.alloc (.cells #[.slice A0 n0 c0, .slice A1 n1 c1] 31)).alloc (.cells #[.slice none 0 0, .slice none 0 0] 31) = w0 at k0
  have hs := k0.lt
  have L0 := Lib.hid l0
  have L1 := Lib.hid l1
  have j0 := (h0.bound.below k0.low).ints k0.low.size
  have j1 := (h1.bound.below k0.low).ints k0.low.size
  have L2 := Lib.hid l2
  have L3 := Lib.hid l3
  have j2 := (h2.bound.below k0.low).ints k0.low.size
  have j3 := (h3.bound.below k0.low).ints k0.low.size
  have q2 := j2.bound
  have q3 := j3.bound
  clear h2 h3 l2 l3
  clear h0 h1 l0 l1
  have x0 := (blk (i := 0) k0.arg rfl).1
  have x1 := (blk (i := 1) k0.arg rfl).1
  have cP := spec_l14Copy A0 A1 c0 c1 n0 n1 z0 z1 w0 j0 L0.out m0 j1 L1.out m1
  go_enter Try.func56, Try.ntmps56
  go_upto_region 1 with (fail)
  clear hw0
  go_wp2_with fail
  refine cP.mono ?_
  rintro e w4 ⟨A5, A6, n5, n6, c5, c6, rfl, p0, p1, ap, hb4⟩
  obtain rfl : n5 = n0 := by have h1 := p0.own.1; have h2 := L0.out; rw [intVals_length] at h1; omega
  obtain rfl : n6 = n1 := by have h1 := p1.own.1; have h2 := L1.out; rw [intVals_length] at h1; omega
  have E := Ext.last p0.own p1.own rfl ap.symm (Nat.le_refl _) (Nat.le_refl _) hb4
  replace x0 := cell_on x0 E.low
  replace x1 := cell_on x1 E.low
  have k1 := k0.next E.low
  replace j0 := ints_to j0 E.low
  replace j1 := ints_to j1 E.low
  replace j2 := ints_to j2 E.low
  replace j3 := ints_to j3 E.low
  clear k0 p0 p1 ap cP hb4
  go_upto_region 2 with (fail)
  generalize hg : w4.heap.size = g at *
  generalize hw5 : w4.alloc (.cells #[.slice A5 n5 c5, .slice A6 n6 c6] 31) = w5 at *
  clear hg hw5
  obtain ⟨r, hr⟩ : ∃ r, decide (canB14 z0 n5 z1 us ws) = r := ⟨_, rfl⟩
  have cA := spec_l14Ask A0 n5 c0 z0 A1 n6 c1 z1 A2 n2 c2 us A3 n3 c3 ws r hr w5 j0 L0.out (by omega) j1 L1.out (by omega) j2 L2.out (by omega) j3 L3.out (by omega)
  go_wp2_with fail
  refine cA.mono ?_
  rintro e w6 ⟨rfl, hb6⟩
  have k6 := k1.next hb6
  have cir6 := E.cir.below hb6
  have out6 := E.outs.below hb6
  have low6 := E.low.trans (hb6.mono E.low.size)
  have hg6 := E.ge
  have y0 := cell_on x0 hb6
  have y1 := cell_on x1 hb6
  clear cA E k1 x0 x1 j0 j1 j2 j3 hb6
  by_cases hcan : canB14 z0 n5 z1 us ws
  case neg =>
    obtain rfl : r = false := by rw [← hr, decide_eq_false hcan]
    clear hr q2 q3
    have Q := Lib.hid (show wAdd z0 n5 z1 us ws = (z0, []) from if_neg (hcan))
    have f1 := heap_alloc_new w6 (.cells #[] 3)
    have k7 := k6.next (below_alloc w6 (.cells #[] 3))
    have wl := Wl.fresh (us := []) cir6 (own_nil f1 (Nat.le_refl _)) (Nat.le_refl _)
    have hap : apart (.slice (some ⟨w6.heap.size, 0, none⟩) 0 0) (.slice A6 n6 c6) := fun b e e' => by
      have e2 : w6.heap.size = b := by simpa [Value.ownBlock] using e
      have := (out6.own.lt b e').2
      omega
    have D := Lib.hid (doneL k7 (cir6.alloc _) (out6.alloc _) (wl.mono low6.size) hap hs)
    have R := Lib.hid (heap_set (i := 1) (heap_set (i := 0) k7.res (.slice A5 n5 c5)) (.slice A6 n6 c6))
    obtain ⟨g0, _⟩ := blk (i := 0) cir6.box rfl
    obtain ⟨g1, _⟩ := blk (i := 1) cir6.box rfl
    obtain ⟨g2, _⟩ := blk (i := 0) (heap_alloc cir6.box (.cells #[] 3)) rfl
    obtain ⟨g3, _⟩ := blk (i := 1) (heap_alloc cir6.box (.cells #[] 3)) rfl
    obtain ⟨_, f0⟩ := blk (i := 0) k7.res rfl
    obtain ⟨_, f1⟩ := blk (i := 1) k7.res rfl
    clear k6 k7 cir6 out6 low6 wl hap
    go_wp2_with fail
    refine bodyPost_ret (results_cell_tmp_row (P := Try.prog) rfl _ _ _ (w.heap.size + 1) 31 _ (0, 0) _ rfl rfl R.out Try.underlying31 rfl (by kernel_rfl)) rfl ?_
    rw [Q.out]
    exact D.out
  case pos =>
    obtain rfl : r = true := by rw [← hr, decide_eq_true hcan]
    have n4 : n2 = 4 := by rw [← L2.out]; exact hcan.2.1.1
    have n5' : n3 = 4 := by rw [← L3.out]; exact hcan.2.2.1
    have n59 := hcan.1.2
    subst n4 n5'
    clear hr
    have Q := Lib.hid (show wAdd z0 n5 z1 us ws = sumA z0 us ws 0 3 from if_pos (hcan))
    have o2 := Off.of_bound (q2.below low6) hg6 (fun b e => (cir6.own.lt b e).1) low6.size
    have o3 := Off.of_bound (q3.below low6) hg6 (fun b e => (cir6.own.lt b e).1) low6.size
    have cB := spec_l14Sum w0.heap.size g n5 _ _ z0 A2 3 c2 us A3 c3 ws 0 w6 cir6 low6.size o2 L2.out o3 L3.out (by omega) (by omega)
    go_wp2_with fail
    refine cB.mono ?_
    rintro e w7 ⟨v7, A7, k7, c7, rfl, l7, h7, t7, wl7⟩
    have k8 := k6.of_low (t7.low hg6 (fun b e => (cir6.own.lt b e).1) low6.size) hs
    have o7 := out6.turn t7
    obtain ⟨A9, q9, c9, rfl, rfl⟩ := ownsRow_slice h7.own
    have hap : apart (.slice A7 k7 c7) (.slice A6 n6 c6) := fun b e e' => by
      have h1 := (wl7.own.lt b e).1
      have h2 := (out6.own.lt b e').2
      omega
    have D := Lib.hid (doneL k8 h7 o7 (wl7.mono low6.size) hap hs)
    have R := Lib.hid (heap_set (i := 1) (heap_set (i := 0) k8.res (.slice A9 (n5 + 1 + 5 * 3 + 1 + 1) c9)) (.slice A6 n6 c6))
    obtain ⟨g0, _⟩ := blk (i := 0) h7.box rfl
    obtain ⟨g1, _⟩ := blk (i := 1) h7.box rfl
    obtain ⟨_, f0⟩ := blk (i := 0) k8.res rfl
    obtain ⟨_, f1⟩ := blk (i := 1) k8.res rfl
    clear k6 k8 cir6 out6 low6 h7 o7 t7 wl7 hap cB o2 o3
    go_wp2_with fail
    refine bodyPost_ret (results_cell_tmp_row (P := Try.prog) rfl _ _ _ (w.heap.size + 1) 31 _ (0, 0) _ rfl rfl R.out Try.underlying31 rfl (by kernel_rfl)) rfl ?_
    rw [Q.out]
    exact D.out
end Go.Proofs.Ytegdlegndgdgiaa

/- A copy of a circuit, the program's. No condition. -/
import Derived.Test.YtegdlegndgdgiaaProg
import Derived.Test.YtegdlegndgdgiaaCwY
import Derived.Test.YtegdlegndgdgiaaCloneI
import Derived.Test.YtegdlegndgdgiaaB1
import Derived.Deep.RegionHeld3
namespace Go.Proofs.Ytegdlegndgdgiaa
open Go Go.RowKit
set_option maxRecDepth 100000 in
set_option maxHeartbeats 2000000 in
theorem impl_cloneCircuit (A0 A1 : Option Addr) (c0 c1 n0 n1 : Nat) (rs os : List Int) (w : World) (h0 : Ints w A0 rs) (l0 : rs.length = n0 * 3) (m0 : n0 ≤ 2000000) (h1 : Ints w A1 os) (l1 : os.length = n1) (m1 : n1 ≤ 2000000) :
    Calls Try.prog 101 #[.agg #[.slice A0 n0 c0, .slice A1 n1 c1]] w (NewCir rs os w) := by
  have k0 := Bx2.start w 31 #[.slice A0 n0 c0, .slice A1 n1 c1] 31 #[.slice none 0 0, .slice none 0 0]
  have L0 := Lib.hid l0
  have L1 := Lib.hid l1
  have i0 := h0.bound
  have i1 := h1.bound
  clear l0 l1 h0 h1
  go_enter Try.func101, Try.ntmps101
  go_upto_region 1 with (fail)
  generalize hw0 : (w.alloc (.cells #[.slice A0 n0 c0, .slice A1 n1 c1] 31)).alloc (.cells #[.slice none 0 0, .slice none 0 0] 31) = w0 at *
  clear hw0
  have hs := k0.lt
  have j0 := (i0.below k0.low).ints k0.low.size
  have j1 := (i1.below k0.low).ints k0.low.size
  have x0 := (blk (i := 0) k0.arg rfl).1
  have x1 := (blk (i := 1) k0.arg rfl).1
  have r0 : Below w0.heap.size w0 w0.drew := (Below.refl _ _).drew
  go_region_held3 (fun w' => w'.cell? ⟨w.heap.size, 0, none⟩ = some (.slice A0 n0 c0) ∧ w'.cell? ⟨w.heap.size, 1, none⟩ = some (.slice A1 n1 c1)) (first | trivial | exact ⟨x0, x1⟩ | exact ⟨y0, y1⟩ | exact ⟨u0, u1⟩ | exact ⟨far_two u0 (by simp) _ _, far_two u1 (by simp) _ _⟩) (first
    | (go_at_call 142; (with_reducible refine (impl_CloneG A0 n0 c0 rs _ (ints_to j0 r0) L0.out (by omega)).mono ?_); rintro e w3 ⟨A3, q3, c3, rfl, l3, o3, b3⟩; (have L3 := below_on b3 r0); (have s3 := L3.size); (have y0 := cell_on x0 L3); (have y1 := cell_on x1 L3))
    | (go_at_call 143; (with_reducible refine (impl_CloneI A1 n1 c1 os _ (ints_to j1 L3) L1.out (by omega)).mono ?_); rintro e w4 ⟨A4, q4, c4, rfl, l4, o4, b4⟩; (have L4 := below_on b4 L3); (have s4 := L4.size); (have u0 := cell_on x0 L4); (have u1 := cell_on x1 L4); (have k4 := k0.next L4); (obtain ⟨e0, f0⟩ := blk (i := 0) k4.res rfl); (obtain ⟨e1, f1⟩ := blk (i := 1) k4.res rfl)))
  all_goals
    have q0 : w0.heap.size ≤ w0.drew.heap.size := Nat.le_refl _
    have s5 := b4.size
    have s6 := b3.size
    (try simp at s5)
    (try simp at s6)
    have o34 := own_below o3 b4
    have hap : apart (.slice A3 q3 c3) (.slice A4 q4 c4) := fun b e e' => by
      have h1 := (o4.own.lt b e').1
      have h2 := (o3.lt b e).2
      omega
    have O3 := OwnT.of_own o34
    have O4 := OwnT.of_own (e := 3) o4.own
    have r7 := heap_set (i := 1) (heap_set (i := 0) k4.res (.slice A3 q3 c3)) (.slice A4 q4 c4)
    have l7 := (k4.low.setCell (p := ⟨w.heap.size + 1, 0, none⟩) (by simp) (.slice A3 q3 c3)).setCell (p := ⟨w.heap.size + 1, 1, none⟩) (by simp) (.slice A4 q4 c4)
    have OO : Hid (OwnT 45 3 w.heap.size w4.heap.size ((w4.setCell ⟨w.heap.size + 1, 0, none⟩ (.slice A3 q3 c3)).setCell ⟨w.heap.size + 1, 1, none⟩ (.slice A4 q4 c4)) (.slice A3 q3 c3) q3 rs ∧ OwnT 3 1 w.heap.size w4.heap.size ((w4.setCell ⟨w.heap.size + 1, 0, none⟩ (.slice A3 q3 c3)).setCell ⟨w.heap.size + 1, 1, none⟩ (.slice A4 q4 c4)) (.slice A4 q4 c4) q4 os ∧ apart (.slice A3 q3 c3) (.slice A4 q4 c4)) := by
      refine Lib.hid ⟨?_, ?_, hap⟩
      · exact ((O3.setFar (g := w.heap.size + 1) (i := 0) (by omega) (.slice A3 q3 c3)).setFar (g := w.heap.size + 1) (i := 1) (by omega) (.slice A4 q4 c4)).wide (by omega) (by first | exact Nat.le_refl _ | omega)
      · exact ((O4.setFar (g := w.heap.size + 1) (i := 0) (by omega) (.slice A3 q3 c3)).setFar (g := w.heap.size + 1) (i := 1) (by omega) (.slice A4 q4 c4)).wide (by omega) (Nat.le_refl _)
    have R7 := Lib.hid r7
    have LL := Lib.hid l7
    clear O3 O4 hap o34 o3 o4 b3 b4 r7 l7 k4
    go_wp2_with fail
    refine bodyPost_ret (results_cell_row (P := Try.prog) rfl _ _ (w.heap.size + 1) 31 _ (0, 0) _ rfl R7.out Try.underlying31 rfl (by kernel_rfl)) rfl ?_
    exact ⟨_, _, _, _, _, _, rfl, OO.out.1.wide (Nat.le_refl _) (by simp), OO.out.2.1.wide (Nat.le_refl _) (by simp), OO.out.2.2, LL.out⟩
end Go.Proofs.Ytegdlegndgdgiaa

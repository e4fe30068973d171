/- StateNew: the program's and the model's. No condition. -/
import Derived.Test.YtlaidjibcpfnjaaProg
import Derived.Test.YtlaidjibcpfnjaaSState
import Derived.Test.YtlaidjibcpfnjaaB1
namespace Go.Proofs.Ytlaidjibcpfnjaa
open Go Go.RowKit
theorem impl_StateNew (w : World) : Calls Try.prog 21 #[] w (Post_State (List.replicate 8 0) [] w) := by
  have b0 := heap_alloc_new w (.cells #[.slice none 0 0, .slice none 0 0] 38)
  have low := (Below.refl w.heap.size w).alloc (Nat.le_refl _) (.cells #[.slice none 0 0, .slice none 0 0] 38)
  go_enter Try.func21, Try.ntmps21
  go_wp2_with (first | (refine make_fullI Try.underlying28 infoInt rfl rfl _ _ rfl (w.heap.size + 1) _ _ _ _ 8 rfl rfl rfl rfl (by omega) (by unfold maxLen; omega) (by simp) ?_))
  intro w1 hown hg
  have b1 := heap_grown b0 hg (by simp)
  have low1 := low.grown hg low.size (fun k h => by cases h)
  obtain ⟨c0, f0⟩ := blk (i := 0) b1 rfl
  obtain ⟨c1, f1⟩ := blk (i := 1) b1 rfl
  have Ho := Lib.hid hown
  clear hown hg b0 low
  go_wp2_with fail
  have h0 : w1.ownsRow (w.heap.size + 1) 3 1 (.slice (some ⟨w.heap.size + 1, 0, none⟩) 8 8) 8 (intVals (List.replicate 8 0)) := Ho.out
  have ho := ((OwnA.of_own h0).setFar (g := w.heap.size) (i := 0) (by omega) (.slice (some ⟨w.heap.size + 1, 0, none⟩) 8 8)).setFar (g := w.heap.size) (i := 1) (by omega) (.slice none 0 0)
  have b2 := heap_set (i := 1) (heap_set (i := 0) b1 (.slice (some ⟨w.heap.size + 1, 0, none⟩) 8 8)) (.slice none 0 0)
  refine bodyPost_ret (results_cell_row (P := Try.prog) rfl _ _ w.heap.size 38 _ (0, 0) _ rfl b2 Try.underlying38 rfl (by kernel_rfl)) rfl ?_
  exact ⟨_, none, 8, 0, 8, 0, rfl, ⟨ho.wide (by omega) (by simp), OwnA.nil _ _ _ _, (apart.nil _ _ _).symm⟩, (low1.setCell (Nat.le_refl _) _).setCell (Nat.le_refl _) _⟩
theorem spec_StateNew (w : World) : Calls Try.prog 29 #[] w (Post_State (List.replicate 8 0) [] w) := by
  have b0 := heap_alloc_new w (.cells #[.slice none 0 0, .slice none 0 0] 38)
  have low := (Below.refl w.heap.size w).alloc (Nat.le_refl _) (.cells #[.slice none 0 0, .slice none 0 0] 38)
  go_enter Try.func29, Try.ntmps29
  go_wp2_with (first | (refine make_fullI Try.underlying28 infoInt rfl rfl _ _ rfl (w.heap.size + 1) _ _ _ _ 8 rfl rfl rfl rfl (by omega) (by unfold maxLen; omega) (by simp) ?_))
  intro w1 hown hg
  have b1 := heap_grown b0 hg (by simp)
  have low1 := low.grown hg low.size (fun k h => by cases h)
  obtain ⟨c0, f0⟩ := blk (i := 0) b1 rfl
  obtain ⟨c1, f1⟩ := blk (i := 1) b1 rfl
  have Ho := Lib.hid hown
  clear hown hg b0 low
  go_wp2_with fail
  have h0 : w1.ownsRow (w.heap.size + 1) 3 1 (.slice (some ⟨w.heap.size + 1, 0, none⟩) 8 8) 8 (intVals (List.replicate 8 0)) := Ho.out
  have ho := ((OwnA.of_own h0).setFar (g := w.heap.size) (i := 0) (by omega) (.slice (some ⟨w.heap.size + 1, 0, none⟩) 8 8)).setFar (g := w.heap.size) (i := 1) (by omega) (.slice none 0 0)
  have b2 := heap_set (i := 1) (heap_set (i := 0) b1 (.slice (some ⟨w.heap.size + 1, 0, none⟩) 8 8)) (.slice none 0 0)
  refine bodyPost_ret (results_cell_row (P := Try.prog) rfl _ _ w.heap.size 38 _ (0, 0) _ rfl b2 Try.underlying38 rfl (by kernel_rfl)) rfl ?_
  exact ⟨_, none, 8, 0, 8, 0, rfl, ⟨ho.wide (by omega) (by simp), OwnA.nil _ _ _ _, (apart.nil _ _ _).symm⟩, (low1.setCell (Nat.le_refl _) _).setCell (Nat.le_refl _) _⟩
end Go.Proofs.Ytlaidjibcpfnjaa

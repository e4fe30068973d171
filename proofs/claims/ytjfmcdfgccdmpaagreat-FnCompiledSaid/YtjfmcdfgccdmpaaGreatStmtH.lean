/- The model's valid statements. No condition. -/
import Derived.Test.YtjfmcdfgccdmpaaGreatProg
import Derived.Test.YtjfmcdfgccdmpaaGreatStmtG
import Derived.Test.YtjfmcdfgccdmpaaGreatCX2
namespace Go.Proofs.YtjfmcdfgccdmpaaGreat
open Go Go.RowKit
set_option maxRecDepth 100000 in
set_option maxHeartbeats 1000000 in
theorem spec_ok_back (op d a b c n : Int) (h : plainI op d a b c n ≠ ⟨op, d, a, b, c, n⟩) (w : World) :
    Calls Tryz.prog 43 #[.agg #[.int .i64 op, .int .i64 d, .int .i64 a, .int .i64 b, .int .i64 c, .int .i64 n]] w fun e w' => e = .returned (.bool false) ∧ Below w.heap.size w w' := by
  have c1 := spec_l08Plain op d a b c n
  generalize plainI op d a b c n = z at *
  obtain ⟨o1, d1, a1, b1, c1', n1⟩ := z
  have hq := neq6 (Ne.symm h)
  simp only [St.v] at c1
  clear h
  go_enter Tryz.func43, Tryz.ntmps43
  go_upto_region 1 with (fail)
  have hblk := heap_alloc_new w (.cells #[.int .i64 op, .int .i64 d, .int .i64 a, .int .i64 b, .int .i64 c, .int .i64 n] 49)
  have b0 : Below w.heap.size w (w.alloc (.cells #[.int .i64 op, .int .i64 d, .int .i64 a, .int .i64 b, .int .i64 c, .int .i64 n] 49)) := below_alloc _ _
  generalize w.alloc (.cells #[.int .i64 op, .int .i64 d, .int .i64 a, .int .i64 b, .int .i64 c, .int .i64 n] 49) = w1 at *
  generalize hg : w.heap.size = g at *
  have k0 : w1.cell? ⟨g, 0, none⟩ = some (.int .i64 op) := (blk (i := 0) hblk rfl).1
  have k1 : w1.cell? ⟨g, 1, none⟩ = some (.int .i64 d) := (blk (i := 1) hblk rfl).1
  have k2 : w1.cell? ⟨g, 2, none⟩ = some (.int .i64 a) := (blk (i := 2) hblk rfl).1
  have k3 : w1.cell? ⟨g, 3, none⟩ = some (.int .i64 b) := (blk (i := 3) hblk rfl).1
  have k4 : w1.cell? ⟨g, 4, none⟩ = some (.int .i64 c) := (blk (i := 4) hblk rfl).1
  have k5 : w1.cell? ⟨g, 5, none⟩ = some (.int .i64 n) := (blk (i := 5) hblk rfl).1
  have r0 : Below w1.heap.size w1 w1.drew := (Below.refl _ _).drew
  have b1 := b0.size
  have B0 := Lib.hid b0
  clear hblk b0
  first
    | (go_region_with (first
      | (go_at_call 64; (with_reducible refine (c1 _).mono ?_); rintro e w' ⟨rfl, hb⟩; (have q6 := r0.trans hb); (have q0 := cell_at k0 q6); (have q1 := cell_at k1 q6); (have q2 := cell_at k2 q6); (have q3 := cell_at k3 q6); (have q4 := cell_at k4 q6); (have q5 := cell_at k5 q6))))
    | fail
  all_goals
    go_wp2_with fail
    go_ret
    exact ⟨rfl, by first | exact B0.out.trans (q6.mono (by omega)) | (rw [hg]; exact B0.out.trans (q6.mono (by omega)))⟩
set_option maxRecDepth 100000 in
set_option maxHeartbeats 1000000 in
theorem spec_ok_d (op d a b c n : Int) (h : plainI op d a b c n = ⟨op, d, a, b, c, n⟩)  (hd : ¬ isReg d) (w : World) :
    Calls Tryz.prog 43 #[.agg #[.int .i64 op, .int .i64 d, .int .i64 a, .int .i64 b, .int .i64 c, .int .i64 n]] w fun e w' => e = .returned (.bool false) ∧ Below w.heap.size w w' := by
  have c1 := spec_l08Plain op d a b c n
  rw [h] at c1
  have ed := spec_l08Reg d false (decide_eq_false hd)
  simp only [St.v] at c1
  clear h hd
  go_enter Tryz.func43, Tryz.ntmps43
  go_upto_region 1 with (fail)
  have hblk := heap_alloc_new w (.cells #[.int .i64 op, .int .i64 d, .int .i64 a, .int .i64 b, .int .i64 c, .int .i64 n] 49)
  have b0 : Below w.heap.size w (w.alloc (.cells #[.int .i64 op, .int .i64 d, .int .i64 a, .int .i64 b, .int .i64 c, .int .i64 n] 49)) := below_alloc _ _
  generalize w.alloc (.cells #[.int .i64 op, .int .i64 d, .int .i64 a, .int .i64 b, .int .i64 c, .int .i64 n] 49) = w1 at *
  generalize hg : w.heap.size = g at *
  have k0 : w1.cell? ⟨g, 0, none⟩ = some (.int .i64 op) := (blk (i := 0) hblk rfl).1
  have k1 : w1.cell? ⟨g, 1, none⟩ = some (.int .i64 d) := (blk (i := 1) hblk rfl).1
  have k2 : w1.cell? ⟨g, 2, none⟩ = some (.int .i64 a) := (blk (i := 2) hblk rfl).1
  have k3 : w1.cell? ⟨g, 3, none⟩ = some (.int .i64 b) := (blk (i := 3) hblk rfl).1
  have k4 : w1.cell? ⟨g, 4, none⟩ = some (.int .i64 c) := (blk (i := 4) hblk rfl).1
  have k5 : w1.cell? ⟨g, 5, none⟩ = some (.int .i64 n) := (blk (i := 5) hblk rfl).1
  have r0 : Below w1.heap.size w1 w1.drew := (Below.refl _ _).drew
  have b1 := b0.size
  have B0 := Lib.hid b0
  clear hblk b0
  first
    | (go_region_with (first
      | (go_at_call 64; (with_reducible refine (c1 _).mono ?_); rintro e w' ⟨rfl, hb⟩; (have q6 := r0.trans hb); (have q0 := cell_at k0 q6); (have q1 := cell_at k1 q6); (have q2 := cell_at k2 q6); (have q3 := cell_at k3 q6); (have q4 := cell_at k4 q6); (have q5 := cell_at k5 q6))
      | (go_at_call 65; (with_reducible refine (ed _).mono ?_); rintro e w' ⟨rfl, rfl⟩)))
    | fail
  all_goals
    go_wp2_with fail
    go_ret
    exact ⟨rfl, by first | exact B0.out.trans (q6.mono (by omega)) | (rw [hg]; exact B0.out.trans (q6.mono (by omega)))⟩
end Go.Proofs.YtjfmcdfgccdmpaaGreat

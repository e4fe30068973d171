/- The model's valid statements. No condition. -/
import Derived.Test.YtklmhkckhdmelaaProg
import Derived.Test.YtklmhkckhdmelaaStmtG
import Derived.Test.YtklmhkckhdmelaaStmtF
namespace Go.Proofs.Ytklmhkckhdmelaa
open Go Go.RowKit
set_option maxRecDepth 100000 in
set_option maxHeartbeats 1000000 in
theorem spec_ok_back (op d a b c n : Int) (h : plainI op d a b c n ≠ ⟨op, d, a, b, c, n⟩) (w : World) :
    Calls Try.prog 41 #[.agg #[.int .i64 op, .int .i64 d, .int .i64 a, .int .i64 b, .int .i64 c, .int .i64 n]] w fun e w' => e = .returned (.bool false) ∧ Below w.heap.size w w' := by
  have c1 := spec_l08Plain op d a b c n
  generalize plainI op d a b c n = z at *
  obtain ⟨o1, d1, a1, b1, c1', n1⟩ := z
  have hq := neq6 (Ne.symm h)
  simp only [St.v] at c1
  clear h
  go_enter Try.func41, Try.ntmps41
  go_upto_region 1 with (fail)
  have hblk := heap_alloc_new w (.cells #[.int .i64 op, .int .i64 d, .int .i64 a, .int .i64 b, .int .i64 c, .int .i64 n] 43)
  have b0 : Below w.heap.size w (w.alloc (.cells #[.int .i64 op, .int .i64 d, .int .i64 a, .int .i64 b, .int .i64 c, .int .i64 n] 43)) := below_alloc _ _
  have k0 := (blk (i := 0) hblk rfl).1
  have k1 := (blk (i := 1) hblk rfl).1
  have k2 := (blk (i := 2) hblk rfl).1
  have k3 := (blk (i := 3) hblk rfl).1
  have k4 := (blk (i := 4) hblk rfl).1
  have k5 := (blk (i := 5) hblk rfl).1
  clear hblk
  generalize w.alloc (.cells #[.int .i64 op, .int .i64 d, .int .i64 a, .int .i64 b, .int .i64 c, .int .i64 n] 43) = w1 at *
  generalize hg : w.heap.size = g at *
  have b1 := b0.drew
  first
    | (go_region_with (first
      | (go_at_call 53; (with_reducible refine (keep_six c1 (g := g) (op := op) (d := d) (a := a) (b := b) (c := c) (n := n) (w := w) ?_ ?_ ?_ ?_ ?_ ?_ ?_).mono ?_); assumption; assumption; assumption; assumption; assumption; assumption; assumption; rintro e w' ⟨rfl, q0, q1, q2, q3, q4, q5, q6⟩)))
    | fail
  all_goals
    go_wp2_with (fail)
    go_ret
    exact ⟨rfl, by first | assumption | (rw [hg]; assumption)⟩
set_option maxRecDepth 100000 in
set_option maxHeartbeats 1000000 in
theorem spec_ok_d (op d a b c n : Int) (h : plainI op d a b c n = ⟨op, d, a, b, c, n⟩)  (hd : ¬ isReg d) (w : World) :
    Calls Try.prog 41 #[.agg #[.int .i64 op, .int .i64 d, .int .i64 a, .int .i64 b, .int .i64 c, .int .i64 n]] w fun e w' => e = .returned (.bool false) ∧ Below w.heap.size w w' := by
  have c1 := spec_l08Plain op d a b c n
  rw [h] at c1
  have fd : decide (isReg d) = false := decide_eq_false hd
  simp only [St.v] at c1
  clear h hd
  go_enter Try.func41, Try.ntmps41
  go_upto_region 1 with (fail)
  have hblk := heap_alloc_new w (.cells #[.int .i64 op, .int .i64 d, .int .i64 a, .int .i64 b, .int .i64 c, .int .i64 n] 43)
  have b0 : Below w.heap.size w (w.alloc (.cells #[.int .i64 op, .int .i64 d, .int .i64 a, .int .i64 b, .int .i64 c, .int .i64 n] 43)) := below_alloc _ _
  have k0 := (blk (i := 0) hblk rfl).1
  have k1 := (blk (i := 1) hblk rfl).1
  have k2 := (blk (i := 2) hblk rfl).1
  have k3 := (blk (i := 3) hblk rfl).1
  have k4 := (blk (i := 4) hblk rfl).1
  have k5 := (blk (i := 5) hblk rfl).1
  clear hblk
  generalize w.alloc (.cells #[.int .i64 op, .int .i64 d, .int .i64 a, .int .i64 b, .int .i64 c, .int .i64 n] 43) = w1 at *
  generalize hg : w.heap.size = g at *
  have b1 := b0.drew
  first
    | (go_region_with (first
      | (go_at_call 53; (with_reducible refine (keep_six c1 (g := g) (op := op) (d := d) (a := a) (b := b) (c := c) (n := n) (w := w) ?_ ?_ ?_ ?_ ?_ ?_ ?_).mono ?_); assumption; assumption; assumption; assumption; assumption; assumption; assumption; rintro e w' ⟨rfl, q0, q1, q2, q3, q4, q5, q6⟩)
      | (go_at_call 54; refine (spec_l08Reg _ _ (by assumption) _).mono ?_; rintro e w' ⟨rfl, rfl⟩)))
    | fail
  all_goals
    go_wp2_with (fail)
    go_ret
    exact ⟨rfl, by first | assumption | (rw [hg]; assumption)⟩
set_option maxRecDepth 100000 in
set_option maxHeartbeats 1000000 in
theorem spec_ok_a (op d a b c n : Int) (h : plainI op d a b c n = ⟨op, d, a, b, c, n⟩) (hd : isReg d) (ha : ¬ isReg a) (w : World) :
    Calls Try.prog 41 #[.agg #[.int .i64 op, .int .i64 d, .int .i64 a, .int .i64 b, .int .i64 c, .int .i64 n]] w fun e w' => e = .returned (.bool false) ∧ Below w.heap.size w w' := by
  have c1 := spec_l08Plain op d a b c n
  rw [h] at c1
  have fd : decide (isReg d) = true := decide_eq_true hd
  have fa : decide (isReg a) = false := decide_eq_false ha
  simp only [St.v] at c1
  clear h hd ha
  go_enter Try.func41, Try.ntmps41
  go_upto_region 1 with (fail)
  have hblk := heap_alloc_new w (.cells #[.int .i64 op, .int .i64 d, .int .i64 a, .int .i64 b, .int .i64 c, .int .i64 n] 43)
  have b0 : Below w.heap.size w (w.alloc (.cells #[.int .i64 op, .int .i64 d, .int .i64 a, .int .i64 b, .int .i64 c, .int .i64 n] 43)) := below_alloc _ _
  have k0 := (blk (i := 0) hblk rfl).1
  have k1 := (blk (i := 1) hblk rfl).1
  have k2 := (blk (i := 2) hblk rfl).1
  have k3 := (blk (i := 3) hblk rfl).1
  have k4 := (blk (i := 4) hblk rfl).1
  have k5 := (blk (i := 5) hblk rfl).1
  clear hblk
  generalize w.alloc (.cells #[.int .i64 op, .int .i64 d, .int .i64 a, .int .i64 b, .int .i64 c, .int .i64 n] 43) = w1 at *
  generalize hg : w.heap.size = g at *
  have b1 := b0.drew
  first
    | (go_region_with (first
      | (go_at_call 53; (with_reducible refine (keep_six c1 (g := g) (op := op) (d := d) (a := a) (b := b) (c := c) (n := n) (w := w) ?_ ?_ ?_ ?_ ?_ ?_ ?_).mono ?_); assumption; assumption; assumption; assumption; assumption; assumption; assumption; rintro e w' ⟨rfl, q0, q1, q2, q3, q4, q5, q6⟩)
      | (go_at_call 54; refine (spec_l08Reg _ _ (by assumption) _).mono ?_; rintro e w' ⟨rfl, rfl⟩)))
    | fail
  all_goals
    go_wp2_with (fail)
    go_ret
    exact ⟨rfl, by first | assumption | (rw [hg]; assumption)⟩
set_option maxRecDepth 100000 in
set_option maxHeartbeats 1000000 in
theorem spec_ok_b (op d a b c n : Int) (h : plainI op d a b c n = ⟨op, d, a, b, c, n⟩) (hd : isReg d) (ha : isReg a) (hb : ¬ isReg b) (w : World) :
    Calls Try.prog 41 #[.agg #[.int .i64 op, .int .i64 d, .int .i64 a, .int .i64 b, .int .i64 c, .int .i64 n]] w fun e w' => e = .returned (.bool false) ∧ Below w.heap.size w w' := by
  have c1 := spec_l08Plain op d a b c n
  rw [h] at c1
  have fd : decide (isReg d) = true := decide_eq_true hd
  have fa : decide (isReg a) = true := decide_eq_true ha
  have fb : decide (isReg b) = false := decide_eq_false hb
  simp only [St.v] at c1
  clear h hd ha hb
  go_enter Try.func41, Try.ntmps41
  go_upto_region 1 with (fail)
  have hblk := heap_alloc_new w (.cells #[.int .i64 op, .int .i64 d, .int .i64 a, .int .i64 b, .int .i64 c, .int .i64 n] 43)
  have b0 : Below w.heap.size w (w.alloc (.cells #[.int .i64 op, .int .i64 d, .int .i64 a, .int .i64 b, .int .i64 c, .int .i64 n] 43)) := below_alloc _ _
  have k0 := (blk (i := 0) hblk rfl).1
  have k1 := (blk (i := 1) hblk rfl).1
  have k2 := (blk (i := 2) hblk rfl).1
  have k3 := (blk (i := 3) hblk rfl).1
  have k4 := (blk (i := 4) hblk rfl).1
  have k5 := (blk (i := 5) hblk rfl).1
  clear hblk
  generalize w.alloc (.cells #[.int .i64 op, .int .i64 d, .int .i64 a, .int .i64 b, .int .i64 c, .int .i64 n] 43) = w1 at *
  generalize hg : w.heap.size = g at *
  have b1 := b0.drew
  first
    | (go_region_with (first
      | (go_at_call 53; (with_reducible refine (keep_six c1 (g := g) (op := op) (d := d) (a := a) (b := b) (c := c) (n := n) (w := w) ?_ ?_ ?_ ?_ ?_ ?_ ?_).mono ?_); assumption; assumption; assumption; assumption; assumption; assumption; assumption; rintro e w' ⟨rfl, q0, q1, q2, q3, q4, q5, q6⟩)
      | (go_at_call 54; refine (spec_l08Reg _ _ (by assumption) _).mono ?_; rintro e w' ⟨rfl, rfl⟩)))
    | fail
  all_goals
    go_wp2_with (fail)
    go_ret
    exact ⟨rfl, by first | assumption | (rw [hg]; assumption)⟩
set_option maxRecDepth 100000 in
set_option maxHeartbeats 1000000 in
theorem spec_ok_c (op d a b c n : Int) (h : plainI op d a b c n = ⟨op, d, a, b, c, n⟩) (hd : isReg d) (ha : isReg a) (hb : isReg b) (hc : ¬ isReg c) (w : World) :
    Calls Try.prog 41 #[.agg #[.int .i64 op, .int .i64 d, .int .i64 a, .int .i64 b, .int .i64 c, .int .i64 n]] w fun e w' => e = .returned (.bool false) ∧ Below w.heap.size w w' := by
  have c1 := spec_l08Plain op d a b c n
  rw [h] at c1
  have fd : decide (isReg d) = true := decide_eq_true hd
  have fa : decide (isReg a) = true := decide_eq_true ha
  have fb : decide (isReg b) = true := decide_eq_true hb
  have fc : decide (isReg c) = false := decide_eq_false hc
  simp only [St.v] at c1
  clear h hd ha hb hc
  go_enter Try.func41, Try.ntmps41
  go_upto_region 1 with (fail)
  have hblk := heap_alloc_new w (.cells #[.int .i64 op, .int .i64 d, .int .i64 a, .int .i64 b, .int .i64 c, .int .i64 n] 43)
  have b0 : Below w.heap.size w (w.alloc (.cells #[.int .i64 op, .int .i64 d, .int .i64 a, .int .i64 b, .int .i64 c, .int .i64 n] 43)) := below_alloc _ _
  have k0 := (blk (i := 0) hblk rfl).1
  have k1 := (blk (i := 1) hblk rfl).1
  have k2 := (blk (i := 2) hblk rfl).1
  have k3 := (blk (i := 3) hblk rfl).1
  have k4 := (blk (i := 4) hblk rfl).1
  have k5 := (blk (i := 5) hblk rfl).1
  clear hblk
  generalize w.alloc (.cells #[.int .i64 op, .int .i64 d, .int .i64 a, .int .i64 b, .int .i64 c, .int .i64 n] 43) = w1 at *
  generalize hg : w.heap.size = g at *
  have b1 := b0.drew
  first
    | (go_region_with (first
      | (go_at_call 53; (with_reducible refine (keep_six c1 (g := g) (op := op) (d := d) (a := a) (b := b) (c := c) (n := n) (w := w) ?_ ?_ ?_ ?_ ?_ ?_ ?_).mono ?_); assumption; assumption; assumption; assumption; assumption; assumption; assumption; rintro e w' ⟨rfl, q0, q1, q2, q3, q4, q5, q6⟩)
      | (go_at_call 54; refine (spec_l08Reg _ _ (by assumption) _).mono ?_; rintro e w' ⟨rfl, rfl⟩)))
    | fail
  all_goals
    go_wp2_with (fail)
    go_ret
    exact ⟨rfl, by first | assumption | (rw [hg]; assumption)⟩
end Go.Proofs.Ytklmhkckhdmelaa

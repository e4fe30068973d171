/- The model's valid statements: where all registers are. No condition. -/
import Derived.Test.YtjfmcdfgccdmpaaGreatProg
import Derived.Test.YtjfmcdfgccdmpaaGreatStmtG
import Derived.Test.YtjfmcdfgccdmpaaGreatCX2
namespace Go.Proofs.YtjfmcdfgccdmpaaGreat
open Go Go.RowKit
set_option maxRecDepth 100000 in
set_option maxHeartbeats 1000000 in
theorem spec_ok_a (op d a b c n : Int) (h : plainI op d a b c n = ⟨op, d, a, b, c, n⟩) (hd : isReg d) (ha : ¬ isReg a) (w : World) :
    Calls Tryz.prog 43 #[.agg #[.int .i64 op, .int .i64 d, .int .i64 a, .int .i64 b, .int .i64 c, .int .i64 n]] w fun e w' => e = .returned (.bool false) ∧ Below w.heap.size w w' := by
  have c1 := spec_l08Plain op d a b c n
  rw [h] at c1
  have ed := spec_l08Reg d true (decide_eq_true hd)
  have ea := spec_l08Reg a false (decide_eq_false ha)
  simp only [St.v] at c1
  clear h hd ha
  go_enter Tryz.func43, Tryz.ntmps43
  go_upto_region 1 with (fail)
  have hblk := heap_alloc_new w (.cells #[.int .i64 op, .int .i64 d, .int .i64 a, .int .i64 b, .int .i64 c, .int .i64 n] 49)
  have b0 : Below w.heap.size w (w.alloc (.cells #[.int .i64 op, .int .i64 d, .int .i64 a, .int .i64 b, .int .i64 c, .int .i64 n] 49)) := below_alloc _ _
  generalize w.alloc (.cells #[.int .i64 op, .int .i64 d, .int .i64 a, .int .i64 b, .int .i64 c, .int .i64 n] 49) = w1 at *
  generalize hg : w.heap.size = g at *
  have k0 : w1.cell? ⟨g, 0, none⟩ = some (.int .i64 op) := (blk (i := 0) hblk rfl).1
  have k1 : w1.cell? ⟨g, 1, none⟩ = some (.int .i64 d) := (blk (i := 1) hblk rfl).1
  have k2 : w1.cell? ⟨g, 2, none⟩ = some (.int .i64 a) := (blk (i := 2) hblk rfl).1
  have k3 : w1.cell? ⟨g, 3, none⟩ = some (.int .i64 b) := (blk (i := 3) hblk rfl).1
  have k4 : w1.cell? ⟨g, 4, none⟩ = some (.int .i64 c) := (blk (i := 4) hblk rfl).1
  have k5 : w1.cell? ⟨g, 5, none⟩ = some (.int .i64 n) := (blk (i := 5) hblk rfl).1
  have r0 : Below w1.heap.size w1 w1.drew := (Below.refl _ _).drew
  have b1 := b0.size
  have B0 := Lib.hid b0
  clear hblk b0
  first
    | (go_region_with (first
      | (go_at_call 64; (with_reducible refine (c1 _).mono ?_); rintro e w' ⟨rfl, hb⟩; (have q6 := r0.trans hb); (have q0 := cell_at k0 q6); (have q1 := cell_at k1 q6); (have q2 := cell_at k2 q6); (have q3 := cell_at k3 q6); (have q4 := cell_at k4 q6); (have q5 := cell_at k5 q6))
      | (go_at_call 65; (with_reducible refine (ed _).mono ?_); rintro e w' ⟨rfl, rfl⟩)
      | (go_at_call 65; (with_reducible refine (ea _).mono ?_); rintro e w' ⟨rfl, rfl⟩)))
    | fail
  all_goals
    go_wp2_with fail
    go_ret
    exact ⟨rfl, by first | exact B0.out.trans (q6.mono (by omega)) | (rw [hg]; exact B0.out.trans (q6.mono (by omega)))⟩
set_option maxRecDepth 100000 in
set_option maxHeartbeats 1000000 in
theorem spec_ok_b (op d a b c n : Int) (h : plainI op d a b c n = ⟨op, d, a, b, c, n⟩) (hd : isReg d) (ha : isReg a) (hb : ¬ isReg b) (w : World) :
    Calls Tryz.prog 43 #[.agg #[.int .i64 op, .int .i64 d, .int .i64 a, .int .i64 b, .int .i64 c, .int .i64 n]] w fun e w' => e = .returned (.bool false) ∧ Below w.heap.size w w' := by
  have c1 := spec_l08Plain op d a b c n
  rw [h] at c1
  have ed := spec_l08Reg d true (decide_eq_true hd)
  have ea := spec_l08Reg a true (decide_eq_true ha)
  have eb := spec_l08Reg b false (decide_eq_false hb)
  simp only [St.v] at c1
  clear h hd ha hb
  go_enter Tryz.func43, Tryz.ntmps43
  go_upto_region 1 with (fail)
  have hblk := heap_alloc_new w (.cells #[.int .i64 op, .int .i64 d, .int .i64 a, .int .i64 b, .int .i64 c, .int .i64 n] 49)
  have b0 : Below w.heap.size w (w.alloc (.cells #[.int .i64 op, .int .i64 d, .int .i64 a, .int .i64 b, .int .i64 c, .int .i64 n] 49)) := below_alloc _ _
  generalize w.alloc (.cells #[.int .i64 op, .int .i64 d, .int .i64 a, .int .i64 b, .int .i64 c, .int .i64 n] 49) = w1 at *
  generalize hg : w.heap.size = g at *
  have k0 : w1.cell? ⟨g, 0, none⟩ = some (.int .i64 op) := (blk (i := 0) hblk rfl).1
  have k1 : w1.cell? ⟨g, 1, none⟩ = some (.int .i64 d) := (blk (i := 1) hblk rfl).1
  have k2 : w1.cell? ⟨g, 2, none⟩ = some (.int .i64 a) := (blk (i := 2) hblk rfl).1
  have k3 : w1.cell? ⟨g, 3, none⟩ = some (.int .i64 b) := (blk (i := 3) hblk rfl).1
  have k4 : w1.cell? ⟨g, 4, none⟩ = some (.int .i64 c) := (blk (i := 4) hblk rfl).1
  have k5 : w1.cell? ⟨g, 5, none⟩ = some (.int .i64 n) := (blk (i := 5) hblk rfl).1
  have r0 : Below w1.heap.size w1 w1.drew := (Below.refl _ _).drew
  have b1 := b0.size
  have B0 := Lib.hid b0
  clear hblk b0
  first
    | (go_region_with (first
      | (go_at_call 64; (with_reducible refine (c1 _).mono ?_); rintro e w' ⟨rfl, hb⟩; (have q6 := r0.trans hb); (have q0 := cell_at k0 q6); (have q1 := cell_at k1 q6); (have q2 := cell_at k2 q6); (have q3 := cell_at k3 q6); (have q4 := cell_at k4 q6); (have q5 := cell_at k5 q6))
      | (go_at_call 65; (with_reducible refine (ed _).mono ?_); rintro e w' ⟨rfl, rfl⟩)
      | (go_at_call 65; (with_reducible refine (ea _).mono ?_); rintro e w' ⟨rfl, rfl⟩)
      | (go_at_call 65; (with_reducible refine (eb _).mono ?_); rintro e w' ⟨rfl, rfl⟩)))
    | fail
  all_goals
    go_wp2_with fail
    go_ret
    exact ⟨rfl, by first | exact B0.out.trans (q6.mono (by omega)) | (rw [hg]; exact B0.out.trans (q6.mono (by omega)))⟩
set_option maxRecDepth 100000 in
set_option maxHeartbeats 1000000 in
theorem spec_ok_c (op d a b c n : Int) (h : plainI op d a b c n = ⟨op, d, a, b, c, n⟩) (hd : isReg d) (ha : isReg a) (hb : isReg b) (hc : ¬ isReg c) (w : World) :
    Calls Tryz.prog 43 #[.agg #[.int .i64 op, .int .i64 d, .int .i64 a, .int .i64 b, .int .i64 c, .int .i64 n]] w fun e w' => e = .returned (.bool false) ∧ Below w.heap.size w w' := by
  have c1 := spec_l08Plain op d a b c n
  rw [h] at c1
  have ed := spec_l08Reg d true (decide_eq_true hd)
  have ea := spec_l08Reg a true (decide_eq_true ha)
  have eb := spec_l08Reg b true (decide_eq_true hb)
  have ec := spec_l08Reg c false (decide_eq_false hc)
  simp only [St.v] at c1
  clear h hd ha hb hc
  go_enter Tryz.func43, Tryz.ntmps43
  go_upto_region 1 with (fail)
  have hblk := heap_alloc_new w (.cells #[.int .i64 op, .int .i64 d, .int .i64 a, .int .i64 b, .int .i64 c, .int .i64 n] 49)
  have b0 : Below w.heap.size w (w.alloc (.cells #[.int .i64 op, .int .i64 d, .int .i64 a, .int .i64 b, .int .i64 c, .int .i64 n] 49)) := below_alloc _ _
  generalize w.alloc (.cells #[.int .i64 op, .int .i64 d, .int .i64 a, .int .i64 b, .int .i64 c, .int .i64 n] 49) = w1 at *
  generalize hg : w.heap.size = g at *
  have k0 : w1.cell? ⟨g, 0, none⟩ = some (.int .i64 op) := (blk (i := 0) hblk rfl).1
  have k1 : w1.cell? ⟨g, 1, none⟩ = some (.int .i64 d) := (blk (i := 1) hblk rfl).1
  have k2 : w1.cell? ⟨g, 2, none⟩ = some (.int .i64 a) := (blk (i := 2) hblk rfl).1
  have k3 : w1.cell? ⟨g, 3, none⟩ = some (.int .i64 b) := (blk (i := 3) hblk rfl).1
  have k4 : w1.cell? ⟨g, 4, none⟩ = some (.int .i64 c) := (blk (i := 4) hblk rfl).1
  have k5 : w1.cell? ⟨g, 5, none⟩ = some (.int .i64 n) := (blk (i := 5) hblk rfl).1
  have r0 : Below w1.heap.size w1 w1.drew := (Below.refl _ _).drew
  have b1 := b0.size
  have B0 := Lib.hid b0
  clear hblk b0
  first
    | (go_region_held3 (fun w' => w'.cell? ⟨g, 0, none⟩ = some (.int .i64 op) ∧ w'.cell? ⟨g, 1, none⟩ = some (.int .i64 d) ∧ w'.cell? ⟨g, 2, none⟩ = some (.int .i64 a) ∧ w'.cell? ⟨g, 3, none⟩ = some (.int .i64 b) ∧ w'.cell? ⟨g, 4, none⟩ = some (.int .i64 c) ∧ w'.cell? ⟨g, 5, none⟩ = some (.int .i64 n) ∧ Below w1.heap.size w1 w') (first | with_reducible exact ⟨k0, k1, k2, k3, k4, k5, r0⟩ | with_reducible exact ⟨q0, q1, q2, q3, q4, q5, q6⟩ | exact ⟨k0, k1, k2, k3, k4, k5, r0⟩) (first
      | (go_at_call 64; (with_reducible refine (c1 _).mono ?_); rintro e w' ⟨rfl, hb⟩; (have q6 := r0.trans hb); (have q0 := cell_at k0 q6); (have q1 := cell_at k1 q6); (have q2 := cell_at k2 q6); (have q3 := cell_at k3 q6); (have q4 := cell_at k4 q6); (have q5 := cell_at k5 q6))
      | (go_at_call 65; (with_reducible refine (ed _).mono ?_); rintro e w' ⟨rfl, rfl⟩)
      | (go_at_call 65; (with_reducible refine (ea _).mono ?_); rintro e w' ⟨rfl, rfl⟩)
      | (go_at_call 65; (with_reducible refine (eb _).mono ?_); rintro e w' ⟨rfl, rfl⟩)
      | (go_at_call 65; (with_reducible refine (ec _).mono ?_); rintro e w' ⟨rfl, rfl⟩)))
    | fail
  all_goals
    go_wp2_with fail
    go_ret
    exact ⟨rfl, by first | exact B0.out.trans (q6.mono (by omega)) | (rw [hg]; exact B0.out.trans (q6.mono (by omega)))⟩
set_option maxRecDepth 100000 in
set_option maxHeartbeats 1000000 in
theorem spec_ok_all (op d a b c n : Int) (h : plainI op d a b c n = ⟨op, d, a, b, c, n⟩) (hd : isReg d) (ha : isReg a) (hb : isReg b) (hc : isReg c) (r : Bool) (hr : decide ((op = 1 ∧ 0 ≤ n ∧ n ≤ 15) ∨ (op = 2 ∧ a < 5 ∧ 0 ≤ n ∧ n ≤ 3) ∨ (op = 12 ∧ 1 ≤ n ∧ n ≤ 8) ∨ (op ≠ 1 ∧ op ≠ 2 ∧ op ≠ 12 ∧ 3 ≤ op ∧ op ≤ 13)) = r) (w : World) :
    Calls Tryz.prog 43 #[.agg #[.int .i64 op, .int .i64 d, .int .i64 a, .int .i64 b, .int .i64 c, .int .i64 n]] w fun e w' => e = .returned (.bool r) ∧ Below w.heap.size w w' := by
  have c1 := spec_l08Plain op d a b c n
  rw [h] at c1
  have ed := spec_l08Reg d true (decide_eq_true hd)
  have ea := spec_l08Reg a true (decide_eq_true ha)
  have eb := spec_l08Reg b true (decide_eq_true hb)
  have ec := spec_l08Reg c true (decide_eq_true hc)
  simp only [St.v] at c1
  have HR := Lib.hid hr
  clear h hr hd ha hb hc
  go_enter Tryz.func43, Tryz.ntmps43
  go_upto_region 1 with (fail)
  have hblk := heap_alloc_new w (.cells #[.int .i64 op, .int .i64 d, .int .i64 a, .int .i64 b, .int .i64 c, .int .i64 n] 49)
  have b0 : Below w.heap.size w (w.alloc (.cells #[.int .i64 op, .int .i64 d, .int .i64 a, .int .i64 b, .int .i64 c, .int .i64 n] 49)) := below_alloc _ _
  generalize w.alloc (.cells #[.int .i64 op, .int .i64 d, .int .i64 a, .int .i64 b, .int .i64 c, .int .i64 n] 49) = w1 at *
  generalize hg : w.heap.size = g at *
  have k0 : w1.cell? ⟨g, 0, none⟩ = some (.int .i64 op) := (blk (i := 0) hblk rfl).1
  have k1 : w1.cell? ⟨g, 1, none⟩ = some (.int .i64 d) := (blk (i := 1) hblk rfl).1
  have k2 : w1.cell? ⟨g, 2, none⟩ = some (.int .i64 a) := (blk (i := 2) hblk rfl).1
  have k3 : w1.cell? ⟨g, 3, none⟩ = some (.int .i64 b) := (blk (i := 3) hblk rfl).1
  have k4 : w1.cell? ⟨g, 4, none⟩ = some (.int .i64 c) := (blk (i := 4) hblk rfl).1
  have k5 : w1.cell? ⟨g, 5, none⟩ = some (.int .i64 n) := (blk (i := 5) hblk rfl).1
  have r0 : Below w1.heap.size w1 w1.drew := (Below.refl _ _).drew
  have b1 := b0.size
  have B0 := Lib.hid b0
  clear hblk b0
  first
    | (go_region_held3 (fun w' => w'.cell? ⟨g, 0, none⟩ = some (.int .i64 op) ∧ w'.cell? ⟨g, 1, none⟩ = some (.int .i64 d) ∧ w'.cell? ⟨g, 2, none⟩ = some (.int .i64 a) ∧ w'.cell? ⟨g, 3, none⟩ = some (.int .i64 b) ∧ w'.cell? ⟨g, 4, none⟩ = some (.int .i64 c) ∧ w'.cell? ⟨g, 5, none⟩ = some (.int .i64 n) ∧ Below w1.heap.size w1 w') (first | with_reducible exact ⟨k0, k1, k2, k3, k4, k5, r0⟩ | with_reducible exact ⟨q0, q1, q2, q3, q4, q5, q6⟩ | exact ⟨k0, k1, k2, k3, k4, k5, r0⟩) (first
      | (go_at_call 64; (with_reducible refine (c1 _).mono ?_); rintro e w' ⟨rfl, hb⟩; (have q6 := r0.trans hb); (have q0 := cell_at k0 q6); (have q1 := cell_at k1 q6); (have q2 := cell_at k2 q6); (have q3 := cell_at k3 q6); (have q4 := cell_at k4 q6); (have q5 := cell_at k5 q6))
      | (go_at_call 65; (with_reducible refine (ed _).mono ?_); rintro e w' ⟨rfl, rfl⟩)
      | (go_at_call 65; (with_reducible refine (ea _).mono ?_); rintro e w' ⟨rfl, rfl⟩)
      | (go_at_call 65; (with_reducible refine (eb _).mono ?_); rintro e w' ⟨rfl, rfl⟩)
      | (go_at_call 65; (with_reducible refine (ec _).mono ?_); rintro e w' ⟨rfl, rfl⟩)))
    | fail
  all_goals
    rcases (show op = 1 ∨ (op = 2 ∧ a < 5) ∨ (op = 2 ∧ ¬ a < 5) ∨ op = 12 ∨ (op ≠ 1 ∧ op ≠ 2 ∧ op ≠ 12) by omega) with o1 | ⟨o2, o5⟩ | ⟨o2, o5⟩ | o12 | ⟨o1, o2, o12⟩
    · subst o1
      have c2 := l01In_is n 0 15 r (by rw [← HR.out]; exact decide_eq_decide.2 (by omega))
      go_wp2_with fail
      refine (c2 _).mono ?_
      rintro e w2 ⟨rfl, rfl⟩
      go_wp2_with fail
      go_ret
      exact ⟨rfl, by first | exact B0.out.trans (q6.mono (by omega)) | (rw [hg]; exact B0.out.trans (q6.mono (by omega)))⟩
    · subst o2
      have c2 := l01In_is n 0 3 r (by rw [← HR.out]; exact decide_eq_decide.2 (by omega))
      go_wp2_with fail
      refine (c2 _).mono ?_
      rintro e w2 ⟨rfl, rfl⟩
      go_wp2_with fail
      go_ret
      exact ⟨rfl, by first | exact B0.out.trans (q6.mono (by omega)) | (rw [hg]; exact B0.out.trans (q6.mono (by omega)))⟩
    · subst o2
      obtain rfl : r = false := by rw [← HR.out]; exact decide_eq_false (by omega)
      go_wp2_with fail
      go_ret
      exact ⟨rfl, by first | exact B0.out.trans (q6.mono (by omega)) | (rw [hg]; exact B0.out.trans (q6.mono (by omega)))⟩
    · subst o12
      have c2 := l01In_is n 1 8 r (by rw [← HR.out]; exact decide_eq_decide.2 (by omega))
      go_wp2_with fail
      refine (c2 _).mono ?_
      rintro e w2 ⟨rfl, rfl⟩
      go_wp2_with fail
      go_ret
      exact ⟨rfl, by first | exact B0.out.trans (q6.mono (by omega)) | (rw [hg]; exact B0.out.trans (q6.mono (by omega)))⟩
    · have c2 := l01In_is op 3 13 r (by rw [← HR.out]; exact decide_eq_decide.2 (by omega))
      have t1 : (op == 1) = false := beq_eq_false_iff_ne.2 o1
      have t2 : (op == 2) = false := beq_eq_false_iff_ne.2 o2
      have t3 : (op == 12) = false := beq_eq_false_iff_ne.2 o12
      go_wp2_with fail
      refine (c2 _).mono ?_
      rintro e w2 ⟨rfl, rfl⟩
      go_wp2_with fail
      go_ret
      exact ⟨rfl, by first | exact B0.out.trans (q6.mono (by omega)) | (rw [hg]; exact B0.out.trans (q6.mono (by omega)))⟩
end Go.Proofs.YtjfmcdfgccdmpaaGreat

/- The law FnExactFlowStep: the walk. -/
import Derived.Test.YtklmhkckhdmelaaProg
import Derived.Test.YtklmhkckhdmelaaPostA
import Derived.Test.YtklmhkckhdmelaaRegS
import Derived.Test.YtklmhkckhdmelaaSFlow
import Derived.Test.YtklmhkckhdmelaaFlowE
namespace Go.Proofs.Ytklmhkckhdmelaa
open Go Go.RowKit
set_option maxRecDepth 100000 in
set_option maxHeartbeats 2000000 in
theorem FnExactFlowStep_walk (A0_0 : Option Addr) (n0_0 c0_0 : Nat) (z0_0 : List Int) (A0_1 : Option Addr) (n0_1 c0_1 : Nat) (z0_1 : List Int) (a1_0 : Int) (a1_1 : Int) (a1_2 : Int) (a1_3 : Int) (a1_4 : Int) (a1_5 : Int) (w : World) (h0_0 : Ints w A0_0 z0_0) (l0_0 : z0_0.length = n0_0) (m0_0 : n0_0 ≤ 9223372036854775807) (v0_0 : ∀ z ∈ z0_0, (Lit.int .i64 z).wf = true) (h0_1 : Ints w A0_1 z0_1) (l0_1 : z0_1.length = n0_1) (m0_1 : n0_1 ≤ 9223372036854775807) (v0_1 : ∀ z ∈ z0_1, (Lit.int .i64 z).wf = true) (_h1_0 : (Lit.int .i64 a1_0).wf = true) (_h1_1 : (Lit.int .i64 a1_1).wf = true) (_h1_2 : (Lit.int .i64 a1_2).wf = true) (_h1_3 : (Lit.int .i64 a1_3).wf = true) (_h1_4 : (Lit.int .i64 a1_4).wf = true) (_h1_5 : (Lit.int .i64 a1_5).wf = true) :
    Calls Try.prog 5 #[.agg #[.slice A0_0 n0_0 c0_0, .slice A0_1 n0_1 c0_1], .agg #[.int .i64 a1_0, .int .i64 a1_1, .int .i64 a1_2, .int .i64 a1_3, .int .i64 a1_4, .int .i64 a1_5]] w fun e w' => e = .returned (.bool true) ∧ Below w.heap.size w w' := by
  have low : Below w.heap.size w ((w.alloc (.cells #[.slice A0_0 n0_0 c0_0, .slice A0_1 n0_1 c0_1] 37)).alloc (.cells #[.int .i64 a1_0, .int .i64 a1_1, .int .i64 a1_2, .int .i64 a1_3, .int .i64 a1_4, .int .i64 a1_5] 39)) := (low_alloc ((low_alloc (Below.refl _ _) _)) _)
  have L0_0 := Lib.hid l0_0
  have i0_0 := h0_0.bound.below low
  have V0_0 := Lib.hid v0_0
  have L0_1 := Lib.hid l0_1
  have i0_1 := h0_1.bound.below low
  have V0_1 := Lib.hid v0_1
  clear h0_0 l0_0 v0_0 h0_1 l0_1 v0_1
  have b0 := new_at w (.cells #[.slice A0_0 n0_0 c0_0, .slice A0_1 n0_1 c0_1] 37) (w.heap.size) (by simp)
  replace b0 := heap_alloc b0 (.cells #[.int .i64 a1_0, .int .i64 a1_1, .int .i64 a1_2, .int .i64 a1_3, .int .i64 a1_4, .int .i64 a1_5] 39)
  have b1 := new_at (w.alloc (.cells #[.slice A0_0 n0_0 c0_0, .slice A0_1 n0_1 c0_1] 37)) (.cells #[.int .i64 a1_0, .int .i64 a1_1, .int .i64 a1_2, .int .i64 a1_3, .int .i64 a1_4, .int .i64 a1_5] 39) (w.heap.size + 1) (by simp)
  go_enter Try.func5, Try.ntmps5
  have c1 := (blk (i := 0) b0 rfl).1
  have c2 := (blk (i := 1) b0 rfl).1
  have c3 := (blk (i := 0) b1 rfl).1
  have c4 := (blk (i := 1) b1 rfl).1
  have c5 := (blk (i := 2) b1 rfl).1
  have c6 := (blk (i := 3) b1 rfl).1
  have c7 := (blk (i := 4) b1 rfl).1
  have c8 := (blk (i := 5) b1 rfl).1
  go_wp2_with fail
  generalize hw0 : ((w.alloc (.cells #[.slice A0_0 n0_0 c0_0, .slice A0_1 n0_1 c0_1] 37)).alloc (.cells #[.int .i64 a1_0, .int .i64 a1_1, .int .i64 a1_2, .int .i64 a1_3, .int .i64 a1_4, .int .i64 a1_5] 39)) = v0 at *
  clear hw0
  have q0 := low.size
  have q00 := heap_lt b0
  have q01 := heap_lt b1
  clear c1 c2 c3 c4 c5 c6 c7 c8
  have c12 := (blk (i := 0) b0 rfl).1
  have c13 := (blk (i := 1) b0 rfl).1
  have c14 := (blk (i := 0) b1 rfl).1
  have c15 := (blk (i := 1) b1 rfl).1
  have c16 := (blk (i := 2) b1 rfl).1
  have c17 := (blk (i := 3) b1 rfl).1
  have c18 := (blk (i := 4) b1 rfl).1
  have c19 := (blk (i := 5) b1 rfl).1
  go_wp2_with fail
  have s9 := szFlow_any 1048576 A0_0 A0_1 c0_0 c0_1 n0_0 n0_1 v0 (by omega) m0_0 m0_1
  unfold Sized at s9
  by_cases hn0 : n0_0 + n0_1 ≤ 1048576
  case neg =>
    rw [show szRes 1048576 (n0_0 + n0_1) = -1 by rw [szRes, if_neg hn0]] at s9
    refine s9.mono ?_
    rintro e w11 ⟨rfl, hb⟩
    go_wp2_with fail
    go_ret
    exact ⟨rfl, low.trans (hb.mono low.size)⟩
  rw [show szRes 1048576 (n0_0 + n0_1) = ((1048576 - (n0_0 + n0_1) : Nat) : Int) by rw [szRes, if_pos hn0]] at s9
  have mm0_0 : n0_0 ≤ 1048576 := by omega
  have mm0_1 : n0_1 ≤ 1048576 := by omega
  have zf10 : 1048576 - (n0_0 + n0_1) ≤ 1048576 := by omega
  clear hn0 m0_0 m0_1
  generalize 1048576 - (n0_0 + n0_1) = f10 at *
  refine s9.mono ?_
  rintro e w11 ⟨rfl, hb⟩
  clear s9
  replace b0 := heap_below b0 hb
  replace b1 := heap_below b1 hb
  replace i0_0 := i0_0.below (hb.mono low.size)
  replace i0_1 := i0_1.below (hb.mono low.size)
  replace low := low.trans (hb.mono low.size)
  have q20 := hb.size
  clear hb
  have yf10 : (0 : Int) ≤ f10 := by omega
  obtain ⟨R0, hR0, bR0⟩ : ∃ r : List Int, flowR z0_0 a1_0 a1_1 a1_2 a1_3 a1_4 a1_5 = r ∧ r.length ≤ 1900000 := ⟨_, rfl, by rw [flowR_length, L0_0.out]; omega⟩
  obtain ⟨R1, hR1, bR1⟩ : ∃ r : List Int, flowO z0_0 z0_1 a1_0 a1_1 a1_2 a1_3 a1_4 a1_5 = r ∧ r.length ≤ 1900000 := ⟨_, rfl, by have := flowO_length z0_0 z0_1 a1_0 a1_1 a1_2 a1_3 a1_4 a1_5; have := L0_1.out; omega⟩
  have E := Lib.hid (show ∀ w e w', Post_Flow (flowR z0_0 a1_0 a1_1 a1_2 a1_3 a1_4 a1_5) (flowO z0_0 z0_1 a1_0 a1_1 a1_2 a1_3 a1_4 a1_5) w e w' → Post_Flow R0 R1 w e w' from by subst hR0 hR1; intro _ _ _ h; exact h)
  clear hR0 hR1
  clear c12 c13 c14 c15 c16 c17 c18 c19
  have c21 : w11.cell? ⟨w.heap.size, 0, none⟩ = some (.slice A0_0 n0_0 c0_0) := (blk (i := 0) b0 rfl).1
  have c22 : w11.cell? ⟨w.heap.size, 1, none⟩ = some (.slice A0_1 n0_1 c0_1) := (blk (i := 1) b0 rfl).1
  have c23 : w11.cell? ⟨w.heap.size + 1, 0, none⟩ = some (.int .i64 a1_0) := (blk (i := 0) b1 rfl).1
  have c24 : w11.cell? ⟨w.heap.size + 1, 1, none⟩ = some (.int .i64 a1_1) := (blk (i := 1) b1 rfl).1
  have c25 : w11.cell? ⟨w.heap.size + 1, 2, none⟩ = some (.int .i64 a1_2) := (blk (i := 2) b1 rfl).1
  have c26 : w11.cell? ⟨w.heap.size + 1, 3, none⟩ = some (.int .i64 a1_3) := (blk (i := 3) b1 rfl).1
  have c27 : w11.cell? ⟨w.heap.size + 1, 4, none⟩ = some (.int .i64 a1_4) := (blk (i := 4) b1 rfl).1
  have c28 : w11.cell? ⟨w.heap.size + 1, 5, none⟩ = some (.int .i64 a1_5) := (blk (i := 5) b1 rfl).1
  have y29 := heap_lt b0
  have y30 := heap_lt b1
  have hp0 : (w11.alloc (.cells #[.slice none 0 0, .slice none 0 0] 32)).drew.heap[w11.heap.size]? = some (.cells #[.slice none 0 0, .slice none 0 0] 32 (0, 0)) := heap_alloc_new w11 _
  have r0 : Below w11.heap.size w11 w11.drew := (Below.refl _ _).drew
  have r1 : Below w11.heap.size w11 (w11.alloc (.cells #[.slice none 0 0, .slice none 0 0] 32)).drew := (below_alloc _ _).drew
  have r2 := r1.size
  have r31 := cell_on c21 r1
  have r32 := cell_on c22 r1
  have r33 := cell_on c23 r1
  have r34 := cell_on c24 r1
  have r35 := cell_on c25 r1
  have r36 := cell_on c26 r1
  have r37 := cell_on c27 r1
  have r38 := cell_on c28 r1
  go_upto_region 5 with (fail)
  go_cut [6] (fun s wx => ∃ (p46 lo47 hi48 : Nat) (G39 G42 : Option Addr) (n40 n43 d41 d44 : Nat), s = .pointer (some ⟨p46, 0, none⟩) ∧ BxdFlow w11 wx p46 lo47 hi48 G39 G42 n40 n43 d41 d44 R0 R1)
  case first =>
    go_wp2_with fail
    go_region_held3 (fun w' => w'.cell? ⟨w.heap.size, 0, none⟩ = some (.slice A0_0 n0_0 c0_0) ∧ w'.cell? ⟨w.heap.size, 1, none⟩ = some (.slice A0_1 n0_1 c0_1) ∧ w'.cell? ⟨w.heap.size + 1, 0, none⟩ = some (.int .i64 a1_0) ∧ w'.cell? ⟨w.heap.size + 1, 1, none⟩ = some (.int .i64 a1_1) ∧ w'.cell? ⟨w.heap.size + 1, 2, none⟩ = some (.int .i64 a1_2) ∧ w'.cell? ⟨w.heap.size + 1, 3, none⟩ = some (.int .i64 a1_3) ∧ w'.cell? ⟨w.heap.size + 1, 4, none⟩ = some (.int .i64 a1_4) ∧ w'.cell? ⟨w.heap.size + 1, 5, none⟩ = some (.int .i64 a1_5) ∧ Below w11.heap.size w11 w' ∧ w11.heap.size ≤ w'.heap.size) (first | with_reducible exact ⟨c21, c22, c23, c24, c25, c26, c27, c28, r0, r0.size⟩ | with_reducible exact ⟨r31, r32, r33, r34, r35, r36, r37, r38, r1, r2⟩ | with_reducible exact ⟨c21w53, c22w53, c23w53, c24w53, c25w53, c26w53, c27w53, c28w53, hl55, zhl55⟩ | with_reducible exact ⟨cell_on c21w53 (below_alloc _ _), cell_on c22w53 (below_alloc _ _), cell_on c23w53 (below_alloc _ _), cell_on c24w53 (below_alloc _ _), cell_on c25w53 (below_alloc _ _), cell_on c26w53 (below_alloc _ _), cell_on c27w53 (below_alloc _ _), cell_on c28w53 (below_alloc _ _), low_alloc hl55 _, (low_alloc hl55 _).size⟩ | with_reducible exact ⟨c21w56, c22w56, c23w56, c24w56, c25w56, c26w56, c27w56, c28w56, hl58, zhl58⟩ | with_reducible exact ⟨cell_on c21w56 (below_alloc _ _), cell_on c22w56 (below_alloc _ _), cell_on c23w56 (below_alloc _ _), cell_on c24w56 (below_alloc _ _), cell_on c25w56 (below_alloc _ _), cell_on c26w56 (below_alloc _ _), cell_on c27w56 (below_alloc _ _), cell_on c28w56 (below_alloc _ _), low_alloc hl58 _, (low_alloc hl58 _).size⟩ | with_reducible exact ⟨c21w59, c22w59, c23w59, c24w59, c25w59, c26w59, c27w59, c28w59, hl61, zhl61⟩ | with_reducible exact ⟨cell_on c21w59 (below_alloc _ _), cell_on c22w59 (below_alloc _ _), cell_on c23w59 (below_alloc _ _), cell_on c24w59 (below_alloc _ _), cell_on c25w59 (below_alloc _ _), cell_on c26w59 (below_alloc _ _), cell_on c27w59 (below_alloc _ _), cell_on c28w59 (below_alloc _ _), low_alloc hl61 _, (low_alloc hl61 _).size⟩ | with_reducible exact ⟨(far_one (far_one c21w59 (Nat.ne_of_lt y29) _) (Nat.ne_of_lt y29) _), (far_one (far_one c22w59 (Nat.ne_of_lt y29) _) (Nat.ne_of_lt y29) _), (far_one (far_one c23w59 (Nat.ne_of_lt y30) _) (Nat.ne_of_lt y30) _), (far_one (far_one c24w59 (Nat.ne_of_lt y30) _) (Nat.ne_of_lt y30) _), (far_one (far_one c25w59 (Nat.ne_of_lt y30) _) (Nat.ne_of_lt y30) _), (far_one (far_one c26w59 (Nat.ne_of_lt y30) _) (Nat.ne_of_lt y30) _), (far_one (far_one c27w59 (Nat.ne_of_lt y30) _) (Nat.ne_of_lt y30) _), (far_one (far_one c28w59 (Nat.ne_of_lt y30) _) (Nat.ne_of_lt y30) _), (Below.setCell (Below.setCell hl61 (Nat.le_refl _) _) (Nat.le_refl _) _), (show Below w11.heap.size w11 _ from (Below.setCell (Below.setCell hl61 (Nat.le_refl _) _) (Nat.le_refl _) _)).size⟩ | with_reducible exact ⟨(far_one (far_one c21w59 (Nat.ne_of_lt y29w53) _) (Nat.ne_of_lt y29w53) _), (far_one (far_one c22w59 (Nat.ne_of_lt y29w53) _) (Nat.ne_of_lt y29w53) _), (far_one (far_one c23w59 (Nat.ne_of_lt y30w53) _) (Nat.ne_of_lt y30w53) _), (far_one (far_one c24w59 (Nat.ne_of_lt y30w53) _) (Nat.ne_of_lt y30w53) _), (far_one (far_one c25w59 (Nat.ne_of_lt y30w53) _) (Nat.ne_of_lt y30w53) _), (far_one (far_one c26w59 (Nat.ne_of_lt y30w53) _) (Nat.ne_of_lt y30w53) _), (far_one (far_one c27w59 (Nat.ne_of_lt y30w53) _) (Nat.ne_of_lt y30w53) _), (far_one (far_one c28w59 (Nat.ne_of_lt y30w53) _) (Nat.ne_of_lt y30w53) _), (Below.setCell (Below.setCell hl61 zhl55 _) zhl55 _), (show Below w11.heap.size w11 _ from (Below.setCell (Below.setCell hl61 zhl55 _) zhl55 _)).size⟩ | with_reducible exact ⟨(far_one (far_one c21w59 (Nat.ne_of_lt y29w56) _) (Nat.ne_of_lt y29w56) _), (far_one (far_one c22w59 (Nat.ne_of_lt y29w56) _) (Nat.ne_of_lt y29w56) _), (far_one (far_one c23w59 (Nat.ne_of_lt y30w56) _) (Nat.ne_of_lt y30w56) _), (far_one (far_one c24w59 (Nat.ne_of_lt y30w56) _) (Nat.ne_of_lt y30w56) _), (far_one (far_one c25w59 (Nat.ne_of_lt y30w56) _) (Nat.ne_of_lt y30w56) _), (far_one (far_one c26w59 (Nat.ne_of_lt y30w56) _) (Nat.ne_of_lt y30w56) _), (far_one (far_one c27w59 (Nat.ne_of_lt y30w56) _) (Nat.ne_of_lt y30w56) _), (far_one (far_one c28w59 (Nat.ne_of_lt y30w56) _) (Nat.ne_of_lt y30w56) _), (Below.setCell (Below.setCell hl61 zhl58 _) zhl58 _), (show Below w11.heap.size w11 _ from (Below.setCell (Below.setCell hl61 zhl58 _) zhl58 _)).size⟩ | (refine ⟨?_, ?_, ?_, ?_, ?_, ?_, ?_, ?_, ?_, ?_⟩ <;> first | assumption | (go_keep; done) | (go_grown; done) | (go_size; done) | (simp; omega))) (first
      | (go_at_call 21; (with_reducible refine (toFlow_own A0_0 A0_1 c0_0 c0_1 n0_0 n0_1 z0_0 z0_1 _ (ints_on i0_0 low (by first | assumption | exact low_alloc (by assumption) _ | exact (low_alloc (by assumption) _).drew)) L0_0.out (by omega) (ints_on i0_1 low (by first | assumption | exact low_alloc (by assumption) _ | exact (low_alloc (by assumption) _).drew)) L0_1.out (by omega)).mono ?_); rintro e w53 ⟨X50, X51, rfl, o52, hb54⟩; (have hl55 := below_on hb54 (show Below w11.heap.size w11 _ by first | assumption | exact low_alloc (by assumption) _ | exact (low_alloc (by assumption) _).drew)); (have zhl55 := hl55.size); (have y29w53 := Nat.lt_of_lt_of_le y29 zhl55); (have y30w53 := Nat.lt_of_lt_of_le y30 zhl55); (have c21w53 := cell_on c21 hl55); (have c22w53 := cell_on c22 hl55); (have c23w53 := cell_on c23 hl55); (have c24w53 := cell_on c24 hl55); (have c25w53 := cell_on c25 hl55); (have c26w53 := cell_on c26 hl55); (have c27w53 := cell_on c27 hl55); (have c28w53 := cell_on c28 hl55); (first | (have hp1 := heap_below hp0 hb54; have hq1 := heap_lt hp1) | (have hp1 := heap_below (heap_alloc_new w11 (.cells #[.slice none 0 0, .slice none 0 0] 32)) hb54; have hq1 := heap_lt hp1) | skip))
      | (go_at_call 22; (with_reducible refine (toStmt_any a1_0 a1_1 a1_2 a1_3 a1_4 a1_5 _).mono ?_); rintro e w56 ⟨rfl, hb57⟩; (have hl58 := below_on hb57 (show Below w11.heap.size w11 _ by first | assumption | exact low_alloc (by assumption) _ | exact (low_alloc (by assumption) _).drew)); (have zhl58 := hl58.size); (have y29w56 := Nat.lt_of_lt_of_le y29 zhl58); (have y30w56 := Nat.lt_of_lt_of_le y30 zhl58); (have c21w56 := cell_on c21 hl58); (have c22w56 := cell_on c22 hl58); (have c23w56 := cell_on c23 hl58); (have c24w56 := cell_on c24 hl58); (have c25w56 := cell_on c25 hl58); (have c26w56 := cell_on c26 hl58); (have c27w56 := cell_on c27 hl58); (have c28w56 := cell_on c28 hl58); (replace o52 := o52.below (below_up hb57 (by first | exact Below.refl _ _ | exact below_alloc _ _ | exact (below_alloc _ _).drew | exact (Below.refl _ _).drew))); (first | (have hp2 := heap_below hp1 hb57; have hq2 := heap_lt hp2) | (have hp2 := heap_below (heap_alloc_new w53 (.cells #[.slice none 0 0, .slice none 0 0] 32)) hb57; have hq2 := heap_lt hp2) | skip))
      | (go_at_call 20; (with_reducible refine (ex_spec_FlowStep X50 n0_0 n0_0 z0_0 X51 n0_1 n0_1 z0_1 a1_0 a1_1 a1_2 a1_3 a1_4 a1_5 _ (by first | exact o52.o0.ints | exact Ints.al o52.o0.ints _) L0_0.out (by omega) V0_0.out (by first | exact o52.o1.ints | exact Ints.al o52.o1.ints _) L0_1.out (by omega) V0_1.out).mono ?_); intro e w59 h; (obtain ⟨G39, G42, n40, n43, d41, d44, rfl, o45, hb60⟩ := E.out _ _ _ h); (have hl61 := below_on hb60 (show Below w11.heap.size w11 _ by first | assumption | exact low_alloc (by assumption) _ | exact (low_alloc (by assumption) _).drew)); (have zhl61 := hl61.size); (have yhl61 := hb60.size); (have y29w59 := Nat.lt_of_lt_of_le y29 zhl61); (have y30w59 := Nat.lt_of_lt_of_le y30 zhl61); (have c21w59 := cell_on c21 hl61); (have c22w59 := cell_on c22 hl61); (have c23w59 := cell_on c23 hl61); (have c24w59 := cell_on c24 hl61); (have c25w59 := cell_on c25 hl61); (have c26w59 := cell_on c26 hl61); (have c27w59 := cell_on c27 hl61); (have c28w59 := cell_on c28 hl61); (first | (have hp3 := heap_below hp2 hb60; obtain ⟨zc0, zf0⟩ := blk (i := 0) hp3 rfl; obtain ⟨zc1, zf1⟩ := blk (i := 1) hp3 rfl) | (have hp3 := heap_below (heap_alloc_new w56 (.cells #[.slice none 0 0, .slice none 0 0] 32)) hb60; obtain ⟨zc0, zf0⟩ := blk (i := 0) hp3 rfl; obtain ⟨zc1, zf1⟩ := blk (i := 1) hp3 rfl) | skip)))
    all_goals
      go_wp2_with fail
      go_meet
      first
        | exact ⟨_, _, _, _, _, _, _, _, _, rfl, BxdFlow.last o45 hl61 (by first | assumption | (simp <;> omega))⟩
        | exact ⟨_, _, _, _, _, _, _, _, _, rfl, BxdFlow.early o45 hl61 (by first | assumption | (simp <;> omega)) hp3 (by first | omega | (simp <;> omega)) (by first | omega | (simp <;> omega))⟩
  case rest =>
    clear hp0 r0 r1 r2 c21 c22 c23 c24 c25 c26 c27 c28 y29 y30 r31 r32 r33 r34 r35 r36 r37 r38
    obtain ⟨p46, lo47, hi48, G39, G42, n40, n43, d41, d44, rfl, hN⟩ := hcut
    obtain ⟨w62, rfl⟩ : ∃ w62 : World, w62 = wc := ⟨_, rfl⟩
    have o45 := hN.own
    have bp46 := hN.box
    have qp46 := hN.at_
    have hb := hN.low
    clear hN
    replace b0 := heap_below b0 hb
    replace b1 := heap_below b1 hb
    replace i0_0 := i0_0.below (hb.mono low.size)
    replace i0_1 := i0_1.below (hb.mono low.size)
    replace low := low.trans (hb.mono low.size)
    have q63 := hb.size
    clear hb
    have L64 := Lib.hid (o45.o0.len1)
    have bnL64 : n40 ≤ 1900000 := by rw [← L64.out]; exact bR0
    have L65 := Lib.hid (o45.o1.len1)
    have bnL65 : n43 ≤ 1900000 := by rw [← L65.out]; exact bR1
    have c69 := (blk (i := 0) b0 rfl).1
    have c70 := (blk (i := 1) b0 rfl).1
    have c71 := (blk (i := 0) b1 rfl).1
    have c72 := (blk (i := 1) b1 rfl).1
    have c73 := (blk (i := 2) b1 rfl).1
    have c74 := (blk (i := 3) b1 rfl).1
    have c75 := (blk (i := 4) b1 rfl).1
    have c76 := (blk (i := 5) b1 rfl).1
    have c77 := (blk (i := 0) bp46 rfl).1
    have c78 := (blk (i := 1) bp46 rfl).1
    go_wp2_with fail
    refine (toFlow_own A0_0 A0_1 c0_0 c0_1 n0_0 n0_1 z0_0 z0_1 w62 (i0_0.ints low.size) L0_0.out (by omega) (i0_1.ints low.size) L0_1.out (by omega)).mono ?_
    rintro e w79 ⟨X66, X67, rfl, o68, hb⟩
    replace b0 := heap_below b0 hb
    replace b1 := heap_below b1 hb
    replace i0_0 := i0_0.below (hb.mono low.size)
    replace i0_1 := i0_1.below (hb.mono low.size)
    replace o45 := o45.below hb
    replace bp46 := heap_below bp46 hb
    replace low := low.trans (hb.mono low.size)
    have q80 := hb.size
    clear hb
    replace b0 := heap_alloc b0 (.cells #[.slice X66 n0_0 n0_0, .slice X67 n0_1 n0_1] 32)
    replace b1 := heap_alloc b1 (.cells #[.slice X66 n0_0 n0_0, .slice X67 n0_1 n0_1] 32)
    replace i0_0 := i0_0.below ((below_alloc _ (.cells #[.slice X66 n0_0 n0_0, .slice X67 n0_1 n0_1] 32)).mono low.size)
    replace i0_1 := i0_1.below ((below_alloc _ (.cells #[.slice X66 n0_0 n0_0, .slice X67 n0_1 n0_1] 32)).mono low.size)
    replace o45 := o45.alloc (.cells #[.slice X66 n0_0 n0_0, .slice X67 n0_1 n0_1] 32)
    replace bp46 := heap_alloc bp46 (.cells #[.slice X66 n0_0 n0_0, .slice X67 n0_1 n0_1] 32)
    replace o68 := o68.alloc (.cells #[.slice X66 n0_0 n0_0, .slice X67 n0_1 n0_1] 32)
    replace low := low_alloc low (.cells #[.slice X66 n0_0 n0_0, .slice X67 n0_1 n0_1] 32)
    have b81 := heap_alloc_new w79 (.cells #[.slice X66 n0_0 n0_0, .slice X67 n0_1 n0_1] 32)
    have q82 := heap_lt b81
    clear c69 c70 c71 c72 c73 c74 c75 c76 c77 c78
    have c83 := (blk (i := 0) b0 rfl).1
    have c84 := (blk (i := 1) b0 rfl).1
    have c85 := (blk (i := 0) b1 rfl).1
    have c86 := (blk (i := 1) b1 rfl).1
    have c87 := (blk (i := 2) b1 rfl).1
    have c88 := (blk (i := 3) b1 rfl).1
    have c89 := (blk (i := 4) b1 rfl).1
    have c90 := (blk (i := 5) b1 rfl).1
    have c91 := (blk (i := 0) bp46 rfl).1
    have c92 := (blk (i := 1) bp46 rfl).1
    have c93 := (blk (i := 0) b81 rfl).1
    have c94 := (blk (i := 1) b81 rfl).1
    go_wp2_with fail
    generalize hg : (w79.alloc (.cells #[.slice X66 n0_0 n0_0, .slice X67 n0_1 n0_1] 32)) = w95 at *
    clear hg
    clear c83 c84 c85 c86 c87 c88 c89 c90 c91 c92 c93 c94
    have c96 : w95.cell? ⟨w79.heap.size, 0, none⟩ = some (.slice X66 n0_0 n0_0) := (blk (i := 0) b81 rfl).1
    have c97 : w95.cell? ⟨w79.heap.size, 1, none⟩ = some (.slice X67 n0_1 n0_1) := (blk (i := 1) b81 rfl).1
    have c98 : w95.cell? ⟨w.heap.size + 1, 0, none⟩ = some (.int .i64 a1_0) := (blk (i := 0) b1 rfl).1
    have c99 : w95.cell? ⟨w.heap.size + 1, 1, none⟩ = some (.int .i64 a1_1) := (blk (i := 1) b1 rfl).1
    have c100 : w95.cell? ⟨w.heap.size + 1, 2, none⟩ = some (.int .i64 a1_2) := (blk (i := 2) b1 rfl).1
    have c101 : w95.cell? ⟨w.heap.size + 1, 3, none⟩ = some (.int .i64 a1_3) := (blk (i := 3) b1 rfl).1
    have c102 : w95.cell? ⟨w.heap.size + 1, 4, none⟩ = some (.int .i64 a1_4) := (blk (i := 4) b1 rfl).1
    have c103 : w95.cell? ⟨w.heap.size + 1, 5, none⟩ = some (.int .i64 a1_5) := (blk (i := 5) b1 rfl).1
    have y104 := heap_lt b81
    have y105 := heap_lt b1
    have hp0 : (w95.alloc (.cells #[.slice none 0 0, .slice none 0 0] 32)).drew.heap[w95.heap.size]? = some (.cells #[.slice none 0 0, .slice none 0 0] 32 (0, 0)) := heap_alloc_new w95 _
    have r0 : Below w95.heap.size w95 w95.drew := (Below.refl _ _).drew
    have r1 : Below w95.heap.size w95 (w95.alloc (.cells #[.slice none 0 0, .slice none 0 0] 32)).drew := (below_alloc _ _).drew
    have r2 := r1.size
    have r106 := cell_on c96 r1
    have r107 := cell_on c97 r1
    have r108 := cell_on c98 r1
    have r109 := cell_on c99 r1
    have r110 := cell_on c100 r1
    have r111 := cell_on c101 r1
    have r112 := cell_on c102 r1
    have r113 := cell_on c103 r1
    go_upto_region 7 with (fail)
    go_cut [8] (fun s wx => ∃ (p121 lo122 hi123 : Nat) (G114 G117 : Option Addr) (n115 n118 d116 d119 : Nat), s = .pointer (some ⟨p121, 0, none⟩) ∧ BxdFlow w95 wx p121 lo122 hi123 G114 G117 n115 n118 d116 d119 R0 R1)
    case first =>
      go_wp2_with fail
      go_region_held3 (fun w' => w'.cell? ⟨w79.heap.size, 0, none⟩ = some (.slice X66 n0_0 n0_0) ∧ w'.cell? ⟨w79.heap.size, 1, none⟩ = some (.slice X67 n0_1 n0_1) ∧ w'.cell? ⟨w.heap.size + 1, 0, none⟩ = some (.int .i64 a1_0) ∧ w'.cell? ⟨w.heap.size + 1, 1, none⟩ = some (.int .i64 a1_1) ∧ w'.cell? ⟨w.heap.size + 1, 2, none⟩ = some (.int .i64 a1_2) ∧ w'.cell? ⟨w.heap.size + 1, 3, none⟩ = some (.int .i64 a1_3) ∧ w'.cell? ⟨w.heap.size + 1, 4, none⟩ = some (.int .i64 a1_4) ∧ w'.cell? ⟨w.heap.size + 1, 5, none⟩ = some (.int .i64 a1_5) ∧ Below w95.heap.size w95 w' ∧ w95.heap.size ≤ w'.heap.size) (first | with_reducible exact ⟨c96, c97, c98, c99, c100, c101, c102, c103, r0, r0.size⟩ | with_reducible exact ⟨r106, r107, r108, r109, r110, r111, r112, r113, r1, r2⟩ | with_reducible exact ⟨c96w125, c97w125, c98w125, c99w125, c100w125, c101w125, c102w125, c103w125, hl127, zhl127⟩ | with_reducible exact ⟨cell_on c96w125 (below_alloc _ _), cell_on c97w125 (below_alloc _ _), cell_on c98w125 (below_alloc _ _), cell_on c99w125 (below_alloc _ _), cell_on c100w125 (below_alloc _ _), cell_on c101w125 (below_alloc _ _), cell_on c102w125 (below_alloc _ _), cell_on c103w125 (below_alloc _ _), low_alloc hl127 _, (low_alloc hl127 _).size⟩ | with_reducible exact ⟨c96w128, c97w128, c98w128, c99w128, c100w128, c101w128, c102w128, c103w128, hl130, zhl130⟩ | with_reducible exact ⟨cell_on c96w128 (below_alloc _ _), cell_on c97w128 (below_alloc _ _), cell_on c98w128 (below_alloc _ _), cell_on c99w128 (below_alloc _ _), cell_on c100w128 (below_alloc _ _), cell_on c101w128 (below_alloc _ _), cell_on c102w128 (below_alloc _ _), cell_on c103w128 (below_alloc _ _), low_alloc hl130 _, (low_alloc hl130 _).size⟩ | with_reducible exact ⟨(far_one (far_one c96w128 (Nat.ne_of_lt y104) _) (Nat.ne_of_lt y104) _), (far_one (far_one c97w128 (Nat.ne_of_lt y104) _) (Nat.ne_of_lt y104) _), (far_one (far_one c98w128 (Nat.ne_of_lt y105) _) (Nat.ne_of_lt y105) _), (far_one (far_one c99w128 (Nat.ne_of_lt y105) _) (Nat.ne_of_lt y105) _), (far_one (far_one c100w128 (Nat.ne_of_lt y105) _) (Nat.ne_of_lt y105) _), (far_one (far_one c101w128 (Nat.ne_of_lt y105) _) (Nat.ne_of_lt y105) _), (far_one (far_one c102w128 (Nat.ne_of_lt y105) _) (Nat.ne_of_lt y105) _), (far_one (far_one c103w128 (Nat.ne_of_lt y105) _) (Nat.ne_of_lt y105) _), (Below.setCell (Below.setCell hl130 (Nat.le_refl _) _) (Nat.le_refl _) _), (show Below w95.heap.size w95 _ from (Below.setCell (Below.setCell hl130 (Nat.le_refl _) _) (Nat.le_refl _) _)).size⟩ | with_reducible exact ⟨(far_one (far_one c96w128 (Nat.ne_of_lt y104w125) _) (Nat.ne_of_lt y104w125) _), (far_one (far_one c97w128 (Nat.ne_of_lt y104w125) _) (Nat.ne_of_lt y104w125) _), (far_one (far_one c98w128 (Nat.ne_of_lt y105w125) _) (Nat.ne_of_lt y105w125) _), (far_one (far_one c99w128 (Nat.ne_of_lt y105w125) _) (Nat.ne_of_lt y105w125) _), (far_one (far_one c100w128 (Nat.ne_of_lt y105w125) _) (Nat.ne_of_lt y105w125) _), (far_one (far_one c101w128 (Nat.ne_of_lt y105w125) _) (Nat.ne_of_lt y105w125) _), (far_one (far_one c102w128 (Nat.ne_of_lt y105w125) _) (Nat.ne_of_lt y105w125) _), (far_one (far_one c103w128 (Nat.ne_of_lt y105w125) _) (Nat.ne_of_lt y105w125) _), (Below.setCell (Below.setCell hl130 zhl127 _) zhl127 _), (show Below w95.heap.size w95 _ from (Below.setCell (Below.setCell hl130 zhl127 _) zhl127 _)).size⟩ | (refine ⟨?_, ?_, ?_, ?_, ?_, ?_, ?_, ?_, ?_, ?_⟩ <;> first | assumption | (go_keep; done) | (go_grown; done) | (go_size; done) | (simp; omega))) (first
        | (go_at_call 22; (with_reducible refine (toStmt_any a1_0 a1_1 a1_2 a1_3 a1_4 a1_5 _).mono ?_); rintro e w125 ⟨rfl, hb126⟩; (have hl127 := below_on hb126 (show Below w95.heap.size w95 _ by first | assumption | exact low_alloc (by assumption) _ | exact (low_alloc (by assumption) _).drew)); (have zhl127 := hl127.size); (have y104w125 := Nat.lt_of_lt_of_le y104 zhl127); (have y105w125 := Nat.lt_of_lt_of_le y105 zhl127); (have c96w125 := cell_on c96 hl127); (have c97w125 := cell_on c97 hl127); (have c98w125 := cell_on c98 hl127); (have c99w125 := cell_on c99 hl127); (have c100w125 := cell_on c100 hl127); (have c101w125 := cell_on c101 hl127); (have c102w125 := cell_on c102 hl127); (have c103w125 := cell_on c103 hl127); (first | (have hp1 := heap_below hp0 hb126; have hq1 := heap_lt hp1) | (have hp1 := heap_below (heap_alloc_new w95 (.cells #[.slice none 0 0, .slice none 0 0] 32)) hb126; have hq1 := heap_lt hp1) | skip))
        | (go_at_call 23; (with_reducible refine (ex_impl_FlowStep X66 n0_0 n0_0 z0_0 X67 n0_1 n0_1 z0_1 a1_0 a1_1 a1_2 a1_3 a1_4 a1_5 _ (ints_to o68.o0.ints (by first | assumption | exact low_alloc (by assumption) _ | exact (low_alloc (by assumption) _).drew)) L0_0.out (by omega) V0_0.out (ints_to o68.o1.ints (by first | assumption | exact low_alloc (by assumption) _ | exact (low_alloc (by assumption) _).drew)) L0_1.out (by omega) V0_1.out).mono ?_); intro e w128 h; (obtain ⟨G114, G117, n115, n118, d116, d119, rfl, o120, hb129⟩ := E.out _ _ _ h); (have hl130 := below_on hb129 (show Below w95.heap.size w95 _ by first | assumption | exact low_alloc (by assumption) _ | exact (low_alloc (by assumption) _).drew)); (have zhl130 := hl130.size); (have yhl130 := hb129.size); (have y104w128 := Nat.lt_of_lt_of_le y104 zhl130); (have y105w128 := Nat.lt_of_lt_of_le y105 zhl130); (have c96w128 := cell_on c96 hl130); (have c97w128 := cell_on c97 hl130); (have c98w128 := cell_on c98 hl130); (have c99w128 := cell_on c99 hl130); (have c100w128 := cell_on c100 hl130); (have c101w128 := cell_on c101 hl130); (have c102w128 := cell_on c102 hl130); (have c103w128 := cell_on c103 hl130); (first | (have hp2 := heap_below hp1 hb129; obtain ⟨zc0, zf0⟩ := blk (i := 0) hp2 rfl; obtain ⟨zc1, zf1⟩ := blk (i := 1) hp2 rfl) | (have hp2 := heap_below (heap_alloc_new w125 (.cells #[.slice none 0 0, .slice none 0 0] 32)) hb129; obtain ⟨zc0, zf0⟩ := blk (i := 0) hp2 rfl; obtain ⟨zc1, zf1⟩ := blk (i := 1) hp2 rfl) | skip)))
      all_goals
        go_wp2_with fail
        go_meet
        first
          | exact ⟨_, _, _, _, _, _, _, _, _, rfl, BxdFlow.last o120 hl130 (by first | assumption | (simp <;> omega))⟩
          | exact ⟨_, _, _, _, _, _, _, _, _, rfl, BxdFlow.early o120 hl130 (by first | assumption | (simp <;> omega)) hp2 (by first | omega | (simp <;> omega)) (by first | omega | (simp <;> omega))⟩
    case rest =>
      clear hp0 r0 r1 r2 c96 c97 c98 c99 c100 c101 c102 c103 y104 y105 r106 r107 r108 r109 r110 r111 r112 r113
      obtain ⟨p121, lo122, hi123, G114, G117, n115, n118, d116, d119, rfl, hN⟩ := hcut
      obtain ⟨w131, rfl⟩ : ∃ w131 : World, w131 = wc := ⟨_, rfl⟩
      have o120 := hN.own
      have bp121 := hN.box
      have qp121 := hN.at_
      have hb := hN.low
      clear hN
      replace b0 := heap_below b0 hb
      replace b1 := heap_below b1 hb
      replace i0_0 := i0_0.below (hb.mono low.size)
      replace i0_1 := i0_1.below (hb.mono low.size)
      replace o45 := o45.below hb
      replace bp46 := heap_below bp46 hb
      replace o68 := o68.below hb
      replace b81 := heap_below b81 hb
      replace low := low.trans (hb.mono low.size)
      have q132 := hb.size
      clear hb
      have hl133 := o120.o0.len1
      obtain rfl : n40 = n115 := by rw [← hl133, L64.out]
      clear hl133
      have hl134 := o120.o1.len1
      obtain rfl : n43 = n118 := by rw [← hl134, L65.out]
      clear hl134
      have c136 := (blk (i := 0) b0 rfl).1
      have c137 := (blk (i := 1) b0 rfl).1
      have c138 := (blk (i := 0) b1 rfl).1
      have c139 := (blk (i := 1) b1 rfl).1
      have c140 := (blk (i := 2) b1 rfl).1
      have c141 := (blk (i := 3) b1 rfl).1
      have c142 := (blk (i := 4) b1 rfl).1
      have c143 := (blk (i := 5) b1 rfl).1
      have c144 := (blk (i := 0) bp46 rfl).1
      have c145 := (blk (i := 1) bp46 rfl).1
      have c146 := (blk (i := 0) b81 rfl).1
      have c147 := (blk (i := 1) b81 rfl).1
      have c148 := (blk (i := 0) bp121 rfl).1
      have c149 := (blk (i := 1) bp121 rfl).1
      go_wp2_with fail
      refine (eqFlow_same G114 G117 d116 d119 G39 G42 d41 d44 n40 n43 R0 R1 w131 o120.o0.ints o45.o0.ints L64.out (by omega) o120.o1.ints o45.o1.ints L65.out (by omega)).mono ?_
      rintro e w135 ⟨rfl, hb⟩
      replace b0 := heap_below b0 hb
      replace b1 := heap_below b1 hb
      replace i0_0 := i0_0.below (hb.mono low.size)
      replace i0_1 := i0_1.below (hb.mono low.size)
      replace o45 := o45.below hb
      replace bp46 := heap_below bp46 hb
      replace o68 := o68.below hb
      replace b81 := heap_below b81 hb
      replace o120 := o120.below hb
      replace bp121 := heap_below bp121 hb
      replace low := low.trans (hb.mono low.size)
      have q150 := hb.size
      clear hb
      clear c136 c137 c138 c139 c140 c141 c142 c143 c144 c145 c146 c147 c148 c149
      have c154 := (blk (i := 0) b0 rfl).1
      have c155 := (blk (i := 1) b0 rfl).1
      have c156 := (blk (i := 0) b1 rfl).1
      have c157 := (blk (i := 1) b1 rfl).1
      have c158 := (blk (i := 2) b1 rfl).1
      have c159 := (blk (i := 3) b1 rfl).1
      have c160 := (blk (i := 4) b1 rfl).1
      have c161 := (blk (i := 5) b1 rfl).1
      have c162 := (blk (i := 0) bp46 rfl).1
      have c163 := (blk (i := 1) bp46 rfl).1
      have c164 := (blk (i := 0) b81 rfl).1
      have c165 := (blk (i := 1) b81 rfl).1
      have c166 := (blk (i := 0) bp121 rfl).1
      have c167 := (blk (i := 1) bp121 rfl).1
      go_upto_region 10 with (fail)
      go_cut [37] (fun s wx => s = .bool false ∧ Below w135.heap.size w135 wx)
      case first =>
        have lowd := low.drew
        have o68d := o68.drew
        go_wp2_with fail
        go_region_law (first
          | (go_simp; go_at_call 21; (with_reducible refine (toFlow_own A0_0 A0_1 c0_0 c0_1 n0_0 n0_1 z0_0 z0_1 _ ((ints_drew i0_0 low)) L0_0.out (by omega) ((ints_drew i0_1 low)) L0_1.out (by omega)).mono ?_); rintro e w168 ⟨X151, X152, rfl, o153, hb1⟩; (have ox := o68d.below hb1); (have bx0 := heap_below (w := w135.drew) b81 hb1); (have cx00 := (blk (i := 0) bx0 rfl).1); (have cx01 := (blk (i := 1) bx0 rfl).1))
          | (go_simp; go_at_call 16; (with_reducible refine (eqFlow_same X66 X67 n0_0 n0_1 X151 X152 n0_0 n0_1 n0_0 n0_1 z0_0 z0_1 _ ox.o0.ints o153.o0.ints L0_0.out (by omega) ox.o1.ints o153.o1.ints L0_1.out (by omega)).mono ?_); rintro e w169 ⟨rfl, hb2⟩))
        all_goals
          have hb := ((Below.refl w135.heap.size w135).drew.trans hb1).trans (hb2.mono (by have := hb1.size; exact this))
          go_wp2_with fail
          go_meet
          exact ⟨rfl, hb⟩
      case rest =>
        clear c154 c155 c156 c157 c158 c159 c160 c161 c162 c163 c164 c165 c166 c167
        obtain ⟨rfl, hb⟩ := hcut
        obtain ⟨w170, rfl⟩ : ∃ w170 : World, w170 = wc := ⟨_, rfl⟩
        replace b0 := heap_below b0 hb
        replace b1 := heap_below b1 hb
        replace i0_0 := i0_0.below (hb.mono low.size)
        replace i0_1 := i0_1.below (hb.mono low.size)
        replace o45 := o45.below hb
        replace bp46 := heap_below bp46 hb
        replace o68 := o68.below hb
        replace b81 := heap_below b81 hb
        replace o120 := o120.below hb
        replace bp121 := heap_below bp121 hb
        replace low := low.trans (hb.mono low.size)
        have q171 := hb.size
        clear hb
        have c173 := (blk (i := 0) b0 rfl).1
        have c174 := (blk (i := 1) b0 rfl).1
        have c175 := (blk (i := 0) b1 rfl).1
        have c176 := (blk (i := 1) b1 rfl).1
        have c177 := (blk (i := 2) b1 rfl).1
        have c178 := (blk (i := 3) b1 rfl).1
        have c179 := (blk (i := 4) b1 rfl).1
        have c180 := (blk (i := 5) b1 rfl).1
        have c181 := (blk (i := 0) bp46 rfl).1
        have c182 := (blk (i := 1) bp46 rfl).1
        have c183 := (blk (i := 0) b81 rfl).1
        have c184 := (blk (i := 1) b81 rfl).1
        have c185 := (blk (i := 0) bp121 rfl).1
        have c186 := (blk (i := 1) bp121 rfl).1
        go_wp2_with fail
        refine (markFlow_own w62.heap.size (w79.heap.size) (1) X66 X67 n0_0 n0_1 n0_0 n0_1 z0_0 z0_1 w170 o68 (by omega) (by omega)).mono ?_
        rintro e w172 ⟨rfl, o187, mg⟩
        clear o68
        replace b0 := mg.heap b0 (by omega)
        replace b1 := mg.heap b1 (by omega)
        replace i0_0 := i0_0.mid mg (by omega) low.size
        replace i0_1 := i0_1.mid mg (by omega) low.size
        replace o45 := o45.mid mg (by omega)
        replace bp46 := mg.heap bp46 (by omega)
        replace b81 := mg.heap b81 (by omega)
        replace o120 := o120.mid mg (by omega)
        replace bp121 := mg.heap bp121 (by omega)
        replace low := mg.below low (by omega) low.size
        have q188 := mg.size
        clear mg
        clear o187
        clear b81
        clear c173 c174 c175 c176 c177 c178 c179 c180 c181 c182 c183 c184 c185 c186
        have c190 := (blk (i := 0) b0 rfl).1
        have c191 := (blk (i := 1) b0 rfl).1
        have c192 := (blk (i := 0) b1 rfl).1
        have c193 := (blk (i := 1) b1 rfl).1
        have c194 := (blk (i := 2) b1 rfl).1
        have c195 := (blk (i := 3) b1 rfl).1
        have c196 := (blk (i := 4) b1 rfl).1
        have c197 := (blk (i := 5) b1 rfl).1
        have c198 := (blk (i := 0) bp46 rfl).1
        have c199 := (blk (i := 1) bp46 rfl).1
        have c200 := (blk (i := 0) bp121 rfl).1
        have c201 := (blk (i := 1) bp121 rfl).1
        go_wp2_with fail
        refine (eqFlow_same G114 G117 d116 d119 G39 G42 d41 d44 n40 n43 R0 R1 w172 o120.o0.ints o45.o0.ints L64.out (by omega) o120.o1.ints o45.o1.ints L65.out (by omega)).mono ?_
        rintro e w189 ⟨rfl, hb⟩
        replace b0 := heap_below b0 hb
        replace b1 := heap_below b1 hb
        replace i0_0 := i0_0.below (hb.mono low.size)
        replace i0_1 := i0_1.below (hb.mono low.size)
        replace o45 := o45.below hb
        replace bp46 := heap_below bp46 hb
        replace o120 := o120.below hb
        replace bp121 := heap_below bp121 hb
        replace low := low.trans (hb.mono low.size)
        have q202 := hb.size
        clear hb
        clear c190 c191 c192 c193 c194 c195 c196 c197 c198 c199 c200 c201
        have c204 := (blk (i := 0) b0 rfl).1
        have c205 := (blk (i := 1) b0 rfl).1
        have c206 := (blk (i := 0) b1 rfl).1
        have c207 := (blk (i := 1) b1 rfl).1
        have c208 := (blk (i := 2) b1 rfl).1
        have c209 := (blk (i := 3) b1 rfl).1
        have c210 := (blk (i := 4) b1 rfl).1
        have c211 := (blk (i := 5) b1 rfl).1
        have c212 := (blk (i := 0) bp46 rfl).1
        have c213 := (blk (i := 1) bp46 rfl).1
        have c214 := (blk (i := 0) bp121 rfl).1
        have c215 := (blk (i := 1) bp121 rfl).1
        go_wp2_with fail
        refine (markFlow_own lo122 (hi123) (1) G114 G117 d116 d119 n40 n43 R0 R1 w189 o120 (by omega) (by omega)).mono ?_
        rintro e w203 ⟨rfl, o216, mg⟩
        clear o120
        replace b0 := mg.heap b0 (by omega)
        replace b1 := mg.heap b1 (by omega)
        replace i0_0 := i0_0.mid mg (by omega) low.size
        replace i0_1 := i0_1.mid mg (by omega) low.size
        replace o45 := o45.mid mg (by omega)
        replace bp46 := mg.heap bp46 (by omega)
        replace bp121 := mg.heap bp121 (by omega)
        replace low := mg.below low (by omega) low.size
        have q217 := mg.size
        clear mg
        clear c204 c205 c206 c207 c208 c209 c210 c211 c212 c213 c214 c215
        have c218 := (blk (i := 0) b0 rfl).1
        have c219 := (blk (i := 1) b0 rfl).1
        have c220 := (blk (i := 0) b1 rfl).1
        have c221 := (blk (i := 1) b1 rfl).1
        have c222 := (blk (i := 2) b1 rfl).1
        have c223 := (blk (i := 3) b1 rfl).1
        have c224 := (blk (i := 4) b1 rfl).1
        have c225 := (blk (i := 5) b1 rfl).1
        have c226 := (blk (i := 0) bp46 rfl).1
        have c227 := (blk (i := 1) bp46 rfl).1
        have c228 := (blk (i := 0) bp121 rfl).1
        have c229 := (blk (i := 1) bp121 rfl).1
        go_wp2_with fail
        refine (heldFlow_any (1) G114 G117 d116 d119 n40 n43 w203 o216.o0.ints o216.o1.ints (by omega)).mono ?_
        rintro e w230 ⟨rfl, hb⟩
        replace b0 := heap_below b0 hb
        replace b1 := heap_below b1 hb
        replace i0_0 := i0_0.below (hb.mono low.size)
        replace i0_1 := i0_1.below (hb.mono low.size)
        replace o45 := o45.below hb
        replace bp46 := heap_below bp46 hb
        replace bp121 := heap_below bp121 hb
        replace o216 := o216.below hb
        replace low := low.trans (hb.mono low.size)
        have q231 := hb.size
        clear hb
        clear c218 c219 c220 c221 c222 c223 c224 c225 c226 c227 c228 c229
        have c232 : w230.cell? ⟨w.heap.size, 0, none⟩ = some (.slice A0_0 n0_0 c0_0) := (blk (i := 0) b0 rfl).1
        have c233 : w230.cell? ⟨w.heap.size, 1, none⟩ = some (.slice A0_1 n0_1 c0_1) := (blk (i := 1) b0 rfl).1
        have c234 : w230.cell? ⟨w.heap.size + 1, 0, none⟩ = some (.int .i64 a1_0) := (blk (i := 0) b1 rfl).1
        have c235 : w230.cell? ⟨w.heap.size + 1, 1, none⟩ = some (.int .i64 a1_1) := (blk (i := 1) b1 rfl).1
        have c236 : w230.cell? ⟨w.heap.size + 1, 2, none⟩ = some (.int .i64 a1_2) := (blk (i := 2) b1 rfl).1
        have c237 : w230.cell? ⟨w.heap.size + 1, 3, none⟩ = some (.int .i64 a1_3) := (blk (i := 3) b1 rfl).1
        have c238 : w230.cell? ⟨w.heap.size + 1, 4, none⟩ = some (.int .i64 a1_4) := (blk (i := 4) b1 rfl).1
        have c239 : w230.cell? ⟨w.heap.size + 1, 5, none⟩ = some (.int .i64 a1_5) := (blk (i := 5) b1 rfl).1
        have y240 := heap_lt b0
        have y241 := heap_lt b1
        have hp0 : (w230.alloc (.cells #[.slice none 0 0, .slice none 0 0] 32)).drew.heap[w230.heap.size]? = some (.cells #[.slice none 0 0, .slice none 0 0] 32 (0, 0)) := heap_alloc_new w230 _
        have r0 : Below w230.heap.size w230 w230.drew := (Below.refl _ _).drew
        have r1 : Below w230.heap.size w230 (w230.alloc (.cells #[.slice none 0 0, .slice none 0 0] 32)).drew := (below_alloc _ _).drew
        have r2 := r1.size
        have r242 := cell_on c232 r1
        have r243 := cell_on c233 r1
        have r244 := cell_on c234 r1
        have r245 := cell_on c235 r1
        have r246 := cell_on c236 r1
        have r247 := cell_on c237 r1
        have r248 := cell_on c238 r1
        have r249 := cell_on c239 r1
        go_upto_region 24 with (fail)
        go_cut [12] (fun s wx => ∃ (p257 lo258 hi259 : Nat) (G250 G253 : Option Addr) (n251 n254 d252 d255 : Nat), s = .pointer (some ⟨p257, 0, none⟩) ∧ BxdFlow w230 wx p257 lo258 hi259 G250 G253 n251 n254 d252 d255 R0 R1)
        case first =>
          go_wp2_with fail
          go_region_held3 (fun w' => w'.cell? ⟨w.heap.size, 0, none⟩ = some (.slice A0_0 n0_0 c0_0) ∧ w'.cell? ⟨w.heap.size, 1, none⟩ = some (.slice A0_1 n0_1 c0_1) ∧ w'.cell? ⟨w.heap.size + 1, 0, none⟩ = some (.int .i64 a1_0) ∧ w'.cell? ⟨w.heap.size + 1, 1, none⟩ = some (.int .i64 a1_1) ∧ w'.cell? ⟨w.heap.size + 1, 2, none⟩ = some (.int .i64 a1_2) ∧ w'.cell? ⟨w.heap.size + 1, 3, none⟩ = some (.int .i64 a1_3) ∧ w'.cell? ⟨w.heap.size + 1, 4, none⟩ = some (.int .i64 a1_4) ∧ w'.cell? ⟨w.heap.size + 1, 5, none⟩ = some (.int .i64 a1_5) ∧ Below w230.heap.size w230 w' ∧ w230.heap.size ≤ w'.heap.size) (first | with_reducible exact ⟨c232, c233, c234, c235, c236, c237, c238, c239, r0, r0.size⟩ | with_reducible exact ⟨r242, r243, r244, r245, r246, r247, r248, r249, r1, r2⟩ | with_reducible exact ⟨c232w264, c233w264, c234w264, c235w264, c236w264, c237w264, c238w264, c239w264, hl266, zhl266⟩ | with_reducible exact ⟨cell_on c232w264 (below_alloc _ _), cell_on c233w264 (below_alloc _ _), cell_on c234w264 (below_alloc _ _), cell_on c235w264 (below_alloc _ _), cell_on c236w264 (below_alloc _ _), cell_on c237w264 (below_alloc _ _), cell_on c238w264 (below_alloc _ _), cell_on c239w264 (below_alloc _ _), low_alloc hl266 _, (low_alloc hl266 _).size⟩ | with_reducible exact ⟨c232w267, c233w267, c234w267, c235w267, c236w267, c237w267, c238w267, c239w267, hl269, zhl269⟩ | with_reducible exact ⟨cell_on c232w267 (below_alloc _ _), cell_on c233w267 (below_alloc _ _), cell_on c234w267 (below_alloc _ _), cell_on c235w267 (below_alloc _ _), cell_on c236w267 (below_alloc _ _), cell_on c237w267 (below_alloc _ _), cell_on c238w267 (below_alloc _ _), cell_on c239w267 (below_alloc _ _), low_alloc hl269 _, (low_alloc hl269 _).size⟩ | with_reducible exact ⟨c232w270, c233w270, c234w270, c235w270, c236w270, c237w270, c238w270, c239w270, hl272, zhl272⟩ | with_reducible exact ⟨cell_on c232w270 (below_alloc _ _), cell_on c233w270 (below_alloc _ _), cell_on c234w270 (below_alloc _ _), cell_on c235w270 (below_alloc _ _), cell_on c236w270 (below_alloc _ _), cell_on c237w270 (below_alloc _ _), cell_on c238w270 (below_alloc _ _), cell_on c239w270 (below_alloc _ _), low_alloc hl272 _, (low_alloc hl272 _).size⟩ | with_reducible exact ⟨(far_one (far_one c232w270 (Nat.ne_of_lt y240) _) (Nat.ne_of_lt y240) _), (far_one (far_one c233w270 (Nat.ne_of_lt y240) _) (Nat.ne_of_lt y240) _), (far_one (far_one c234w270 (Nat.ne_of_lt y241) _) (Nat.ne_of_lt y241) _), (far_one (far_one c235w270 (Nat.ne_of_lt y241) _) (Nat.ne_of_lt y241) _), (far_one (far_one c236w270 (Nat.ne_of_lt y241) _) (Nat.ne_of_lt y241) _), (far_one (far_one c237w270 (Nat.ne_of_lt y241) _) (Nat.ne_of_lt y241) _), (far_one (far_one c238w270 (Nat.ne_of_lt y241) _) (Nat.ne_of_lt y241) _), (far_one (far_one c239w270 (Nat.ne_of_lt y241) _) (Nat.ne_of_lt y241) _), (Below.setCell (Below.setCell hl272 (Nat.le_refl _) _) (Nat.le_refl _) _), (show Below w230.heap.size w230 _ from (Below.setCell (Below.setCell hl272 (Nat.le_refl _) _) (Nat.le_refl _) _)).size⟩ | with_reducible exact ⟨(far_one (far_one c232w270 (Nat.ne_of_lt y240w264) _) (Nat.ne_of_lt y240w264) _), (far_one (far_one c233w270 (Nat.ne_of_lt y240w264) _) (Nat.ne_of_lt y240w264) _), (far_one (far_one c234w270 (Nat.ne_of_lt y241w264) _) (Nat.ne_of_lt y241w264) _), (far_one (far_one c235w270 (Nat.ne_of_lt y241w264) _) (Nat.ne_of_lt y241w264) _), (far_one (far_one c236w270 (Nat.ne_of_lt y241w264) _) (Nat.ne_of_lt y241w264) _), (far_one (far_one c237w270 (Nat.ne_of_lt y241w264) _) (Nat.ne_of_lt y241w264) _), (far_one (far_one c238w270 (Nat.ne_of_lt y241w264) _) (Nat.ne_of_lt y241w264) _), (far_one (far_one c239w270 (Nat.ne_of_lt y241w264) _) (Nat.ne_of_lt y241w264) _), (Below.setCell (Below.setCell hl272 zhl266 _) zhl266 _), (show Below w230.heap.size w230 _ from (Below.setCell (Below.setCell hl272 zhl266 _) zhl266 _)).size⟩ | with_reducible exact ⟨(far_one (far_one c232w270 (Nat.ne_of_lt y240w267) _) (Nat.ne_of_lt y240w267) _), (far_one (far_one c233w270 (Nat.ne_of_lt y240w267) _) (Nat.ne_of_lt y240w267) _), (far_one (far_one c234w270 (Nat.ne_of_lt y241w267) _) (Nat.ne_of_lt y241w267) _), (far_one (far_one c235w270 (Nat.ne_of_lt y241w267) _) (Nat.ne_of_lt y241w267) _), (far_one (far_one c236w270 (Nat.ne_of_lt y241w267) _) (Nat.ne_of_lt y241w267) _), (far_one (far_one c237w270 (Nat.ne_of_lt y241w267) _) (Nat.ne_of_lt y241w267) _), (far_one (far_one c238w270 (Nat.ne_of_lt y241w267) _) (Nat.ne_of_lt y241w267) _), (far_one (far_one c239w270 (Nat.ne_of_lt y241w267) _) (Nat.ne_of_lt y241w267) _), (Below.setCell (Below.setCell hl272 zhl269 _) zhl269 _), (show Below w230.heap.size w230 _ from (Below.setCell (Below.setCell hl272 zhl269 _) zhl269 _)).size⟩ | (refine ⟨?_, ?_, ?_, ?_, ?_, ?_, ?_, ?_, ?_, ?_⟩ <;> first | assumption | (go_keep; done) | (go_grown; done) | (go_size; done) | (simp; omega))) (first
            | (go_at_call 21; (with_reducible refine (toFlow_own A0_0 A0_1 c0_0 c0_1 n0_0 n0_1 z0_0 z0_1 _ (ints_on i0_0 low (by first | assumption | exact low_alloc (by assumption) _ | exact (low_alloc (by assumption) _).drew)) L0_0.out (by omega) (ints_on i0_1 low (by first | assumption | exact low_alloc (by assumption) _ | exact (low_alloc (by assumption) _).drew)) L0_1.out (by omega)).mono ?_); rintro e w264 ⟨X261, X262, rfl, o263, hb265⟩; (have hl266 := below_on hb265 (show Below w230.heap.size w230 _ by first | assumption | exact low_alloc (by assumption) _ | exact (low_alloc (by assumption) _).drew)); (have zhl266 := hl266.size); (have y240w264 := Nat.lt_of_lt_of_le y240 zhl266); (have y241w264 := Nat.lt_of_lt_of_le y241 zhl266); (have c232w264 := cell_on c232 hl266); (have c233w264 := cell_on c233 hl266); (have c234w264 := cell_on c234 hl266); (have c235w264 := cell_on c235 hl266); (have c236w264 := cell_on c236 hl266); (have c237w264 := cell_on c237 hl266); (have c238w264 := cell_on c238 hl266); (have c239w264 := cell_on c239 hl266); (first | (have hp1 := heap_below hp0 hb265; have hq1 := heap_lt hp1) | (have hp1 := heap_below (heap_alloc_new w230 (.cells #[.slice none 0 0, .slice none 0 0] 32)) hb265; have hq1 := heap_lt hp1) | skip))
            | (go_at_call 22; (with_reducible refine (toStmt_any a1_0 a1_1 a1_2 a1_3 a1_4 a1_5 _).mono ?_); rintro e w267 ⟨rfl, hb268⟩; (have hl269 := below_on hb268 (show Below w230.heap.size w230 _ by first | assumption | exact low_alloc (by assumption) _ | exact (low_alloc (by assumption) _).drew)); (have zhl269 := hl269.size); (have y240w267 := Nat.lt_of_lt_of_le y240 zhl269); (have y241w267 := Nat.lt_of_lt_of_le y241 zhl269); (have c232w267 := cell_on c232 hl269); (have c233w267 := cell_on c233 hl269); (have c234w267 := cell_on c234 hl269); (have c235w267 := cell_on c235 hl269); (have c236w267 := cell_on c236 hl269); (have c237w267 := cell_on c237 hl269); (have c238w267 := cell_on c238 hl269); (have c239w267 := cell_on c239 hl269); (replace o263 := o263.below (below_up hb268 (by first | exact Below.refl _ _ | exact below_alloc _ _ | exact (below_alloc _ _).drew | exact (Below.refl _ _).drew))); (first | (have hp2 := heap_below hp1 hb268; have hq2 := heap_lt hp2) | (have hp2 := heap_below (heap_alloc_new w264 (.cells #[.slice none 0 0, .slice none 0 0] 32)) hb268; have hq2 := heap_lt hp2) | skip))
            | (go_at_call 23; (with_reducible refine (ex_impl_FlowStep X261 n0_0 n0_0 z0_0 X262 n0_1 n0_1 z0_1 a1_0 a1_1 a1_2 a1_3 a1_4 a1_5 _ (by first | exact o263.o0.ints | exact Ints.al o263.o0.ints _) L0_0.out (by omega) V0_0.out (by first | exact o263.o1.ints | exact Ints.al o263.o1.ints _) L0_1.out (by omega) V0_1.out).mono ?_); intro e w270 h; (obtain ⟨G250, G253, n251, n254, d252, d255, rfl, o256, hb271⟩ := E.out _ _ _ h); (have hl272 := below_on hb271 (show Below w230.heap.size w230 _ by first | assumption | exact low_alloc (by assumption) _ | exact (low_alloc (by assumption) _).drew)); (have zhl272 := hl272.size); (have yhl272 := hb271.size); (have y240w270 := Nat.lt_of_lt_of_le y240 zhl272); (have y241w270 := Nat.lt_of_lt_of_le y241 zhl272); (have c232w270 := cell_on c232 hl272); (have c233w270 := cell_on c233 hl272); (have c234w270 := cell_on c234 hl272); (have c235w270 := cell_on c235 hl272); (have c236w270 := cell_on c236 hl272); (have c237w270 := cell_on c237 hl272); (have c238w270 := cell_on c238 hl272); (have c239w270 := cell_on c239 hl272); (first | (have hp3 := heap_below hp2 hb271; obtain ⟨zc0, zf0⟩ := blk (i := 0) hp3 rfl; obtain ⟨zc1, zf1⟩ := blk (i := 1) hp3 rfl) | (have hp3 := heap_below (heap_alloc_new w267 (.cells #[.slice none 0 0, .slice none 0 0] 32)) hb271; obtain ⟨zc0, zf0⟩ := blk (i := 0) hp3 rfl; obtain ⟨zc1, zf1⟩ := blk (i := 1) hp3 rfl) | skip)))
          all_goals
            go_wp2_with fail
            go_meet
            first
              | exact ⟨_, _, _, _, _, _, _, _, _, rfl, BxdFlow.last o256 hl272 (by first | assumption | (simp <;> omega))⟩
              | exact ⟨_, _, _, _, _, _, _, _, _, rfl, BxdFlow.early o256 hl272 (by first | assumption | (simp <;> omega)) hp3 (by first | omega | (simp <;> omega)) (by first | omega | (simp <;> omega))⟩
        case rest =>
          clear hp0 r0 r1 r2 c232 c233 c234 c235 c236 c237 c238 c239 y240 y241 r242 r243 r244 r245 r246 r247 r248 r249
          obtain ⟨p257, lo258, hi259, G250, G253, n251, n254, d252, d255, rfl, hN⟩ := hcut
          obtain ⟨w273, rfl⟩ : ∃ w273 : World, w273 = wc := ⟨_, rfl⟩
          have o256 := hN.own
          have bp257 := hN.box
          have qp257 := hN.at_
          have hb := hN.low
          clear hN
          replace b0 := heap_below b0 hb
          replace b1 := heap_below b1 hb
          replace i0_0 := i0_0.below (hb.mono low.size)
          replace i0_1 := i0_1.below (hb.mono low.size)
          replace o45 := o45.below hb
          replace bp46 := heap_below bp46 hb
          replace bp121 := heap_below bp121 hb
          replace o216 := o216.below hb
          replace low := low.trans (hb.mono low.size)
          have q274 := hb.size
          clear hb
          have hl275 := o256.o0.len1
          obtain rfl : n40 = n251 := by rw [← hl275, L64.out]
          clear hl275
          have hl276 := o256.o1.len1
          obtain rfl : n43 = n254 := by rw [← hl276, L65.out]
          clear hl276
          have c278 := (blk (i := 0) b0 rfl).1
          have c279 := (blk (i := 1) b0 rfl).1
          have c280 := (blk (i := 0) b1 rfl).1
          have c281 := (blk (i := 1) b1 rfl).1
          have c282 := (blk (i := 2) b1 rfl).1
          have c283 := (blk (i := 3) b1 rfl).1
          have c284 := (blk (i := 4) b1 rfl).1
          have c285 := (blk (i := 5) b1 rfl).1
          have c286 := (blk (i := 0) bp46 rfl).1
          have c287 := (blk (i := 1) bp46 rfl).1
          have c288 := (blk (i := 0) bp121 rfl).1
          have c289 := (blk (i := 1) bp121 rfl).1
          have c290 := (blk (i := 0) bp257 rfl).1
          have c291 := (blk (i := 1) bp257 rfl).1
          go_wp2_with fail
          refine (eqFlow_same G250 G253 d252 d255 G39 G42 d41 d44 n40 n43 R0 R1 w273 o256.o0.ints o45.o0.ints L64.out (by omega) o256.o1.ints o45.o1.ints L65.out (by omega)).mono ?_
          rintro e w277 ⟨rfl, hb⟩
          replace b0 := heap_below b0 hb
          replace b1 := heap_below b1 hb
          replace i0_0 := i0_0.below (hb.mono low.size)
          replace i0_1 := i0_1.below (hb.mono low.size)
          replace o45 := o45.below hb
          replace bp46 := heap_below bp46 hb
          replace bp121 := heap_below bp121 hb
          replace o216 := o216.below hb
          replace o256 := o256.below hb
          replace bp257 := heap_below bp257 hb
          replace low := low.trans (hb.mono low.size)
          have q292 := hb.size
          clear hb
          clear c278 c279 c280 c281 c282 c283 c284 c285 c286 c287 c288 c289 c290 c291
          have c293 := (blk (i := 0) b0 rfl).1
          have c294 := (blk (i := 1) b0 rfl).1
          have c295 := (blk (i := 0) b1 rfl).1
          have c296 := (blk (i := 1) b1 rfl).1
          have c297 := (blk (i := 2) b1 rfl).1
          have c298 := (blk (i := 3) b1 rfl).1
          have c299 := (blk (i := 4) b1 rfl).1
          have c300 := (blk (i := 5) b1 rfl).1
          have c301 := (blk (i := 0) bp46 rfl).1
          have c302 := (blk (i := 1) bp46 rfl).1
          have c303 := (blk (i := 0) bp121 rfl).1
          have c304 := (blk (i := 1) bp121 rfl).1
          have c305 := (blk (i := 0) bp257 rfl).1
          have c306 := (blk (i := 1) bp257 rfl).1
          go_wp2_with fail
          refine (heldFlow_any (1) G114 G117 d116 d119 n40 n43 w277 o216.o0.ints o216.o1.ints (by omega)).mono ?_
          rintro e w307 ⟨rfl, hb⟩
          replace b0 := heap_below b0 hb
          replace b1 := heap_below b1 hb
          replace i0_0 := i0_0.below (hb.mono low.size)
          replace i0_1 := i0_1.below (hb.mono low.size)
          replace o45 := o45.below hb
          replace bp46 := heap_below bp46 hb
          replace bp121 := heap_below bp121 hb
          replace o216 := o216.below hb
          replace o256 := o256.below hb
          replace bp257 := heap_below bp257 hb
          replace low := low.trans (hb.mono low.size)
          have q308 := hb.size
          clear hb
          clear c293 c294 c295 c296 c297 c298 c299 c300 c301 c302 c303 c304 c305 c306
          have c309 := (blk (i := 0) b0 rfl).1
          have c310 := (blk (i := 1) b0 rfl).1
          have c311 := (blk (i := 0) b1 rfl).1
          have c312 := (blk (i := 1) b1 rfl).1
          have c313 := (blk (i := 2) b1 rfl).1
          have c314 := (blk (i := 3) b1 rfl).1
          have c315 := (blk (i := 4) b1 rfl).1
          have c316 := (blk (i := 5) b1 rfl).1
          have c317 := (blk (i := 0) bp46 rfl).1
          have c318 := (blk (i := 1) bp46 rfl).1
          have c319 := (blk (i := 0) bp121 rfl).1
          have c320 := (blk (i := 1) bp121 rfl).1
          have c321 := (blk (i := 0) bp257 rfl).1
          have c322 := (blk (i := 1) bp257 rfl).1
          go_wp2_with fail
          go_ret
          exact ⟨by first | rfl | simp, low⟩
end Go.Proofs.Ytklmhkckhdmelaa

/- The law FnExactStepState: the walk. -/
import Derived.Test.YtlaidjibcpfnjaaProg
import Derived.Test.YtlaidjibcpfnjaaB1
import Derived.Test.YtlaidjibcpfnjaaB2
import Derived.Test.YtlaidjibcpfnjaaSState
import Derived.Test.YtlaidjibcpfnjaaIntSS
import Derived.Test.YtlaidjibcpfnjaaRunE
namespace Go.Proofs.Ytlaidjibcpfnjaa
open Go Go.RowKit
set_option maxRecDepth 100000 in
set_option maxHeartbeats 2000000 in
theorem FnExactStepState_walk (A0_0 : Option Addr) (n0_0 c0_0 : Nat) (z0_0 : List Int) (A0_1 : Option Addr) (n0_1 c0_1 : Nat) (z0_1 : List Int) (a1_0 : Int) (a1_1 : Int) (a1_2 : Int) (a1_3 : Int) (a1_4 : Int) (a1_5 : Int) (A2 : Option Addr) (n2 c2 : Nat) (z2 : List (List Int)) (w : World) (h0_0 : Ints w A0_0 z0_0) (l0_0 : z0_0.length = n0_0) (m0_0 : n0_0 ≤ 9223372036854775807) (h0_1 : Ints w A0_1 z0_1) (l0_1 : z0_1.length = n0_1) (m0_1 : n0_1 ≤ 9223372036854775807) (_h1_0 : (Lit.int .i64 a1_0).wf = true) (_h1_1 : (Lit.int .i64 a1_1).wf = true) (_h1_2 : (Lit.int .i64 a1_2).wf = true) (_h1_3 : (Lit.int .i64 a1_3).wf = true) (_h1_4 : (Lit.int .i64 a1_4).wf = true) (_h1_5 : (Lit.int .i64 a1_5).wf = true) (h2 : Rows w.heap.size w A2 z2) (l2 : z2.length = n2) (m2 : n2 ≤ 9223372036854775807) (r2 : ∀ r ∈ z2, r.length ≤ 9223372036854775807) :
    Calls Try.prog 10 #[.agg #[.slice A0_0 n0_0 c0_0, .slice A0_1 n0_1 c0_1], .agg #[.int .i64 a1_0, .int .i64 a1_1, .int .i64 a1_2, .int .i64 a1_3, .int .i64 a1_4, .int .i64 a1_5], .slice A2 n2 c2] w fun e w' => e = .returned (.bool true) ∧ Below w.heap.size w w' := by
  have low : Below w.heap.size w ((w.alloc (.cells #[.slice A0_0 n0_0 c0_0, .slice A0_1 n0_1 c0_1] 52)).alloc (.cells #[.int .i64 a1_0, .int .i64 a1_1, .int .i64 a1_2, .int .i64 a1_3, .int .i64 a1_4, .int .i64 a1_5] 59)) := (low_alloc ((low_alloc (Below.refl _ _) _)) _)
  have L0_0 := Lib.hid l0_0
  have i0_0 := h0_0.bound.below low
  have L0_1 := Lib.hid l0_1
  have i0_1 := h0_1.bound.below low
  have L2 := Lib.hid l2
  have i2 := h2.below low
  clear h0_0 l0_0 h0_1 l0_1 h2 l2
  have b0 := new_at w (.cells #[.slice A0_0 n0_0 c0_0, .slice A0_1 n0_1 c0_1] 52) (w.heap.size) (by simp)
  replace b0 := heap_alloc b0 (.cells #[.int .i64 a1_0, .int .i64 a1_1, .int .i64 a1_2, .int .i64 a1_3, .int .i64 a1_4, .int .i64 a1_5] 59)
  have b1 := new_at (w.alloc (.cells #[.slice A0_0 n0_0 c0_0, .slice A0_1 n0_1 c0_1] 52)) (.cells #[.int .i64 a1_0, .int .i64 a1_1, .int .i64 a1_2, .int .i64 a1_3, .int .i64 a1_4, .int .i64 a1_5] 59) (w.heap.size + 1) (by simp)
  go_enter Try.func10, Try.ntmps10
  have c1 := (blk (i := 0) b0 rfl).1
  have c2 := (blk (i := 1) b0 rfl).1
  have c3 := (blk (i := 0) b1 rfl).1
  have c4 := (blk (i := 1) b1 rfl).1
  have c5 := (blk (i := 2) b1 rfl).1
  have c6 := (blk (i := 3) b1 rfl).1
  have c7 := (blk (i := 4) b1 rfl).1
  have c8 := (blk (i := 5) b1 rfl).1
  go_wp2_with fail
  generalize hw0 : ((w.alloc (.cells #[.slice A0_0 n0_0 c0_0, .slice A0_1 n0_1 c0_1] 52)).alloc (.cells #[.int .i64 a1_0, .int .i64 a1_1, .int .i64 a1_2, .int .i64 a1_3, .int .i64 a1_4, .int .i64 a1_5] 59)) = v0 at *
  clear hw0
  have q0 := low.size
  have q00 := heap_lt b0
  have q01 := heap_lt b1
  clear c1 c2 c3 c4 c5 c6 c7 c8
  have c12 := (blk (i := 0) b0 rfl).1
  have c13 := (blk (i := 1) b0 rfl).1
  have c14 := (blk (i := 0) b1 rfl).1
  have c15 := (blk (i := 1) b1 rfl).1
  have c16 := (blk (i := 2) b1 rfl).1
  have c17 := (blk (i := 3) b1 rfl).1
  have c18 := (blk (i := 4) b1 rfl).1
  have c19 := (blk (i := 5) b1 rfl).1
  go_wp2_with fail
  have s9 := szState_any 1048576 A0_0 A0_1 c0_0 c0_1 n0_0 n0_1 v0 (by omega) m0_0 m0_1
  unfold Sized at s9
  by_cases hn0 : n0_0 + n0_1 ≤ 1048576
  case neg =>
    rw [show szRes 1048576 (n0_0 + n0_1) = -1 by rw [szRes, if_neg hn0]] at s9
    refine s9.mono ?_
    rintro e w11 ⟨rfl, hb⟩
    go_wp2_with fail
    go_ret
    exact ⟨rfl, low.trans (hb.mono low.size)⟩
  rw [show szRes 1048576 (n0_0 + n0_1) = ((1048576 - (n0_0 + n0_1) : Nat) : Int) by rw [szRes, if_pos hn0]] at s9
  have mm0_0 : n0_0 ≤ 1048576 := by omega
  have mm0_1 : n0_1 ≤ 1048576 := by omega
  have zf10 : 1048576 - (n0_0 + n0_1) ≤ 1048576 := by omega
  clear hn0 m0_0 m0_1
  generalize 1048576 - (n0_0 + n0_1) = f10 at *
  refine s9.mono ?_
  rintro e w11 ⟨rfl, hb⟩
  clear s9
  replace b0 := heap_below b0 hb
  replace b1 := heap_below b1 hb
  replace i0_0 := i0_0.below (hb.mono low.size)
  replace i0_1 := i0_1.below (hb.mono low.size)
  replace i2 := i2.below (hb.mono low.size)
  replace low := low.trans (hb.mono low.size)
  have q20 := hb.size
  clear hb
  have yf10 : (0 : Int) ≤ f10 := by omega
  clear c12 c13 c14 c15 c16 c17 c18 c19
  have c24 := (blk (i := 0) b0 rfl).1
  have c25 := (blk (i := 1) b0 rfl).1
  have c26 := (blk (i := 0) b1 rfl).1
  have c27 := (blk (i := 1) b1 rfl).1
  have c28 := (blk (i := 2) b1 rfl).1
  have c29 := (blk (i := 3) b1 rfl).1
  have c30 := (blk (i := 4) b1 rfl).1
  have c31 := (blk (i := 5) b1 rfl).1
  go_wp2_with fail
  have s21 := szIntSS_any f10 A2 n2 c2 z2 w11 (i2.ints low.size) L2.out (by omega) m2 r2
  by_cases hn2 : n2 + tot z2 ≤ f10
  case neg =>
    rw [show szRes f10 (n2 + tot z2) = -1 by rw [szRes, if_neg hn2]] at s21
    refine s21.mono ?_
    rintro e w23 ⟨rfl, rfl⟩
    go_wp2_with fail
    go_ret
    exact ⟨rfl, low⟩
  rw [show szRes f10 (n2 + tot z2) = ((f10 - (n2 + tot z2) : Nat) : Int) by rw [szRes, if_pos hn2]] at s21
  have mm2 : n2 ≤ 1048576 := by omega
  have mt2 : tot z2 ≤ 1048576 := by omega
  have zf22 : f10 - (n2 + tot z2) ≤ 1048576 := by omega
  clear hn2 m2 r2
  generalize f10 - (n2 + tot z2) = f22 at *
  refine s21.mono ?_
  rintro e w23 ⟨rfl, rfl⟩
  clear s21
  have yf22 : (0 : Int) ≤ f22 := by omega
  obtain ⟨R0, hR0, bR0⟩ : ∃ r : List Int, stepR z0_0 z0_1 z2 a1_0 a1_1 a1_2 a1_3 a1_4 a1_5 = r ∧ r.length ≤ 1900000 := ⟨_, rfl, by rw [stepR_length, L0_0.out]; omega⟩
  obtain ⟨R1, hR1, bR1⟩ : ∃ r : List Int, stepO z0_0 z0_1 z2 a1_0 a1_1 a1_2 a1_3 a1_4 a1_5 = r ∧ r.length ≤ 1900000 := ⟨_, rfl, by have := stepO_length (rs := z0_0) (os := z0_1) (I := z2) (op := a1_0) (d := a1_1) (a := a1_2) (b := a1_3) (c := a1_4) (n := a1_5); have := L0_1.out; omega⟩
  have E := Lib.hid (show ∀ w e w', Post_State (stepR z0_0 z0_1 z2 a1_0 a1_1 a1_2 a1_3 a1_4 a1_5) (stepO z0_0 z0_1 z2 a1_0 a1_1 a1_2 a1_3 a1_4 a1_5) w e w' → Post_State R0 R1 w e w' from by subst hR0 hR1; intro _ _ _ h; exact h)
  clear hR0 hR1
  clear c24 c25 c26 c27 c28 c29 c30 c31
  have c32 : w11.cell? ⟨w.heap.size, 0, none⟩ = some (.slice A0_0 n0_0 c0_0) := (blk (i := 0) b0 rfl).1
  have c33 : w11.cell? ⟨w.heap.size, 1, none⟩ = some (.slice A0_1 n0_1 c0_1) := (blk (i := 1) b0 rfl).1
  have c34 : w11.cell? ⟨w.heap.size + 1, 0, none⟩ = some (.int .i64 a1_0) := (blk (i := 0) b1 rfl).1
  have c35 : w11.cell? ⟨w.heap.size + 1, 1, none⟩ = some (.int .i64 a1_1) := (blk (i := 1) b1 rfl).1
  have c36 : w11.cell? ⟨w.heap.size + 1, 2, none⟩ = some (.int .i64 a1_2) := (blk (i := 2) b1 rfl).1
  have c37 : w11.cell? ⟨w.heap.size + 1, 3, none⟩ = some (.int .i64 a1_3) := (blk (i := 3) b1 rfl).1
  have c38 : w11.cell? ⟨w.heap.size + 1, 4, none⟩ = some (.int .i64 a1_4) := (blk (i := 4) b1 rfl).1
  have c39 : w11.cell? ⟨w.heap.size + 1, 5, none⟩ = some (.int .i64 a1_5) := (blk (i := 5) b1 rfl).1
  have y40 := heap_lt b0
  have y41 := heap_lt b1
  have hp0 : (w11.alloc (.cells #[.slice none 0 0, .slice none 0 0] 38)).drew.heap[w11.heap.size]? = some (.cells #[.slice none 0 0, .slice none 0 0] 38 (0, 0)) := heap_alloc_new w11 _
  have r0 : Below w11.heap.size w11 w11.drew := (Below.refl _ _).drew
  have r1 : Below w11.heap.size w11 (w11.alloc (.cells #[.slice none 0 0, .slice none 0 0] 38)).drew := (below_alloc _ _).drew
  have r2 := r1.size
  have r42 := cell_on c32 r1
  have r43 := cell_on c33 r1
  have r44 := cell_on c34 r1
  have r45 := cell_on c35 r1
  have r46 := cell_on c36 r1
  have r47 := cell_on c37 r1
  have r48 := cell_on c38 r1
  have r49 := cell_on c39 r1
  go_upto_region 8 with (fail)
  go_cut [8] (fun s wx => ∃ (p57 lo58 hi59 : Nat) (G50 G53 : Option Addr) (n51 n54 d52 d55 : Nat), s = .pointer (some ⟨p57, 0, none⟩) ∧ BxdState w11 wx p57 lo58 hi59 G50 G53 n51 n54 d52 d55 R0 R1)
  case first =>
    go_wp2_with fail
    go_region_held3 (fun w' => w'.cell? ⟨w.heap.size, 0, none⟩ = some (.slice A0_0 n0_0 c0_0) ∧ w'.cell? ⟨w.heap.size, 1, none⟩ = some (.slice A0_1 n0_1 c0_1) ∧ w'.cell? ⟨w.heap.size + 1, 0, none⟩ = some (.int .i64 a1_0) ∧ w'.cell? ⟨w.heap.size + 1, 1, none⟩ = some (.int .i64 a1_1) ∧ w'.cell? ⟨w.heap.size + 1, 2, none⟩ = some (.int .i64 a1_2) ∧ w'.cell? ⟨w.heap.size + 1, 3, none⟩ = some (.int .i64 a1_3) ∧ w'.cell? ⟨w.heap.size + 1, 4, none⟩ = some (.int .i64 a1_4) ∧ w'.cell? ⟨w.heap.size + 1, 5, none⟩ = some (.int .i64 a1_5) ∧ Below w11.heap.size w11 w' ∧ w11.heap.size ≤ w'.heap.size) (first | with_reducible exact ⟨c32, c33, c34, c35, c36, c37, c38, c39, r0, r0.size⟩ | with_reducible exact ⟨r42, r43, r44, r45, r46, r47, r48, r49, r1, r2⟩ | with_reducible exact ⟨c32w64, c33w64, c34w64, c35w64, c36w64, c37w64, c38w64, c39w64, hl66, zhl66⟩ | with_reducible exact ⟨cell_on c32w64 (below_alloc _ _), cell_on c33w64 (below_alloc _ _), cell_on c34w64 (below_alloc _ _), cell_on c35w64 (below_alloc _ _), cell_on c36w64 (below_alloc _ _), cell_on c37w64 (below_alloc _ _), cell_on c38w64 (below_alloc _ _), cell_on c39w64 (below_alloc _ _), low_alloc hl66 _, (low_alloc hl66 _).size⟩ | with_reducible exact ⟨c32w67, c33w67, c34w67, c35w67, c36w67, c37w67, c38w67, c39w67, hl69, zhl69⟩ | with_reducible exact ⟨cell_on c32w67 (below_alloc _ _), cell_on c33w67 (below_alloc _ _), cell_on c34w67 (below_alloc _ _), cell_on c35w67 (below_alloc _ _), cell_on c36w67 (below_alloc _ _), cell_on c37w67 (below_alloc _ _), cell_on c38w67 (below_alloc _ _), cell_on c39w67 (below_alloc _ _), low_alloc hl69 _, (low_alloc hl69 _).size⟩ | with_reducible exact ⟨c32w73, c33w73, c34w73, c35w73, c36w73, c37w73, c38w73, c39w73, hl75, zhl75⟩ | with_reducible exact ⟨cell_on c32w73 (below_alloc _ _), cell_on c33w73 (below_alloc _ _), cell_on c34w73 (below_alloc _ _), cell_on c35w73 (below_alloc _ _), cell_on c36w73 (below_alloc _ _), cell_on c37w73 (below_alloc _ _), cell_on c38w73 (below_alloc _ _), cell_on c39w73 (below_alloc _ _), low_alloc hl75 _, (low_alloc hl75 _).size⟩ | with_reducible exact ⟨c32w76, c33w76, c34w76, c35w76, c36w76, c37w76, c38w76, c39w76, hl78, zhl78⟩ | with_reducible exact ⟨cell_on c32w76 (below_alloc _ _), cell_on c33w76 (below_alloc _ _), cell_on c34w76 (below_alloc _ _), cell_on c35w76 (below_alloc _ _), cell_on c36w76 (below_alloc _ _), cell_on c37w76 (below_alloc _ _), cell_on c38w76 (below_alloc _ _), cell_on c39w76 (below_alloc _ _), low_alloc hl78 _, (low_alloc hl78 _).size⟩ | with_reducible exact ⟨(far_one (far_one c32w76 (Nat.ne_of_lt y40) _) (Nat.ne_of_lt y40) _), (far_one (far_one c33w76 (Nat.ne_of_lt y40) _) (Nat.ne_of_lt y40) _), (far_one (far_one c34w76 (Nat.ne_of_lt y41) _) (Nat.ne_of_lt y41) _), (far_one (far_one c35w76 (Nat.ne_of_lt y41) _) (Nat.ne_of_lt y41) _), (far_one (far_one c36w76 (Nat.ne_of_lt y41) _) (Nat.ne_of_lt y41) _), (far_one (far_one c37w76 (Nat.ne_of_lt y41) _) (Nat.ne_of_lt y41) _), (far_one (far_one c38w76 (Nat.ne_of_lt y41) _) (Nat.ne_of_lt y41) _), (far_one (far_one c39w76 (Nat.ne_of_lt y41) _) (Nat.ne_of_lt y41) _), (Below.setCell (Below.setCell hl78 (Nat.le_refl _) _) (Nat.le_refl _) _), (show Below w11.heap.size w11 _ from (Below.setCell (Below.setCell hl78 (Nat.le_refl _) _) (Nat.le_refl _) _)).size⟩ | with_reducible exact ⟨(far_one (far_one c32w76 (Nat.ne_of_lt y40w64) _) (Nat.ne_of_lt y40w64) _), (far_one (far_one c33w76 (Nat.ne_of_lt y40w64) _) (Nat.ne_of_lt y40w64) _), (far_one (far_one c34w76 (Nat.ne_of_lt y41w64) _) (Nat.ne_of_lt y41w64) _), (far_one (far_one c35w76 (Nat.ne_of_lt y41w64) _) (Nat.ne_of_lt y41w64) _), (far_one (far_one c36w76 (Nat.ne_of_lt y41w64) _) (Nat.ne_of_lt y41w64) _), (far_one (far_one c37w76 (Nat.ne_of_lt y41w64) _) (Nat.ne_of_lt y41w64) _), (far_one (far_one c38w76 (Nat.ne_of_lt y41w64) _) (Nat.ne_of_lt y41w64) _), (far_one (far_one c39w76 (Nat.ne_of_lt y41w64) _) (Nat.ne_of_lt y41w64) _), (Below.setCell (Below.setCell hl78 zhl66 _) zhl66 _), (show Below w11.heap.size w11 _ from (Below.setCell (Below.setCell hl78 zhl66 _) zhl66 _)).size⟩ | with_reducible exact ⟨(far_one (far_one c32w76 (Nat.ne_of_lt y40w67) _) (Nat.ne_of_lt y40w67) _), (far_one (far_one c33w76 (Nat.ne_of_lt y40w67) _) (Nat.ne_of_lt y40w67) _), (far_one (far_one c34w76 (Nat.ne_of_lt y41w67) _) (Nat.ne_of_lt y41w67) _), (far_one (far_one c35w76 (Nat.ne_of_lt y41w67) _) (Nat.ne_of_lt y41w67) _), (far_one (far_one c36w76 (Nat.ne_of_lt y41w67) _) (Nat.ne_of_lt y41w67) _), (far_one (far_one c37w76 (Nat.ne_of_lt y41w67) _) (Nat.ne_of_lt y41w67) _), (far_one (far_one c38w76 (Nat.ne_of_lt y41w67) _) (Nat.ne_of_lt y41w67) _), (far_one (far_one c39w76 (Nat.ne_of_lt y41w67) _) (Nat.ne_of_lt y41w67) _), (Below.setCell (Below.setCell hl78 zhl69 _) zhl69 _), (show Below w11.heap.size w11 _ from (Below.setCell (Below.setCell hl78 zhl69 _) zhl69 _)).size⟩ | with_reducible exact ⟨(far_one (far_one c32w76 (Nat.ne_of_lt y40w73) _) (Nat.ne_of_lt y40w73) _), (far_one (far_one c33w76 (Nat.ne_of_lt y40w73) _) (Nat.ne_of_lt y40w73) _), (far_one (far_one c34w76 (Nat.ne_of_lt y41w73) _) (Nat.ne_of_lt y41w73) _), (far_one (far_one c35w76 (Nat.ne_of_lt y41w73) _) (Nat.ne_of_lt y41w73) _), (far_one (far_one c36w76 (Nat.ne_of_lt y41w73) _) (Nat.ne_of_lt y41w73) _), (far_one (far_one c37w76 (Nat.ne_of_lt y41w73) _) (Nat.ne_of_lt y41w73) _), (far_one (far_one c38w76 (Nat.ne_of_lt y41w73) _) (Nat.ne_of_lt y41w73) _), (far_one (far_one c39w76 (Nat.ne_of_lt y41w73) _) (Nat.ne_of_lt y41w73) _), (Below.setCell (Below.setCell hl78 zhl75 _) zhl75 _), (show Below w11.heap.size w11 _ from (Below.setCell (Below.setCell hl78 zhl75 _) zhl75 _)).size⟩ | (refine ⟨?_, ?_, ?_, ?_, ?_, ?_, ?_, ?_, ?_, ?_⟩ <;> first | assumption | (go_keep; done) | (go_grown; done) | (go_size; done) | (simp; omega))) (first
      | (go_at_call 35; (with_reducible refine (toState_own A0_0 A0_1 c0_0 c0_1 n0_0 n0_1 z0_0 z0_1 _ (ints_on i0_0 low (by first | assumption | exact low_alloc (by assumption) _ | exact (low_alloc (by assumption) _).drew)) L0_0.out (by omega) (ints_on i0_1 low (by first | assumption | exact low_alloc (by assumption) _ | exact (low_alloc (by assumption) _).drew)) L0_1.out (by omega)).mono ?_); rintro e w64 ⟨X61, X62, rfl, o63, hb65⟩; (have hl66 := below_on hb65 (show Below w11.heap.size w11 _ by first | assumption | exact low_alloc (by assumption) _ | exact (low_alloc (by assumption) _).drew)); (have zhl66 := hl66.size); (have y40w64 := Nat.lt_of_lt_of_le y40 zhl66); (have y41w64 := Nat.lt_of_lt_of_le y41 zhl66); (have c32w64 := cell_on c32 hl66); (have c33w64 := cell_on c33 hl66); (have c34w64 := cell_on c34 hl66); (have c35w64 := cell_on c35 hl66); (have c36w64 := cell_on c36 hl66); (have c37w64 := cell_on c37 hl66); (have c38w64 := cell_on c38 hl66); (have c39w64 := cell_on c39 hl66); (first | (have hp1 := heap_below hp0 hb65; have hq1 := heap_lt hp1) | (have hp1 := heap_below (heap_alloc_new w11 (.cells #[.slice none 0 0, .slice none 0 0] 38)) hb65; have hq1 := heap_lt hp1) | skip))
      | (go_at_call 41; (with_reducible refine (toStmt_any a1_0 a1_1 a1_2 a1_3 a1_4 a1_5 _).mono ?_); rintro e w67 ⟨rfl, hb68⟩; (have hl69 := below_on hb68 (show Below w11.heap.size w11 _ by first | assumption | exact low_alloc (by assumption) _ | exact (low_alloc (by assumption) _).drew)); (have zhl69 := hl69.size); (have y40w67 := Nat.lt_of_lt_of_le y40 zhl69); (have y41w67 := Nat.lt_of_lt_of_le y41 zhl69); (have c32w67 := cell_on c32 hl69); (have c33w67 := cell_on c33 hl69); (have c34w67 := cell_on c34 hl69); (have c35w67 := cell_on c35 hl69); (have c36w67 := cell_on c36 hl69); (have c37w67 := cell_on c37 hl69); (have c38w67 := cell_on c38 hl69); (have c39w67 := cell_on c39 hl69); (replace o63 := o63.below (below_up hb68 (by first | exact Below.refl _ _ | exact below_alloc _ _ | exact (below_alloc _ _).drew | exact (Below.refl _ _).drew))); (first | (have hp2 := heap_below hp1 hb68; have hq2 := heap_lt hp2) | (have hp2 := heap_below (heap_alloc_new w64 (.cells #[.slice none 0 0, .slice none 0 0] 38)) hb68; have hq2 := heap_lt hp2) | skip))
      | (go_at_call 38; (with_reducible refine (toIntSS_own A2 n2 c2 z2 _ (rows_on i2 low (by first | assumption | exact low_alloc (by assumption) _ | exact (low_alloc (by assumption) _).drew)) L2.out (by omega) (by omega)).mono ?_); rintro e w73 ⟨X70, U71, rfl, o72, hb74⟩; (have hl75 := below_on hb74 (show Below w11.heap.size w11 _ by first | assumption | exact low_alloc (by assumption) _ | exact (low_alloc (by assumption) _).drew)); (have zhl75 := hl75.size); (have y40w73 := Nat.lt_of_lt_of_le y40 zhl75); (have y41w73 := Nat.lt_of_lt_of_le y41 zhl75); (have c32w73 := cell_on c32 hl75); (have c33w73 := cell_on c33 hl75); (have c34w73 := cell_on c34 hl75); (have c35w73 := cell_on c35 hl75); (have c36w73 := cell_on c36 hl75); (have c37w73 := cell_on c37 hl75); (have c38w73 := cell_on c38 hl75); (have c39w73 := cell_on c39 hl75); (replace o63 := o63.below (below_up hb74 (by first | exact Below.refl _ _ | exact below_alloc _ _ | exact (below_alloc _ _).drew | exact (Below.refl _ _).drew))); (first | (have hp3 := heap_below hp2 hb74; have hq3 := heap_lt hp3) | (have hp3 := heap_below (heap_alloc_new w67 (.cells #[.slice none 0 0, .slice none 0 0] 38)) hb74; have hq3 := heap_lt hp3) | skip))
      | (go_at_call 40; (with_reducible refine (ex_spec_StepState X61 n0_0 n0_0 z0_0 X62 n0_1 n0_1 z0_1 a1_0 a1_1 a1_2 a1_3 a1_4 a1_5 X70 n2 n2 z2 _ (by first | exact o63.o0.ints | exact Ints.al o63.o0.ints _) L0_0.out (by omega) (by first | exact o63.o1.ints | exact Ints.al o63.o1.ints _) L0_1.out (by omega) (by first | exact o72.ints | exact Rows.al o72.ints _) L2.out (by omega)).mono ?_); intro e w76 h; (obtain ⟨G50, G53, n51, n54, d52, d55, rfl, o56, hb77⟩ := E.out _ _ _ h); (have hl78 := below_on hb77 (show Below w11.heap.size w11 _ by first | assumption | exact low_alloc (by assumption) _ | exact (low_alloc (by assumption) _).drew)); (have zhl78 := hl78.size); (have yhl78 := hb77.size); (have y40w76 := Nat.lt_of_lt_of_le y40 zhl78); (have y41w76 := Nat.lt_of_lt_of_le y41 zhl78); (have c32w76 := cell_on c32 hl78); (have c33w76 := cell_on c33 hl78); (have c34w76 := cell_on c34 hl78); (have c35w76 := cell_on c35 hl78); (have c36w76 := cell_on c36 hl78); (have c37w76 := cell_on c37 hl78); (have c38w76 := cell_on c38 hl78); (have c39w76 := cell_on c39 hl78); (first | (have hp4 := heap_below hp3 hb77; obtain ⟨zc0, zf0⟩ := blk (i := 0) hp4 rfl; obtain ⟨zc1, zf1⟩ := blk (i := 1) hp4 rfl) | (have hp4 := heap_below (heap_alloc_new w73 (.cells #[.slice none 0 0, .slice none 0 0] 38)) hb77; obtain ⟨zc0, zf0⟩ := blk (i := 0) hp4 rfl; obtain ⟨zc1, zf1⟩ := blk (i := 1) hp4 rfl) | skip)))
    all_goals
      go_wp2_with fail
      go_meet
      first
        | exact ⟨_, _, _, _, _, _, _, _, _, rfl, BxdState.last o56 hl78 (by first | assumption | (simp <;> omega))⟩
        | exact ⟨_, _, _, _, _, _, _, _, _, rfl, BxdState.early o56 hl78 (by first | assumption | (simp <;> omega)) hp4 (by first | omega | (simp <;> omega)) (by first | omega | (simp <;> omega))⟩
  case rest =>
    clear hp0 r0 r1 r2 c32 c33 c34 c35 c36 c37 c38 c39 y40 y41 r42 r43 r44 r45 r46 r47 r48 r49
    obtain ⟨p57, lo58, hi59, G50, G53, n51, n54, d52, d55, rfl, hN⟩ := hcut
    obtain ⟨w79, rfl⟩ : ∃ w79 : World, w79 = wc := ⟨_, rfl⟩
    have o56 := hN.own
    have bp57 := hN.box
    have qp57 := hN.at_
    have hb := hN.low
    clear hN
    replace b0 := heap_below b0 hb
    replace b1 := heap_below b1 hb
    replace i0_0 := i0_0.below (hb.mono low.size)
    replace i0_1 := i0_1.below (hb.mono low.size)
    replace i2 := i2.below (hb.mono low.size)
    replace low := low.trans (hb.mono low.size)
    have q80 := hb.size
    clear hb
    have L81 := Lib.hid (o56.o0.len1)
    have bnL81 : n51 ≤ 1900000 := by rw [← L81.out]; exact bR0
    have L82 := Lib.hid (o56.o1.len1)
    have bnL82 : n54 ≤ 1900000 := by rw [← L82.out]; exact bR1
    have c86 := (blk (i := 0) b0 rfl).1
    have c87 := (blk (i := 1) b0 rfl).1
    have c88 := (blk (i := 0) b1 rfl).1
    have c89 := (blk (i := 1) b1 rfl).1
    have c90 := (blk (i := 2) b1 rfl).1
    have c91 := (blk (i := 3) b1 rfl).1
    have c92 := (blk (i := 4) b1 rfl).1
    have c93 := (blk (i := 5) b1 rfl).1
    have c94 := (blk (i := 0) bp57 rfl).1
    have c95 := (blk (i := 1) bp57 rfl).1
    go_wp2_with fail
    refine (toState_own A0_0 A0_1 c0_0 c0_1 n0_0 n0_1 z0_0 z0_1 w79 (i0_0.ints low.size) L0_0.out (by omega) (i0_1.ints low.size) L0_1.out (by omega)).mono ?_
    rintro e w96 ⟨X83, X84, rfl, o85, hb⟩
    replace b0 := heap_below b0 hb
    replace b1 := heap_below b1 hb
    replace i0_0 := i0_0.below (hb.mono low.size)
    replace i0_1 := i0_1.below (hb.mono low.size)
    replace i2 := i2.below (hb.mono low.size)
    replace o56 := o56.below hb
    replace bp57 := heap_below bp57 hb
    replace low := low.trans (hb.mono low.size)
    have q97 := hb.size
    clear hb
    replace b0 := heap_alloc b0 (.cells #[.slice X83 n0_0 n0_0, .slice X84 n0_1 n0_1] 38)
    replace b1 := heap_alloc b1 (.cells #[.slice X83 n0_0 n0_0, .slice X84 n0_1 n0_1] 38)
    replace i0_0 := i0_0.below ((below_alloc _ (.cells #[.slice X83 n0_0 n0_0, .slice X84 n0_1 n0_1] 38)).mono low.size)
    replace i0_1 := i0_1.below ((below_alloc _ (.cells #[.slice X83 n0_0 n0_0, .slice X84 n0_1 n0_1] 38)).mono low.size)
    replace i2 := i2.below ((below_alloc _ (.cells #[.slice X83 n0_0 n0_0, .slice X84 n0_1 n0_1] 38)).mono low.size)
    replace o56 := o56.alloc (.cells #[.slice X83 n0_0 n0_0, .slice X84 n0_1 n0_1] 38)
    replace bp57 := heap_alloc bp57 (.cells #[.slice X83 n0_0 n0_0, .slice X84 n0_1 n0_1] 38)
    replace o85 := o85.alloc (.cells #[.slice X83 n0_0 n0_0, .slice X84 n0_1 n0_1] 38)
    replace low := low_alloc low (.cells #[.slice X83 n0_0 n0_0, .slice X84 n0_1 n0_1] 38)
    have b98 := heap_alloc_new w96 (.cells #[.slice X83 n0_0 n0_0, .slice X84 n0_1 n0_1] 38)
    have q99 := heap_lt b98
    clear c86 c87 c88 c89 c90 c91 c92 c93 c94 c95
    have c100 := (blk (i := 0) b0 rfl).1
    have c101 := (blk (i := 1) b0 rfl).1
    have c102 := (blk (i := 0) b1 rfl).1
    have c103 := (blk (i := 1) b1 rfl).1
    have c104 := (blk (i := 2) b1 rfl).1
    have c105 := (blk (i := 3) b1 rfl).1
    have c106 := (blk (i := 4) b1 rfl).1
    have c107 := (blk (i := 5) b1 rfl).1
    have c108 := (blk (i := 0) bp57 rfl).1
    have c109 := (blk (i := 1) bp57 rfl).1
    have c110 := (blk (i := 0) b98 rfl).1
    have c111 := (blk (i := 1) b98 rfl).1
    go_wp2_with fail
    generalize hg : (w96.alloc (.cells #[.slice X83 n0_0 n0_0, .slice X84 n0_1 n0_1] 38)) = w112 at *
    clear hg
    clear c100 c101 c102 c103 c104 c105 c106 c107 c108 c109 c110 c111
    have c116 := (blk (i := 0) b0 rfl).1
    have c117 := (blk (i := 1) b0 rfl).1
    have c118 := (blk (i := 0) b1 rfl).1
    have c119 := (blk (i := 1) b1 rfl).1
    have c120 := (blk (i := 2) b1 rfl).1
    have c121 := (blk (i := 3) b1 rfl).1
    have c122 := (blk (i := 4) b1 rfl).1
    have c123 := (blk (i := 5) b1 rfl).1
    have c124 := (blk (i := 0) bp57 rfl).1
    have c125 := (blk (i := 1) bp57 rfl).1
    have c126 := (blk (i := 0) b98 rfl).1
    have c127 := (blk (i := 1) b98 rfl).1
    go_wp2_with fail
    refine (toIntSS_own A2 n2 c2 z2 w112 (i2.ints low.size) L2.out (by omega) (by omega)).mono ?_
    rintro e w128 ⟨X113, U114, rfl, o115, hb⟩
    replace b0 := heap_below b0 hb
    replace b1 := heap_below b1 hb
    replace i0_0 := i0_0.below (hb.mono low.size)
    replace i0_1 := i0_1.below (hb.mono low.size)
    replace i2 := i2.below (hb.mono low.size)
    replace o56 := o56.below hb
    replace bp57 := heap_below bp57 hb
    replace o85 := o85.below hb
    replace b98 := heap_below b98 hb
    replace low := low.trans (hb.mono low.size)
    have q129 := hb.size
    clear hb
    clear c116 c117 c118 c119 c120 c121 c122 c123 c124 c125 c126 c127
    have c130 : w128.cell? ⟨w96.heap.size, 0, none⟩ = some (.slice X83 n0_0 n0_0) := (blk (i := 0) b98 rfl).1
    have c131 : w128.cell? ⟨w96.heap.size, 1, none⟩ = some (.slice X84 n0_1 n0_1) := (blk (i := 1) b98 rfl).1
    have c132 : w128.cell? ⟨w.heap.size + 1, 0, none⟩ = some (.int .i64 a1_0) := (blk (i := 0) b1 rfl).1
    have c133 : w128.cell? ⟨w.heap.size + 1, 1, none⟩ = some (.int .i64 a1_1) := (blk (i := 1) b1 rfl).1
    have c134 : w128.cell? ⟨w.heap.size + 1, 2, none⟩ = some (.int .i64 a1_2) := (blk (i := 2) b1 rfl).1
    have c135 : w128.cell? ⟨w.heap.size + 1, 3, none⟩ = some (.int .i64 a1_3) := (blk (i := 3) b1 rfl).1
    have c136 : w128.cell? ⟨w.heap.size + 1, 4, none⟩ = some (.int .i64 a1_4) := (blk (i := 4) b1 rfl).1
    have c137 : w128.cell? ⟨w.heap.size + 1, 5, none⟩ = some (.int .i64 a1_5) := (blk (i := 5) b1 rfl).1
    have y138 := heap_lt b98
    have y139 := heap_lt b1
    have hp0 : (w128.alloc (.cells #[.slice none 0 0, .slice none 0 0] 38)).drew.heap[w128.heap.size]? = some (.cells #[.slice none 0 0, .slice none 0 0] 38 (0, 0)) := heap_alloc_new w128 _
    have r0 : Below w128.heap.size w128 w128.drew := (Below.refl _ _).drew
    have r1 : Below w128.heap.size w128 (w128.alloc (.cells #[.slice none 0 0, .slice none 0 0] 38)).drew := (below_alloc _ _).drew
    have r2 := r1.size
    have r140 := cell_on c130 r1
    have r141 := cell_on c131 r1
    have r142 := cell_on c132 r1
    have r143 := cell_on c133 r1
    have r144 := cell_on c134 r1
    have r145 := cell_on c135 r1
    have r146 := cell_on c136 r1
    have r147 := cell_on c137 r1
    go_upto_region 11 with (fail)
    go_cut [11] (fun s wx => ∃ (p155 lo156 hi157 : Nat) (G148 G151 : Option Addr) (n149 n152 d150 d153 : Nat), s = .pointer (some ⟨p155, 0, none⟩) ∧ BxdState w128 wx p155 lo156 hi157 G148 G151 n149 n152 d150 d153 R0 R1)
    case first =>
      go_wp2_with fail
      go_region_held3 (fun w' => w'.cell? ⟨w96.heap.size, 0, none⟩ = some (.slice X83 n0_0 n0_0) ∧ w'.cell? ⟨w96.heap.size, 1, none⟩ = some (.slice X84 n0_1 n0_1) ∧ w'.cell? ⟨w.heap.size + 1, 0, none⟩ = some (.int .i64 a1_0) ∧ w'.cell? ⟨w.heap.size + 1, 1, none⟩ = some (.int .i64 a1_1) ∧ w'.cell? ⟨w.heap.size + 1, 2, none⟩ = some (.int .i64 a1_2) ∧ w'.cell? ⟨w.heap.size + 1, 3, none⟩ = some (.int .i64 a1_3) ∧ w'.cell? ⟨w.heap.size + 1, 4, none⟩ = some (.int .i64 a1_4) ∧ w'.cell? ⟨w.heap.size + 1, 5, none⟩ = some (.int .i64 a1_5) ∧ Below w128.heap.size w128 w' ∧ w128.heap.size ≤ w'.heap.size) (first | with_reducible exact ⟨c130, c131, c132, c133, c134, c135, c136, c137, r0, r0.size⟩ | with_reducible exact ⟨r140, r141, r142, r143, r144, r145, r146, r147, r1, r2⟩ | with_reducible exact ⟨c130w159, c131w159, c132w159, c133w159, c134w159, c135w159, c136w159, c137w159, hl161, zhl161⟩ | with_reducible exact ⟨cell_on c130w159 (below_alloc _ _), cell_on c131w159 (below_alloc _ _), cell_on c132w159 (below_alloc _ _), cell_on c133w159 (below_alloc _ _), cell_on c134w159 (below_alloc _ _), cell_on c135w159 (below_alloc _ _), cell_on c136w159 (below_alloc _ _), cell_on c137w159 (below_alloc _ _), low_alloc hl161 _, (low_alloc hl161 _).size⟩ | with_reducible exact ⟨c130w162, c131w162, c132w162, c133w162, c134w162, c135w162, c136w162, c137w162, hl164, zhl164⟩ | with_reducible exact ⟨cell_on c130w162 (below_alloc _ _), cell_on c131w162 (below_alloc _ _), cell_on c132w162 (below_alloc _ _), cell_on c133w162 (below_alloc _ _), cell_on c134w162 (below_alloc _ _), cell_on c135w162 (below_alloc _ _), cell_on c136w162 (below_alloc _ _), cell_on c137w162 (below_alloc _ _), low_alloc hl164 _, (low_alloc hl164 _).size⟩ | with_reducible exact ⟨(far_one (far_one c130w162 (Nat.ne_of_lt y138) _) (Nat.ne_of_lt y138) _), (far_one (far_one c131w162 (Nat.ne_of_lt y138) _) (Nat.ne_of_lt y138) _), (far_one (far_one c132w162 (Nat.ne_of_lt y139) _) (Nat.ne_of_lt y139) _), (far_one (far_one c133w162 (Nat.ne_of_lt y139) _) (Nat.ne_of_lt y139) _), (far_one (far_one c134w162 (Nat.ne_of_lt y139) _) (Nat.ne_of_lt y139) _), (far_one (far_one c135w162 (Nat.ne_of_lt y139) _) (Nat.ne_of_lt y139) _), (far_one (far_one c136w162 (Nat.ne_of_lt y139) _) (Nat.ne_of_lt y139) _), (far_one (far_one c137w162 (Nat.ne_of_lt y139) _) (Nat.ne_of_lt y139) _), (Below.setCell (Below.setCell hl164 (Nat.le_refl _) _) (Nat.le_refl _) _), (show Below w128.heap.size w128 _ from (Below.setCell (Below.setCell hl164 (Nat.le_refl _) _) (Nat.le_refl _) _)).size⟩ | with_reducible exact ⟨(far_one (far_one c130w162 (Nat.ne_of_lt y138w159) _) (Nat.ne_of_lt y138w159) _), (far_one (far_one c131w162 (Nat.ne_of_lt y138w159) _) (Nat.ne_of_lt y138w159) _), (far_one (far_one c132w162 (Nat.ne_of_lt y139w159) _) (Nat.ne_of_lt y139w159) _), (far_one (far_one c133w162 (Nat.ne_of_lt y139w159) _) (Nat.ne_of_lt y139w159) _), (far_one (far_one c134w162 (Nat.ne_of_lt y139w159) _) (Nat.ne_of_lt y139w159) _), (far_one (far_one c135w162 (Nat.ne_of_lt y139w159) _) (Nat.ne_of_lt y139w159) _), (far_one (far_one c136w162 (Nat.ne_of_lt y139w159) _) (Nat.ne_of_lt y139w159) _), (far_one (far_one c137w162 (Nat.ne_of_lt y139w159) _) (Nat.ne_of_lt y139w159) _), (Below.setCell (Below.setCell hl164 zhl161 _) zhl161 _), (show Below w128.heap.size w128 _ from (Below.setCell (Below.setCell hl164 zhl161 _) zhl161 _)).size⟩ | (refine ⟨?_, ?_, ?_, ?_, ?_, ?_, ?_, ?_, ?_, ?_⟩ <;> first | assumption | (go_keep; done) | (go_grown; done) | (go_size; done) | (simp; omega))) (first
        | (go_at_call 41; (with_reducible refine (toStmt_any a1_0 a1_1 a1_2 a1_3 a1_4 a1_5 _).mono ?_); rintro e w159 ⟨rfl, hb160⟩; (have hl161 := below_on hb160 (show Below w128.heap.size w128 _ by first | assumption | exact low_alloc (by assumption) _ | exact (low_alloc (by assumption) _).drew)); (have zhl161 := hl161.size); (have y138w159 := Nat.lt_of_lt_of_le y138 zhl161); (have y139w159 := Nat.lt_of_lt_of_le y139 zhl161); (have c130w159 := cell_on c130 hl161); (have c131w159 := cell_on c131 hl161); (have c132w159 := cell_on c132 hl161); (have c133w159 := cell_on c133 hl161); (have c134w159 := cell_on c134 hl161); (have c135w159 := cell_on c135 hl161); (have c136w159 := cell_on c136 hl161); (have c137w159 := cell_on c137 hl161); (first | (have hp1 := heap_below hp0 hb160; have hq1 := heap_lt hp1) | (have hp1 := heap_below (heap_alloc_new w128 (.cells #[.slice none 0 0, .slice none 0 0] 38)) hb160; have hq1 := heap_lt hp1) | skip))
        | (go_at_call 22; (with_reducible refine (ex_impl_StepState X83 n0_0 n0_0 z0_0 X84 n0_1 n0_1 z0_1 a1_0 a1_1 a1_2 a1_3 a1_4 a1_5 X113 n2 n2 z2 _ (ints_to o85.o0.ints (by first | assumption | exact low_alloc (by assumption) _ | exact (low_alloc (by assumption) _).drew)) L0_0.out (by omega) (ints_to o85.o1.ints (by first | assumption | exact low_alloc (by assumption) _ | exact (low_alloc (by assumption) _).drew)) L0_1.out (by omega) (rows_to o115.ints (by first | assumption | exact low_alloc (by assumption) _ | exact (low_alloc (by assumption) _).drew)) L2.out (by omega)).mono ?_); intro e w162 h; (obtain ⟨G148, G151, n149, n152, d150, d153, rfl, o154, hb163⟩ := E.out _ _ _ h); (have hl164 := below_on hb163 (show Below w128.heap.size w128 _ by first | assumption | exact low_alloc (by assumption) _ | exact (low_alloc (by assumption) _).drew)); (have zhl164 := hl164.size); (have yhl164 := hb163.size); (have y138w162 := Nat.lt_of_lt_of_le y138 zhl164); (have y139w162 := Nat.lt_of_lt_of_le y139 zhl164); (have c130w162 := cell_on c130 hl164); (have c131w162 := cell_on c131 hl164); (have c132w162 := cell_on c132 hl164); (have c133w162 := cell_on c133 hl164); (have c134w162 := cell_on c134 hl164); (have c135w162 := cell_on c135 hl164); (have c136w162 := cell_on c136 hl164); (have c137w162 := cell_on c137 hl164); (first | (have hp2 := heap_below hp1 hb163; obtain ⟨zc0, zf0⟩ := blk (i := 0) hp2 rfl; obtain ⟨zc1, zf1⟩ := blk (i := 1) hp2 rfl) | (have hp2 := heap_below (heap_alloc_new w159 (.cells #[.slice none 0 0, .slice none 0 0] 38)) hb163; obtain ⟨zc0, zf0⟩ := blk (i := 0) hp2 rfl; obtain ⟨zc1, zf1⟩ := blk (i := 1) hp2 rfl) | skip)))
      all_goals
        go_wp2_with fail
        go_meet
        first
          | exact ⟨_, _, _, _, _, _, _, _, _, rfl, BxdState.last o154 hl164 (by first | assumption | (simp <;> omega))⟩
          | exact ⟨_, _, _, _, _, _, _, _, _, rfl, BxdState.early o154 hl164 (by first | assumption | (simp <;> omega)) hp2 (by first | omega | (simp <;> omega)) (by first | omega | (simp <;> omega))⟩
    case rest =>
      clear hp0 r0 r1 r2 c130 c131 c132 c133 c134 c135 c136 c137 y138 y139 r140 r141 r142 r143 r144 r145 r146 r147
      obtain ⟨p155, lo156, hi157, G148, G151, n149, n152, d150, d153, rfl, hN⟩ := hcut
      obtain ⟨w165, rfl⟩ : ∃ w165 : World, w165 = wc := ⟨_, rfl⟩
      have o154 := hN.own
      have bp155 := hN.box
      have qp155 := hN.at_
      have hb := hN.low
      clear hN
      replace b0 := heap_below b0 hb
      replace b1 := heap_below b1 hb
      replace i0_0 := i0_0.below (hb.mono low.size)
      replace i0_1 := i0_1.below (hb.mono low.size)
      replace i2 := i2.below (hb.mono low.size)
      replace o56 := o56.below hb
      replace bp57 := heap_below bp57 hb
      replace o85 := o85.below hb
      replace b98 := heap_below b98 hb
      replace o115 := o115.below hb
      replace low := low.trans (hb.mono low.size)
      have q166 := hb.size
      clear hb
      have hl167 := o154.o0.len1
      obtain rfl : n51 = n149 := by rw [← hl167, L81.out]
      clear hl167
      have hl168 := o154.o1.len1
      obtain rfl : n54 = n152 := by rw [← hl168, L82.out]
      clear hl168
      have c170 := (blk (i := 0) b0 rfl).1
      have c171 := (blk (i := 1) b0 rfl).1
      have c172 := (blk (i := 0) b1 rfl).1
      have c173 := (blk (i := 1) b1 rfl).1
      have c174 := (blk (i := 2) b1 rfl).1
      have c175 := (blk (i := 3) b1 rfl).1
      have c176 := (blk (i := 4) b1 rfl).1
      have c177 := (blk (i := 5) b1 rfl).1
      have c178 := (blk (i := 0) bp57 rfl).1
      have c179 := (blk (i := 1) bp57 rfl).1
      have c180 := (blk (i := 0) b98 rfl).1
      have c181 := (blk (i := 1) b98 rfl).1
      have c182 := (blk (i := 0) bp155 rfl).1
      have c183 := (blk (i := 1) bp155 rfl).1
      go_wp2_with fail
      refine (eqState_same G148 G151 d150 d153 G50 G53 d52 d55 n51 n54 R0 R1 w165 o154.o0.ints o56.o0.ints L81.out (by omega) o154.o1.ints o56.o1.ints L82.out (by omega)).mono ?_
      rintro e w169 ⟨rfl, hb⟩
      replace b0 := heap_below b0 hb
      replace b1 := heap_below b1 hb
      replace i0_0 := i0_0.below (hb.mono low.size)
      replace i0_1 := i0_1.below (hb.mono low.size)
      replace i2 := i2.below (hb.mono low.size)
      replace o56 := o56.below hb
      replace bp57 := heap_below bp57 hb
      replace o85 := o85.below hb
      replace b98 := heap_below b98 hb
      replace o115 := o115.below hb
      replace o154 := o154.below hb
      replace bp155 := heap_below bp155 hb
      replace low := low.trans (hb.mono low.size)
      have q184 := hb.size
      clear hb
      clear c170 c171 c172 c173 c174 c175 c176 c177 c178 c179 c180 c181 c182 c183
      have c188 := (blk (i := 0) b0 rfl).1
      have c189 := (blk (i := 1) b0 rfl).1
      have c190 := (blk (i := 0) b1 rfl).1
      have c191 := (blk (i := 1) b1 rfl).1
      have c192 := (blk (i := 2) b1 rfl).1
      have c193 := (blk (i := 3) b1 rfl).1
      have c194 := (blk (i := 4) b1 rfl).1
      have c195 := (blk (i := 5) b1 rfl).1
      have c196 := (blk (i := 0) bp57 rfl).1
      have c197 := (blk (i := 1) bp57 rfl).1
      have c198 := (blk (i := 0) b98 rfl).1
      have c199 := (blk (i := 1) b98 rfl).1
      have c200 := (blk (i := 0) bp155 rfl).1
      have c201 := (blk (i := 1) bp155 rfl).1
      go_upto_region 14 with (fail)
      go_cut [50] (fun s wx => s = .bool false ∧ Below w169.heap.size w169 wx)
      case first =>
        have lowd := low.drew
        have o85d := o85.drew
        go_wp2_with fail
        go_region_law (first
          | (go_simp; go_at_call 35; (with_reducible refine (toState_own A0_0 A0_1 c0_0 c0_1 n0_0 n0_1 z0_0 z0_1 _ ((ints_drew i0_0 low)) L0_0.out (by omega) ((ints_drew i0_1 low)) L0_1.out (by omega)).mono ?_); rintro e w202 ⟨X185, X186, rfl, o187, hb1⟩; (have ox := o85d.below hb1); (have bx0 := heap_below (w := w169.drew) b98 hb1); (have cx00 := (blk (i := 0) bx0 rfl).1); (have cx01 := (blk (i := 1) bx0 rfl).1))
          | (go_simp; go_at_call 30; (with_reducible refine (eqState_same X83 X84 n0_0 n0_1 X185 X186 n0_0 n0_1 n0_0 n0_1 z0_0 z0_1 _ ox.o0.ints o187.o0.ints L0_0.out (by omega) ox.o1.ints o187.o1.ints L0_1.out (by omega)).mono ?_); rintro e w203 ⟨rfl, hb2⟩))
        all_goals
          have hb := ((Below.refl w169.heap.size w169).drew.trans hb1).trans (hb2.mono (by have := hb1.size; exact this))
          go_wp2_with fail
          go_meet
          exact ⟨rfl, hb⟩
      case rest =>
        clear c188 c189 c190 c191 c192 c193 c194 c195 c196 c197 c198 c199 c200 c201
        obtain ⟨rfl, hb⟩ := hcut
        obtain ⟨w204, rfl⟩ : ∃ w204 : World, w204 = wc := ⟨_, rfl⟩
        replace b0 := heap_below b0 hb
        replace b1 := heap_below b1 hb
        replace i0_0 := i0_0.below (hb.mono low.size)
        replace i0_1 := i0_1.below (hb.mono low.size)
        replace i2 := i2.below (hb.mono low.size)
        replace o56 := o56.below hb
        replace bp57 := heap_below bp57 hb
        replace o85 := o85.below hb
        replace b98 := heap_below b98 hb
        replace o115 := o115.below hb
        replace o154 := o154.below hb
        replace bp155 := heap_below bp155 hb
        replace low := low.trans (hb.mono low.size)
        have q205 := hb.size
        clear hb
        have c209 := (blk (i := 0) b0 rfl).1
        have c210 := (blk (i := 1) b0 rfl).1
        have c211 := (blk (i := 0) b1 rfl).1
        have c212 := (blk (i := 1) b1 rfl).1
        have c213 := (blk (i := 2) b1 rfl).1
        have c214 := (blk (i := 3) b1 rfl).1
        have c215 := (blk (i := 4) b1 rfl).1
        have c216 := (blk (i := 5) b1 rfl).1
        have c217 := (blk (i := 0) bp57 rfl).1
        have c218 := (blk (i := 1) bp57 rfl).1
        have c219 := (blk (i := 0) b98 rfl).1
        have c220 := (blk (i := 1) b98 rfl).1
        have c221 := (blk (i := 0) bp155 rfl).1
        have c222 := (blk (i := 1) bp155 rfl).1
        go_wp2_with fail
        refine (toIntSS_own A2 n2 c2 z2 w204 (i2.ints low.size) L2.out (by omega) (by omega)).mono ?_
        rintro e w223 ⟨X206, U207, rfl, o208, hb⟩
        replace b0 := heap_below b0 hb
        replace b1 := heap_below b1 hb
        replace i0_0 := i0_0.below (hb.mono low.size)
        replace i0_1 := i0_1.below (hb.mono low.size)
        replace i2 := i2.below (hb.mono low.size)
        replace o56 := o56.below hb
        replace bp57 := heap_below bp57 hb
        replace o85 := o85.below hb
        replace b98 := heap_below b98 hb
        replace o115 := o115.below hb
        replace o154 := o154.below hb
        replace bp155 := heap_below bp155 hb
        replace low := low.trans (hb.mono low.size)
        have q224 := hb.size
        clear hb
        clear c209 c210 c211 c212 c213 c214 c215 c216 c217 c218 c219 c220 c221 c222
        have c226 := (blk (i := 0) b0 rfl).1
        have c227 := (blk (i := 1) b0 rfl).1
        have c228 := (blk (i := 0) b1 rfl).1
        have c229 := (blk (i := 1) b1 rfl).1
        have c230 := (blk (i := 2) b1 rfl).1
        have c231 := (blk (i := 3) b1 rfl).1
        have c232 := (blk (i := 4) b1 rfl).1
        have c233 := (blk (i := 5) b1 rfl).1
        have c234 := (blk (i := 0) bp57 rfl).1
        have c235 := (blk (i := 1) bp57 rfl).1
        have c236 := (blk (i := 0) b98 rfl).1
        have c237 := (blk (i := 1) b98 rfl).1
        have c238 := (blk (i := 0) bp155 rfl).1
        have c239 := (blk (i := 1) bp155 rfl).1
        go_wp2_with fail
        refine (eqIntSS_same X113 X206 n2 n2 n2 z2 w223 o115.ints o208.ints L2.out (by omega) (by omega)).mono ?_
        rintro e w225 ⟨rfl, hb⟩
        replace b0 := heap_below b0 hb
        replace b1 := heap_below b1 hb
        replace i0_0 := i0_0.below (hb.mono low.size)
        replace i0_1 := i0_1.below (hb.mono low.size)
        replace i2 := i2.below (hb.mono low.size)
        replace o56 := o56.below hb
        replace bp57 := heap_below bp57 hb
        replace o85 := o85.below hb
        replace b98 := heap_below b98 hb
        replace o115 := o115.below hb
        replace o154 := o154.below hb
        replace bp155 := heap_below bp155 hb
        replace o208 := o208.below hb
        replace low := low.trans (hb.mono low.size)
        have q240 := hb.size
        clear hb
        clear o208
        clear c226 c227 c228 c229 c230 c231 c232 c233 c234 c235 c236 c237 c238 c239
        have c242 := (blk (i := 0) b0 rfl).1
        have c243 := (blk (i := 1) b0 rfl).1
        have c244 := (blk (i := 0) b1 rfl).1
        have c245 := (blk (i := 1) b1 rfl).1
        have c246 := (blk (i := 2) b1 rfl).1
        have c247 := (blk (i := 3) b1 rfl).1
        have c248 := (blk (i := 4) b1 rfl).1
        have c249 := (blk (i := 5) b1 rfl).1
        have c250 := (blk (i := 0) bp57 rfl).1
        have c251 := (blk (i := 1) bp57 rfl).1
        have c252 := (blk (i := 0) b98 rfl).1
        have c253 := (blk (i := 1) b98 rfl).1
        have c254 := (blk (i := 0) bp155 rfl).1
        have c255 := (blk (i := 1) bp155 rfl).1
        go_wp2_with fail
        refine (markState_own w79.heap.size (w96.heap.size) (1) X83 X84 n0_0 n0_1 n0_0 n0_1 z0_0 z0_1 w225 o85 (by omega) (by omega)).mono ?_
        rintro e w241 ⟨rfl, o256, mg⟩
        clear o85
        replace b0 := mg.heap b0 (by omega)
        replace b1 := mg.heap b1 (by omega)
        replace i0_0 := i0_0.mid mg (by omega) low.size
        replace i0_1 := i0_1.mid mg (by omega) low.size
        replace i2 := i2.mid mg (by omega) low.size
        replace o56 := o56.mid mg (by omega)
        replace bp57 := mg.heap bp57 (by omega)
        replace b98 := mg.heap b98 (by omega)
        replace o115 := o115.mid mg (by omega)
        replace o154 := o154.mid mg (by omega)
        replace bp155 := mg.heap bp155 (by omega)
        replace low := mg.below low (by omega) low.size
        have q257 := mg.size
        clear mg
        clear o256
        clear b98
        clear c242 c243 c244 c245 c246 c247 c248 c249 c250 c251 c252 c253 c254 c255
        have c259 := (blk (i := 0) b0 rfl).1
        have c260 := (blk (i := 1) b0 rfl).1
        have c261 := (blk (i := 0) b1 rfl).1
        have c262 := (blk (i := 1) b1 rfl).1
        have c263 := (blk (i := 2) b1 rfl).1
        have c264 := (blk (i := 3) b1 rfl).1
        have c265 := (blk (i := 4) b1 rfl).1
        have c266 := (blk (i := 5) b1 rfl).1
        have c267 := (blk (i := 0) bp57 rfl).1
        have c268 := (blk (i := 1) bp57 rfl).1
        have c269 := (blk (i := 0) bp155 rfl).1
        have c270 := (blk (i := 1) bp155 rfl).1
        go_wp2_with fail
        refine (markIntSS_own w112.heap.size w128.heap.size n2 (1 + n0_0 + n0_1) _ U114 z2 w241 o115 (by omega) (by omega)).mono ?_
        rintro e w258 ⟨rfl, ⟨Y272, o271, _⟩, mg⟩
        clear o115
        replace b0 := mg.heap b0 (by omega)
        replace b1 := mg.heap b1 (by omega)
        replace i0_0 := i0_0.mid mg (by omega) low.size
        replace i0_1 := i0_1.mid mg (by omega) low.size
        replace i2 := i2.mid mg (by omega) low.size
        replace o56 := o56.mid mg (by omega)
        replace bp57 := mg.heap bp57 (by omega)
        replace o154 := o154.mid mg (by omega)
        replace bp155 := mg.heap bp155 (by omega)
        replace low := mg.below low (by omega) low.size
        have q273 := mg.size
        clear mg
        clear o271
        clear c259 c260 c261 c262 c263 c264 c265 c266 c267 c268 c269 c270
        have c275 := (blk (i := 0) b0 rfl).1
        have c276 := (blk (i := 1) b0 rfl).1
        have c277 := (blk (i := 0) b1 rfl).1
        have c278 := (blk (i := 1) b1 rfl).1
        have c279 := (blk (i := 2) b1 rfl).1
        have c280 := (blk (i := 3) b1 rfl).1
        have c281 := (blk (i := 4) b1 rfl).1
        have c282 := (blk (i := 5) b1 rfl).1
        have c283 := (blk (i := 0) bp57 rfl).1
        have c284 := (blk (i := 1) bp57 rfl).1
        have c285 := (blk (i := 0) bp155 rfl).1
        have c286 := (blk (i := 1) bp155 rfl).1
        go_wp2_with fail
        refine (eqState_same G148 G151 d150 d153 G50 G53 d52 d55 n51 n54 R0 R1 w258 o154.o0.ints o56.o0.ints L81.out (by omega) o154.o1.ints o56.o1.ints L82.out (by omega)).mono ?_
        rintro e w274 ⟨rfl, hb⟩
        replace b0 := heap_below b0 hb
        replace b1 := heap_below b1 hb
        replace i0_0 := i0_0.below (hb.mono low.size)
        replace i0_1 := i0_1.below (hb.mono low.size)
        replace i2 := i2.below (hb.mono low.size)
        replace o56 := o56.below hb
        replace bp57 := heap_below bp57 hb
        replace o154 := o154.below hb
        replace bp155 := heap_below bp155 hb
        replace low := low.trans (hb.mono low.size)
        have q287 := hb.size
        clear hb
        clear c275 c276 c277 c278 c279 c280 c281 c282 c283 c284 c285 c286
        have c289 := (blk (i := 0) b0 rfl).1
        have c290 := (blk (i := 1) b0 rfl).1
        have c291 := (blk (i := 0) b1 rfl).1
        have c292 := (blk (i := 1) b1 rfl).1
        have c293 := (blk (i := 2) b1 rfl).1
        have c294 := (blk (i := 3) b1 rfl).1
        have c295 := (blk (i := 4) b1 rfl).1
        have c296 := (blk (i := 5) b1 rfl).1
        have c297 := (blk (i := 0) bp57 rfl).1
        have c298 := (blk (i := 1) bp57 rfl).1
        have c299 := (blk (i := 0) bp155 rfl).1
        have c300 := (blk (i := 1) bp155 rfl).1
        go_wp2_with fail
        refine (markState_own lo156 (hi157) (1) G148 G151 d150 d153 n51 n54 R0 R1 w274 o154 (by omega) (by omega)).mono ?_
        rintro e w288 ⟨rfl, o301, mg⟩
        clear o154
        replace b0 := mg.heap b0 (by omega)
        replace b1 := mg.heap b1 (by omega)
        replace i0_0 := i0_0.mid mg (by omega) low.size
        replace i0_1 := i0_1.mid mg (by omega) low.size
        replace i2 := i2.mid mg (by omega) low.size
        replace o56 := o56.mid mg (by omega)
        replace bp57 := mg.heap bp57 (by omega)
        replace bp155 := mg.heap bp155 (by omega)
        replace low := mg.below low (by omega) low.size
        have q302 := mg.size
        clear mg
        clear c289 c290 c291 c292 c293 c294 c295 c296 c297 c298 c299 c300
        have c303 := (blk (i := 0) b0 rfl).1
        have c304 := (blk (i := 1) b0 rfl).1
        have c305 := (blk (i := 0) b1 rfl).1
        have c306 := (blk (i := 1) b1 rfl).1
        have c307 := (blk (i := 2) b1 rfl).1
        have c308 := (blk (i := 3) b1 rfl).1
        have c309 := (blk (i := 4) b1 rfl).1
        have c310 := (blk (i := 5) b1 rfl).1
        have c311 := (blk (i := 0) bp57 rfl).1
        have c312 := (blk (i := 1) bp57 rfl).1
        have c313 := (blk (i := 0) bp155 rfl).1
        have c314 := (blk (i := 1) bp155 rfl).1
        go_wp2_with fail
        refine (heldState_any (1) G148 G151 d150 d153 n51 n54 w288 o301.o0.ints o301.o1.ints (by omega)).mono ?_
        rintro e w315 ⟨rfl, hb⟩
        replace b0 := heap_below b0 hb
        replace b1 := heap_below b1 hb
        replace i0_0 := i0_0.below (hb.mono low.size)
        replace i0_1 := i0_1.below (hb.mono low.size)
        replace i2 := i2.below (hb.mono low.size)
        replace o56 := o56.below hb
        replace bp57 := heap_below bp57 hb
        replace bp155 := heap_below bp155 hb
        replace o301 := o301.below hb
        replace low := low.trans (hb.mono low.size)
        have q316 := hb.size
        clear hb
        clear c303 c304 c305 c306 c307 c308 c309 c310 c311 c312 c313 c314
        have c317 : w315.cell? ⟨w.heap.size, 0, none⟩ = some (.slice A0_0 n0_0 c0_0) := (blk (i := 0) b0 rfl).1
        have c318 : w315.cell? ⟨w.heap.size, 1, none⟩ = some (.slice A0_1 n0_1 c0_1) := (blk (i := 1) b0 rfl).1
        have c319 : w315.cell? ⟨w.heap.size + 1, 0, none⟩ = some (.int .i64 a1_0) := (blk (i := 0) b1 rfl).1
        have c320 : w315.cell? ⟨w.heap.size + 1, 1, none⟩ = some (.int .i64 a1_1) := (blk (i := 1) b1 rfl).1
        have c321 : w315.cell? ⟨w.heap.size + 1, 2, none⟩ = some (.int .i64 a1_2) := (blk (i := 2) b1 rfl).1
        have c322 : w315.cell? ⟨w.heap.size + 1, 3, none⟩ = some (.int .i64 a1_3) := (blk (i := 3) b1 rfl).1
        have c323 : w315.cell? ⟨w.heap.size + 1, 4, none⟩ = some (.int .i64 a1_4) := (blk (i := 4) b1 rfl).1
        have c324 : w315.cell? ⟨w.heap.size + 1, 5, none⟩ = some (.int .i64 a1_5) := (blk (i := 5) b1 rfl).1
        have y325 := heap_lt b0
        have y326 := heap_lt b1
        have hp0 : (w315.alloc (.cells #[.slice none 0 0, .slice none 0 0] 38)).drew.heap[w315.heap.size]? = some (.cells #[.slice none 0 0, .slice none 0 0] 38 (0, 0)) := heap_alloc_new w315 _
        have r0 : Below w315.heap.size w315 w315.drew := (Below.refl _ _).drew
        have r1 : Below w315.heap.size w315 (w315.alloc (.cells #[.slice none 0 0, .slice none 0 0] 38)).drew := (below_alloc _ _).drew
        have r2 := r1.size
        have r327 := cell_on c317 r1
        have r328 := cell_on c318 r1
        have r329 := cell_on c319 r1
        have r330 := cell_on c320 r1
        have r331 := cell_on c321 r1
        have r332 := cell_on c322 r1
        have r333 := cell_on c323 r1
        have r334 := cell_on c324 r1
        go_upto_region 31 with (fail)
        go_cut [15] (fun s wx => ∃ (p342 lo343 hi344 : Nat) (G335 G338 : Option Addr) (n336 n339 d337 d340 : Nat), s = .pointer (some ⟨p342, 0, none⟩) ∧ BxdState w315 wx p342 lo343 hi344 G335 G338 n336 n339 d337 d340 R0 R1)
        case first =>
          go_wp2_with fail
          go_region_held3 (fun w' => w'.cell? ⟨w.heap.size, 0, none⟩ = some (.slice A0_0 n0_0 c0_0) ∧ w'.cell? ⟨w.heap.size, 1, none⟩ = some (.slice A0_1 n0_1 c0_1) ∧ w'.cell? ⟨w.heap.size + 1, 0, none⟩ = some (.int .i64 a1_0) ∧ w'.cell? ⟨w.heap.size + 1, 1, none⟩ = some (.int .i64 a1_1) ∧ w'.cell? ⟨w.heap.size + 1, 2, none⟩ = some (.int .i64 a1_2) ∧ w'.cell? ⟨w.heap.size + 1, 3, none⟩ = some (.int .i64 a1_3) ∧ w'.cell? ⟨w.heap.size + 1, 4, none⟩ = some (.int .i64 a1_4) ∧ w'.cell? ⟨w.heap.size + 1, 5, none⟩ = some (.int .i64 a1_5) ∧ Below w315.heap.size w315 w' ∧ w315.heap.size ≤ w'.heap.size) (first | with_reducible exact ⟨c317, c318, c319, c320, c321, c322, c323, c324, r0, r0.size⟩ | with_reducible exact ⟨r327, r328, r329, r330, r331, r332, r333, r334, r1, r2⟩ | with_reducible exact ⟨c317w349, c318w349, c319w349, c320w349, c321w349, c322w349, c323w349, c324w349, hl351, zhl351⟩ | with_reducible exact ⟨cell_on c317w349 (below_alloc _ _), cell_on c318w349 (below_alloc _ _), cell_on c319w349 (below_alloc _ _), cell_on c320w349 (below_alloc _ _), cell_on c321w349 (below_alloc _ _), cell_on c322w349 (below_alloc _ _), cell_on c323w349 (below_alloc _ _), cell_on c324w349 (below_alloc _ _), low_alloc hl351 _, (low_alloc hl351 _).size⟩ | with_reducible exact ⟨c317w352, c318w352, c319w352, c320w352, c321w352, c322w352, c323w352, c324w352, hl354, zhl354⟩ | with_reducible exact ⟨cell_on c317w352 (below_alloc _ _), cell_on c318w352 (below_alloc _ _), cell_on c319w352 (below_alloc _ _), cell_on c320w352 (below_alloc _ _), cell_on c321w352 (below_alloc _ _), cell_on c322w352 (below_alloc _ _), cell_on c323w352 (below_alloc _ _), cell_on c324w352 (below_alloc _ _), low_alloc hl354 _, (low_alloc hl354 _).size⟩ | with_reducible exact ⟨c317w358, c318w358, c319w358, c320w358, c321w358, c322w358, c323w358, c324w358, hl360, zhl360⟩ | with_reducible exact ⟨cell_on c317w358 (below_alloc _ _), cell_on c318w358 (below_alloc _ _), cell_on c319w358 (below_alloc _ _), cell_on c320w358 (below_alloc _ _), cell_on c321w358 (below_alloc _ _), cell_on c322w358 (below_alloc _ _), cell_on c323w358 (below_alloc _ _), cell_on c324w358 (below_alloc _ _), low_alloc hl360 _, (low_alloc hl360 _).size⟩ | with_reducible exact ⟨c317w361, c318w361, c319w361, c320w361, c321w361, c322w361, c323w361, c324w361, hl363, zhl363⟩ | with_reducible exact ⟨cell_on c317w361 (below_alloc _ _), cell_on c318w361 (below_alloc _ _), cell_on c319w361 (below_alloc _ _), cell_on c320w361 (below_alloc _ _), cell_on c321w361 (below_alloc _ _), cell_on c322w361 (below_alloc _ _), cell_on c323w361 (below_alloc _ _), cell_on c324w361 (below_alloc _ _), low_alloc hl363 _, (low_alloc hl363 _).size⟩ | with_reducible exact ⟨(far_one (far_one c317w361 (Nat.ne_of_lt y325) _) (Nat.ne_of_lt y325) _), (far_one (far_one c318w361 (Nat.ne_of_lt y325) _) (Nat.ne_of_lt y325) _), (far_one (far_one c319w361 (Nat.ne_of_lt y326) _) (Nat.ne_of_lt y326) _), (far_one (far_one c320w361 (Nat.ne_of_lt y326) _) (Nat.ne_of_lt y326) _), (far_one (far_one c321w361 (Nat.ne_of_lt y326) _) (Nat.ne_of_lt y326) _), (far_one (far_one c322w361 (Nat.ne_of_lt y326) _) (Nat.ne_of_lt y326) _), (far_one (far_one c323w361 (Nat.ne_of_lt y326) _) (Nat.ne_of_lt y326) _), (far_one (far_one c324w361 (Nat.ne_of_lt y326) _) (Nat.ne_of_lt y326) _), (Below.setCell (Below.setCell hl363 (Nat.le_refl _) _) (Nat.le_refl _) _), (show Below w315.heap.size w315 _ from (Below.setCell (Below.setCell hl363 (Nat.le_refl _) _) (Nat.le_refl _) _)).size⟩ | with_reducible exact ⟨(far_one (far_one c317w361 (Nat.ne_of_lt y325w349) _) (Nat.ne_of_lt y325w349) _), (far_one (far_one c318w361 (Nat.ne_of_lt y325w349) _) (Nat.ne_of_lt y325w349) _), (far_one (far_one c319w361 (Nat.ne_of_lt y326w349) _) (Nat.ne_of_lt y326w349) _), (far_one (far_one c320w361 (Nat.ne_of_lt y326w349) _) (Nat.ne_of_lt y326w349) _), (far_one (far_one c321w361 (Nat.ne_of_lt y326w349) _) (Nat.ne_of_lt y326w349) _), (far_one (far_one c322w361 (Nat.ne_of_lt y326w349) _) (Nat.ne_of_lt y326w349) _), (far_one (far_one c323w361 (Nat.ne_of_lt y326w349) _) (Nat.ne_of_lt y326w349) _), (far_one (far_one c324w361 (Nat.ne_of_lt y326w349) _) (Nat.ne_of_lt y326w349) _), (Below.setCell (Below.setCell hl363 zhl351 _) zhl351 _), (show Below w315.heap.size w315 _ from (Below.setCell (Below.setCell hl363 zhl351 _) zhl351 _)).size⟩ | with_reducible exact ⟨(far_one (far_one c317w361 (Nat.ne_of_lt y325w352) _) (Nat.ne_of_lt y325w352) _), (far_one (far_one c318w361 (Nat.ne_of_lt y325w352) _) (Nat.ne_of_lt y325w352) _), (far_one (far_one c319w361 (Nat.ne_of_lt y326w352) _) (Nat.ne_of_lt y326w352) _), (far_one (far_one c320w361 (Nat.ne_of_lt y326w352) _) (Nat.ne_of_lt y326w352) _), (far_one (far_one c321w361 (Nat.ne_of_lt y326w352) _) (Nat.ne_of_lt y326w352) _), (far_one (far_one c322w361 (Nat.ne_of_lt y326w352) _) (Nat.ne_of_lt y326w352) _), (far_one (far_one c323w361 (Nat.ne_of_lt y326w352) _) (Nat.ne_of_lt y326w352) _), (far_one (far_one c324w361 (Nat.ne_of_lt y326w352) _) (Nat.ne_of_lt y326w352) _), (Below.setCell (Below.setCell hl363 zhl354 _) zhl354 _), (show Below w315.heap.size w315 _ from (Below.setCell (Below.setCell hl363 zhl354 _) zhl354 _)).size⟩ | with_reducible exact ⟨(far_one (far_one c317w361 (Nat.ne_of_lt y325w358) _) (Nat.ne_of_lt y325w358) _), (far_one (far_one c318w361 (Nat.ne_of_lt y325w358) _) (Nat.ne_of_lt y325w358) _), (far_one (far_one c319w361 (Nat.ne_of_lt y326w358) _) (Nat.ne_of_lt y326w358) _), (far_one (far_one c320w361 (Nat.ne_of_lt y326w358) _) (Nat.ne_of_lt y326w358) _), (far_one (far_one c321w361 (Nat.ne_of_lt y326w358) _) (Nat.ne_of_lt y326w358) _), (far_one (far_one c322w361 (Nat.ne_of_lt y326w358) _) (Nat.ne_of_lt y326w358) _), (far_one (far_one c323w361 (Nat.ne_of_lt y326w358) _) (Nat.ne_of_lt y326w358) _), (far_one (far_one c324w361 (Nat.ne_of_lt y326w358) _) (Nat.ne_of_lt y326w358) _), (Below.setCell (Below.setCell hl363 zhl360 _) zhl360 _), (show Below w315.heap.size w315 _ from (Below.setCell (Below.setCell hl363 zhl360 _) zhl360 _)).size⟩ | (refine ⟨?_, ?_, ?_, ?_, ?_, ?_, ?_, ?_, ?_, ?_⟩ <;> first | assumption | (go_keep; done) | (go_grown; done) | (go_size; done) | (simp; omega))) (first
            | (go_at_call 35; (with_reducible refine (toState_own A0_0 A0_1 c0_0 c0_1 n0_0 n0_1 z0_0 z0_1 _ (ints_on i0_0 low (by first | assumption | exact low_alloc (by assumption) _ | exact (low_alloc (by assumption) _).drew)) L0_0.out (by omega) (ints_on i0_1 low (by first | assumption | exact low_alloc (by assumption) _ | exact (low_alloc (by assumption) _).drew)) L0_1.out (by omega)).mono ?_); rintro e w349 ⟨X346, X347, rfl, o348, hb350⟩; (have hl351 := below_on hb350 (show Below w315.heap.size w315 _ by first | assumption | exact low_alloc (by assumption) _ | exact (low_alloc (by assumption) _).drew)); (have zhl351 := hl351.size); (have y325w349 := Nat.lt_of_lt_of_le y325 zhl351); (have y326w349 := Nat.lt_of_lt_of_le y326 zhl351); (have c317w349 := cell_on c317 hl351); (have c318w349 := cell_on c318 hl351); (have c319w349 := cell_on c319 hl351); (have c320w349 := cell_on c320 hl351); (have c321w349 := cell_on c321 hl351); (have c322w349 := cell_on c322 hl351); (have c323w349 := cell_on c323 hl351); (have c324w349 := cell_on c324 hl351); (first | (have hp1 := heap_below hp0 hb350; have hq1 := heap_lt hp1) | (have hp1 := heap_below (heap_alloc_new w315 (.cells #[.slice none 0 0, .slice none 0 0] 38)) hb350; have hq1 := heap_lt hp1) | skip))
            | (go_at_call 41; (with_reducible refine (toStmt_any a1_0 a1_1 a1_2 a1_3 a1_4 a1_5 _).mono ?_); rintro e w352 ⟨rfl, hb353⟩; (have hl354 := below_on hb353 (show Below w315.heap.size w315 _ by first | assumption | exact low_alloc (by assumption) _ | exact (low_alloc (by assumption) _).drew)); (have zhl354 := hl354.size); (have y325w352 := Nat.lt_of_lt_of_le y325 zhl354); (have y326w352 := Nat.lt_of_lt_of_le y326 zhl354); (have c317w352 := cell_on c317 hl354); (have c318w352 := cell_on c318 hl354); (have c319w352 := cell_on c319 hl354); (have c320w352 := cell_on c320 hl354); (have c321w352 := cell_on c321 hl354); (have c322w352 := cell_on c322 hl354); (have c323w352 := cell_on c323 hl354); (have c324w352 := cell_on c324 hl354); (replace o348 := o348.below (below_up hb353 (by first | exact Below.refl _ _ | exact below_alloc _ _ | exact (below_alloc _ _).drew | exact (Below.refl _ _).drew))); (first | (have hp2 := heap_below hp1 hb353; have hq2 := heap_lt hp2) | (have hp2 := heap_below (heap_alloc_new w349 (.cells #[.slice none 0 0, .slice none 0 0] 38)) hb353; have hq2 := heap_lt hp2) | skip))
            | (go_at_call 38; (with_reducible refine (toIntSS_own A2 n2 c2 z2 _ (rows_on i2 low (by first | assumption | exact low_alloc (by assumption) _ | exact (low_alloc (by assumption) _).drew)) L2.out (by omega) (by omega)).mono ?_); rintro e w358 ⟨X355, U356, rfl, o357, hb359⟩; (have hl360 := below_on hb359 (show Below w315.heap.size w315 _ by first | assumption | exact low_alloc (by assumption) _ | exact (low_alloc (by assumption) _).drew)); (have zhl360 := hl360.size); (have y325w358 := Nat.lt_of_lt_of_le y325 zhl360); (have y326w358 := Nat.lt_of_lt_of_le y326 zhl360); (have c317w358 := cell_on c317 hl360); (have c318w358 := cell_on c318 hl360); (have c319w358 := cell_on c319 hl360); (have c320w358 := cell_on c320 hl360); (have c321w358 := cell_on c321 hl360); (have c322w358 := cell_on c322 hl360); (have c323w358 := cell_on c323 hl360); (have c324w358 := cell_on c324 hl360); (replace o348 := o348.below (below_up hb359 (by first | exact Below.refl _ _ | exact below_alloc _ _ | exact (below_alloc _ _).drew | exact (Below.refl _ _).drew))); (first | (have hp3 := heap_below hp2 hb359; have hq3 := heap_lt hp3) | (have hp3 := heap_below (heap_alloc_new w352 (.cells #[.slice none 0 0, .slice none 0 0] 38)) hb359; have hq3 := heap_lt hp3) | skip))
            | (go_at_call 22; (with_reducible refine (ex_impl_StepState X346 n0_0 n0_0 z0_0 X347 n0_1 n0_1 z0_1 a1_0 a1_1 a1_2 a1_3 a1_4 a1_5 X355 n2 n2 z2 _ (by first | exact o348.o0.ints | exact Ints.al o348.o0.ints _) L0_0.out (by omega) (by first | exact o348.o1.ints | exact Ints.al o348.o1.ints _) L0_1.out (by omega) (by first | exact o357.ints | exact Rows.al o357.ints _) L2.out (by omega)).mono ?_); intro e w361 h; (obtain ⟨G335, G338, n336, n339, d337, d340, rfl, o341, hb362⟩ := E.out _ _ _ h); (have hl363 := below_on hb362 (show Below w315.heap.size w315 _ by first | assumption | exact low_alloc (by assumption) _ | exact (low_alloc (by assumption) _).drew)); (have zhl363 := hl363.size); (have yhl363 := hb362.size); (have y325w361 := Nat.lt_of_lt_of_le y325 zhl363); (have y326w361 := Nat.lt_of_lt_of_le y326 zhl363); (have c317w361 := cell_on c317 hl363); (have c318w361 := cell_on c318 hl363); (have c319w361 := cell_on c319 hl363); (have c320w361 := cell_on c320 hl363); (have c321w361 := cell_on c321 hl363); (have c322w361 := cell_on c322 hl363); (have c323w361 := cell_on c323 hl363); (have c324w361 := cell_on c324 hl363); (first | (have hp4 := heap_below hp3 hb362; obtain ⟨zc0, zf0⟩ := blk (i := 0) hp4 rfl; obtain ⟨zc1, zf1⟩ := blk (i := 1) hp4 rfl) | (have hp4 := heap_below (heap_alloc_new w358 (.cells #[.slice none 0 0, .slice none 0 0] 38)) hb362; obtain ⟨zc0, zf0⟩ := blk (i := 0) hp4 rfl; obtain ⟨zc1, zf1⟩ := blk (i := 1) hp4 rfl) | skip)))
          all_goals
            go_wp2_with fail
            go_meet
            first
              | exact ⟨_, _, _, _, _, _, _, _, _, rfl, BxdState.last o341 hl363 (by first | assumption | (simp <;> omega))⟩
              | exact ⟨_, _, _, _, _, _, _, _, _, rfl, BxdState.early o341 hl363 (by first | assumption | (simp <;> omega)) hp4 (by first | omega | (simp <;> omega)) (by first | omega | (simp <;> omega))⟩
        case rest =>
          clear hp0 r0 r1 r2 c317 c318 c319 c320 c321 c322 c323 c324 y325 y326 r327 r328 r329 r330 r331 r332 r333 r334
          obtain ⟨p342, lo343, hi344, G335, G338, n336, n339, d337, d340, rfl, hN⟩ := hcut
          obtain ⟨w364, rfl⟩ : ∃ w364 : World, w364 = wc := ⟨_, rfl⟩
          have o341 := hN.own
          have bp342 := hN.box
          have qp342 := hN.at_
          have hb := hN.low
          clear hN
          replace b0 := heap_below b0 hb
          replace b1 := heap_below b1 hb
          replace i0_0 := i0_0.below (hb.mono low.size)
          replace i0_1 := i0_1.below (hb.mono low.size)
          replace i2 := i2.below (hb.mono low.size)
          replace o56 := o56.below hb
          replace bp57 := heap_below bp57 hb
          replace bp155 := heap_below bp155 hb
          replace o301 := o301.below hb
          replace low := low.trans (hb.mono low.size)
          have q365 := hb.size
          clear hb
          have hl366 := o341.o0.len1
          obtain rfl : n51 = n336 := by rw [← hl366, L81.out]
          clear hl366
          have hl367 := o341.o1.len1
          obtain rfl : n54 = n339 := by rw [← hl367, L82.out]
          clear hl367
          have c369 := (blk (i := 0) b0 rfl).1
          have c370 := (blk (i := 1) b0 rfl).1
          have c371 := (blk (i := 0) b1 rfl).1
          have c372 := (blk (i := 1) b1 rfl).1
          have c373 := (blk (i := 2) b1 rfl).1
          have c374 := (blk (i := 3) b1 rfl).1
          have c375 := (blk (i := 4) b1 rfl).1
          have c376 := (blk (i := 5) b1 rfl).1
          have c377 := (blk (i := 0) bp57 rfl).1
          have c378 := (blk (i := 1) bp57 rfl).1
          have c379 := (blk (i := 0) bp155 rfl).1
          have c380 := (blk (i := 1) bp155 rfl).1
          have c381 := (blk (i := 0) bp342 rfl).1
          have c382 := (blk (i := 1) bp342 rfl).1
          go_wp2_with fail
          refine (eqState_same G335 G338 d337 d340 G50 G53 d52 d55 n51 n54 R0 R1 w364 o341.o0.ints o56.o0.ints L81.out (by omega) o341.o1.ints o56.o1.ints L82.out (by omega)).mono ?_
          rintro e w368 ⟨rfl, hb⟩
          replace b0 := heap_below b0 hb
          replace b1 := heap_below b1 hb
          replace i0_0 := i0_0.below (hb.mono low.size)
          replace i0_1 := i0_1.below (hb.mono low.size)
          replace i2 := i2.below (hb.mono low.size)
          replace o56 := o56.below hb
          replace bp57 := heap_below bp57 hb
          replace bp155 := heap_below bp155 hb
          replace o301 := o301.below hb
          replace o341 := o341.below hb
          replace bp342 := heap_below bp342 hb
          replace low := low.trans (hb.mono low.size)
          have q383 := hb.size
          clear hb
          clear c369 c370 c371 c372 c373 c374 c375 c376 c377 c378 c379 c380 c381 c382
          have c384 := (blk (i := 0) b0 rfl).1
          have c385 := (blk (i := 1) b0 rfl).1
          have c386 := (blk (i := 0) b1 rfl).1
          have c387 := (blk (i := 1) b1 rfl).1
          have c388 := (blk (i := 2) b1 rfl).1
          have c389 := (blk (i := 3) b1 rfl).1
          have c390 := (blk (i := 4) b1 rfl).1
          have c391 := (blk (i := 5) b1 rfl).1
          have c392 := (blk (i := 0) bp57 rfl).1
          have c393 := (blk (i := 1) bp57 rfl).1
          have c394 := (blk (i := 0) bp155 rfl).1
          have c395 := (blk (i := 1) bp155 rfl).1
          have c396 := (blk (i := 0) bp342 rfl).1
          have c397 := (blk (i := 1) bp342 rfl).1
          go_wp2_with fail
          refine (heldState_any (1) G148 G151 d150 d153 n51 n54 w368 o301.o0.ints o301.o1.ints (by omega)).mono ?_
          rintro e w398 ⟨rfl, hb⟩
          replace b0 := heap_below b0 hb
          replace b1 := heap_below b1 hb
          replace i0_0 := i0_0.below (hb.mono low.size)
          replace i0_1 := i0_1.below (hb.mono low.size)
          replace i2 := i2.below (hb.mono low.size)
          replace o56 := o56.below hb
          replace bp57 := heap_below bp57 hb
          replace bp155 := heap_below bp155 hb
          replace o301 := o301.below hb
          replace o341 := o341.below hb
          replace bp342 := heap_below bp342 hb
          replace low := low.trans (hb.mono low.size)
          have q399 := hb.size
          clear hb
          clear c384 c385 c386 c387 c388 c389 c390 c391 c392 c393 c394 c395 c396 c397
          have c400 := (blk (i := 0) b0 rfl).1
          have c401 := (blk (i := 1) b0 rfl).1
          have c402 := (blk (i := 0) b1 rfl).1
          have c403 := (blk (i := 1) b1 rfl).1
          have c404 := (blk (i := 2) b1 rfl).1
          have c405 := (blk (i := 3) b1 rfl).1
          have c406 := (blk (i := 4) b1 rfl).1
          have c407 := (blk (i := 5) b1 rfl).1
          have c408 := (blk (i := 0) bp57 rfl).1
          have c409 := (blk (i := 1) bp57 rfl).1
          have c410 := (blk (i := 0) bp155 rfl).1
          have c411 := (blk (i := 1) bp155 rfl).1
          have c412 := (blk (i := 0) bp342 rfl).1
          have c413 := (blk (i := 1) bp342 rfl).1
          go_wp2_with fail
          go_ret
          exact ⟨by first | rfl | simp, low⟩
end Go.Proofs.Ytlaidjibcpfnjaa

/- The law FnExactPublicOf: the walk. -/
import Derived.Test.YtfpcjgolcbjnjaaProg
import Derived.Test.YtfpcjgolcbjnjaaB1
import Derived.Test.YtfpcjgolcbjnjaaC1
import Derived.Test.YtfpcjgolcbjnjaaSGarbled
import Derived.Test.YtfpcjgolcbjnjaaSPublic
import Derived.Test.YtfpcjgolcbjnjaaGbY
namespace Go.Proofs.Ytfpcjgolcbjnjaa
open Go Go.RowKit
set_option maxRecDepth 100000 in
set_option maxHeartbeats 2000000 in
theorem FnExactPublicOf_walk (A0_0 : Option Addr) (n0_0 c0_0 : Nat) (z0_0 : List Int) (A0_1 : Option Addr) (n0_1 c0_1 : Nat) (z0_1 : List Int) (a1_0 : Int) (A1_1 : Option Addr) (n1_1 c1_1 : Nat) (z1_1 : List Int) (A1_2 : Option Addr) (n1_2 c1_2 : Nat) (z1_2 : List Int) (w : World) (h0_0 : Ints w A0_0 z0_0) (l0_0 : z0_0.length = n0_0 * 3) (m0_0 : n0_0 ≤ 9223372036854775807) (h0_1 : Ints w A0_1 z0_1) (l0_1 : z0_1.length = n0_1) (m0_1 : n0_1 ≤ 9223372036854775807) (_h1_0 : (Lit.int .i64 a1_0).wf = true) (h1_1 : Ints w A1_1 z1_1) (l1_1 : z1_1.length = n1_1) (m1_1 : n1_1 ≤ 9223372036854775807) (h1_2 : Ints w A1_2 z1_2) (l1_2 : z1_2.length = n1_2) (m1_2 : n1_2 ≤ 9223372036854775807) :
    Calls Try.prog 8 #[.agg #[.slice A0_0 n0_0 c0_0, .slice A0_1 n0_1 c0_1], .agg #[.int .i64 a1_0, .slice A1_1 n1_1 c1_1, .slice A1_2 n1_2 c1_2]] w fun e w' => e = .returned (.bool true) ∧ Below w.heap.size w w' := by
  have low : Below w.heap.size w ((w.alloc (.cells #[.slice A0_0 n0_0 c0_0, .slice A0_1 n0_1 c0_1] 52)).alloc (.cells #[.int .i64 a1_0, .slice A1_1 n1_1 c1_1, .slice A1_2 n1_2 c1_2] 59)) := (low_alloc ((low_alloc (Below.refl _ _) _)) _)
  have L0_0 := Lib.hid l0_0
  have i0_0 := h0_0.bound.below low
  have L0_1 := Lib.hid l0_1
  have i0_1 := h0_1.bound.below low
  have L1_1 := Lib.hid l1_1
  have i1_1 := h1_1.bound.below low
  have L1_2 := Lib.hid l1_2
  have i1_2 := h1_2.bound.below low
  clear h0_0 l0_0 h0_1 l0_1 h1_1 l1_1 h1_2 l1_2
  have b0 := new_at w (.cells #[.slice A0_0 n0_0 c0_0, .slice A0_1 n0_1 c0_1] 52) (w.heap.size) (by simp)
  replace b0 := heap_alloc b0 (.cells #[.int .i64 a1_0, .slice A1_1 n1_1 c1_1, .slice A1_2 n1_2 c1_2] 59)
  have b1 := new_at (w.alloc (.cells #[.slice A0_0 n0_0 c0_0, .slice A0_1 n0_1 c0_1] 52)) (.cells #[.int .i64 a1_0, .slice A1_1 n1_1 c1_1, .slice A1_2 n1_2 c1_2] 59) (w.heap.size + 1) (by simp)
  go_enter Try.func8, Try.ntmps8
  have c1 := (blk (i := 0) b0 rfl).1
  have c2 := (blk (i := 1) b0 rfl).1
  have c3 := (blk (i := 0) b1 rfl).1
  have c4 := (blk (i := 1) b1 rfl).1
  have c5 := (blk (i := 2) b1 rfl).1
  go_wp2_with fail
  generalize hw0 : ((w.alloc (.cells #[.slice A0_0 n0_0 c0_0, .slice A0_1 n0_1 c0_1] 52)).alloc (.cells #[.int .i64 a1_0, .slice A1_1 n1_1 c1_1, .slice A1_2 n1_2 c1_2] 59)) = v0 at *
  clear hw0
  have q0 := low.size
  have q00 := heap_lt b0
  have q01 := heap_lt b1
  clear c1 c2 c3 c4 c5
  have c9 := (blk (i := 0) b0 rfl).1
  have c10 := (blk (i := 1) b0 rfl).1
  have c11 := (blk (i := 0) b1 rfl).1
  have c12 := (blk (i := 1) b1 rfl).1
  have c13 := (blk (i := 2) b1 rfl).1
  go_wp2_with fail
  have s6 := szCircuit_any 1048576 A0_0 A0_1 c0_0 c0_1 n0_0 n0_1 v0 (by omega) m0_0 m0_1
  unfold Sized at s6
  by_cases hn0 : n0_0 + n0_1 ≤ 1048576
  case neg =>
    rw [show szRes 1048576 (n0_0 + n0_1) = -1 by rw [szRes, if_neg hn0]] at s6
    refine s6.mono ?_
    rintro e w8 ⟨rfl, hb⟩
    go_wp2_with fail
    go_ret
    exact ⟨rfl, low.trans (hb.mono low.size)⟩
  rw [show szRes 1048576 (n0_0 + n0_1) = ((1048576 - (n0_0 + n0_1) : Nat) : Int) by rw [szRes, if_pos hn0]] at s6
  have mm0_0 : n0_0 ≤ 1048576 := by omega
  have mm0_1 : n0_1 ≤ 1048576 := by omega
  have zf7 : 1048576 - (n0_0 + n0_1) ≤ 1048576 := by omega
  clear hn0 m0_0 m0_1
  generalize 1048576 - (n0_0 + n0_1) = f7 at *
  refine s6.mono ?_
  rintro e w8 ⟨rfl, hb⟩
  clear s6
  replace b0 := heap_below b0 hb
  replace b1 := heap_below b1 hb
  replace i0_0 := i0_0.below (hb.mono low.size)
  replace i0_1 := i0_1.below (hb.mono low.size)
  replace i1_1 := i1_1.below (hb.mono low.size)
  replace i1_2 := i1_2.below (hb.mono low.size)
  replace low := low.trans (hb.mono low.size)
  have q14 := hb.size
  clear hb
  have yf7 : (0 : Int) ≤ f7 := by omega
  clear c9 c10 c11 c12 c13
  have c18 := (blk (i := 0) b0 rfl).1
  have c19 := (blk (i := 1) b0 rfl).1
  have c20 := (blk (i := 0) b1 rfl).1
  have c21 := (blk (i := 1) b1 rfl).1
  have c22 := (blk (i := 2) b1 rfl).1
  go_wp2_with fail
  have s15 := szGarbled_any f7 A1_1 A1_2 c1_1 c1_2 n1_1 n1_2 a1_0 w8 (by omega) m1_1 m1_2
  unfold Sized at s15
  by_cases hn1 : n1_1 + n1_2 ≤ f7
  case neg =>
    rw [show szRes f7 (n1_1 + n1_2) = -1 by rw [szRes, if_neg hn1]] at s15
    refine s15.mono ?_
    rintro e w17 ⟨rfl, hb⟩
    go_wp2_with fail
    go_ret
    exact ⟨rfl, low.trans (hb.mono low.size)⟩
  rw [show szRes f7 (n1_1 + n1_2) = ((f7 - (n1_1 + n1_2) : Nat) : Int) by rw [szRes, if_pos hn1]] at s15
  have mm1_1 : n1_1 ≤ 1048576 := by omega
  have mm1_2 : n1_2 ≤ 1048576 := by omega
  have zf16 : f7 - (n1_1 + n1_2) ≤ 1048576 := by omega
  clear hn1 m1_1 m1_2
  generalize f7 - (n1_1 + n1_2) = f16 at *
  refine s15.mono ?_
  rintro e w17 ⟨rfl, hb⟩
  clear s15
  replace b0 := heap_below b0 hb
  replace b1 := heap_below b1 hb
  replace i0_0 := i0_0.below (hb.mono low.size)
  replace i0_1 := i0_1.below (hb.mono low.size)
  replace i1_1 := i1_1.below (hb.mono low.size)
  replace i1_2 := i1_2.below (hb.mono low.size)
  replace low := low.trans (hb.mono low.size)
  have q23 := hb.size
  clear hb
  have yf16 : (0 : Int) ≤ f16 := by omega
  obtain ⟨R0, hR0, bR0⟩ : ∃ r : List Int, pubT z0_0 n0_0 z0_1 a1_0 z1_1 z1_2 = r ∧ r.length ≤ 1900000 := ⟨_, rfl, by have := @pubT_length z0_0 z0_1 z1_1 z1_2 n0_0 a1_0; omega⟩
  obtain ⟨R1, hR1, bR1⟩ : ∃ r : List Int, pubC z0_0 n0_0 z0_1 a1_0 z1_1 z1_2 = r ∧ r.length ≤ 1900000 := ⟨_, rfl, by have := @pubC_length z0_0 z0_1 z1_1 z1_2 n0_0 a1_0; omega⟩
  obtain ⟨R2, hR2, bR2⟩ : ∃ r : List Int, pubD z0_0 n0_0 z0_1 a1_0 z1_1 z1_2 = r ∧ r.length ≤ 1900000 := ⟨_, rfl, by have := @pubD_length z0_0 z0_1 z1_1 z1_2 n0_0 a1_0; have := L0_1.out; omega⟩
  obtain ⟨R3, hR3⟩ : ∃ r, decide (gOk z0_0 n0_0 z0_1 a1_0 z1_1 z1_2) = r := ⟨_, rfl⟩
  have E := Lib.hid (show ∀ w e w', Post_Public_bool (pubT z0_0 n0_0 z0_1 a1_0 z1_1 z1_2) (pubC z0_0 n0_0 z0_1 a1_0 z1_1 z1_2) (pubD z0_0 n0_0 z0_1 a1_0 z1_1 z1_2) (decide (gOk z0_0 n0_0 z0_1 a1_0 z1_1 z1_2)) w e w' → Post_Public_bool R0 R1 R2 R3 w e w' from by subst hR0 hR1 hR2 hR3; intro _ _ _ h; exact h)
  clear hR0 hR1 hR2 hR3
  clear c18 c19 c20 c21 c22
  have c24 : w17.cell? ⟨w.heap.size, 0, none⟩ = some (.slice A0_0 n0_0 c0_0) := (blk (i := 0) b0 rfl).1
  have c25 : w17.cell? ⟨w.heap.size, 1, none⟩ = some (.slice A0_1 n0_1 c0_1) := (blk (i := 1) b0 rfl).1
  have c26 : w17.cell? ⟨w.heap.size + 1, 0, none⟩ = some (.int .i64 a1_0) := (blk (i := 0) b1 rfl).1
  have c27 : w17.cell? ⟨w.heap.size + 1, 1, none⟩ = some (.slice A1_1 n1_1 c1_1) := (blk (i := 1) b1 rfl).1
  have c28 : w17.cell? ⟨w.heap.size + 1, 2, none⟩ = some (.slice A1_2 n1_2 c1_2) := (blk (i := 2) b1 rfl).1
  have y29 := heap_lt b0
  have y30 := heap_lt b1
  have hp0 : (w17.alloc (.cells #[.slice none 0 0, .slice none 0 0, .slice none 0 0] 37)).drew.heap[w17.heap.size]? = some (.cells #[.slice none 0 0, .slice none 0 0, .slice none 0 0] 37 (0, 0)) := heap_alloc_new w17 _
  have r0 : Below w17.heap.size w17 w17.drew := (Below.refl _ _).drew
  have r1 : Below w17.heap.size w17 (w17.alloc (.cells #[.slice none 0 0, .slice none 0 0, .slice none 0 0] 37)).drew := (below_alloc _ _).drew
  have r2 := r1.size
  have r31 := cell_on c24 r1
  have r32 := cell_on c25 r1
  have r33 := cell_on c26 r1
  have r34 := cell_on c27 r1
  have r35 := cell_on c28 r1
  go_upto_region 8 with (fail)
  go_cut [6, 7] (fun s t0 wx => ∃ (p46 lo47 hi48 : Nat) (G36 G39 G42 : Option Addr) (n37 n40 n43 d38 d41 d44 : Nat), s = .pointer (some ⟨p46, 0, none⟩) ∧ t0 = .bool R3 ∧ BxdPublic w17 wx p46 lo47 hi48 G36 G39 G42 n37 n40 n43 d38 d41 d44 R0 R1 R2)
  case first =>
    go_wp2_with fail
    go_region_held3 (fun w' => w'.cell? ⟨w.heap.size, 0, none⟩ = some (.slice A0_0 n0_0 c0_0) ∧ w'.cell? ⟨w.heap.size, 1, none⟩ = some (.slice A0_1 n0_1 c0_1) ∧ w'.cell? ⟨w.heap.size + 1, 0, none⟩ = some (.int .i64 a1_0) ∧ w'.cell? ⟨w.heap.size + 1, 1, none⟩ = some (.slice A1_1 n1_1 c1_1) ∧ w'.cell? ⟨w.heap.size + 1, 2, none⟩ = some (.slice A1_2 n1_2 c1_2) ∧ Below w17.heap.size w17 w' ∧ w17.heap.size ≤ w'.heap.size) (first | with_reducible exact ⟨c24, c25, c26, c27, c28, r0, r0.size⟩ | with_reducible exact ⟨r31, r32, r33, r34, r35, r1, r2⟩ | with_reducible exact ⟨c24w53, c25w53, c26w53, c27w53, c28w53, hl55, zhl55⟩ | with_reducible exact ⟨cell_on c24w53 (below_alloc _ _), cell_on c25w53 (below_alloc _ _), cell_on c26w53 (below_alloc _ _), cell_on c27w53 (below_alloc _ _), cell_on c28w53 (below_alloc _ _), low_alloc hl55 _, (low_alloc hl55 _).size⟩ | with_reducible exact ⟨c24w59, c25w59, c26w59, c27w59, c28w59, hl61, zhl61⟩ | with_reducible exact ⟨cell_on c24w59 (below_alloc _ _), cell_on c25w59 (below_alloc _ _), cell_on c26w59 (below_alloc _ _), cell_on c27w59 (below_alloc _ _), cell_on c28w59 (below_alloc _ _), low_alloc hl61 _, (low_alloc hl61 _).size⟩ | with_reducible exact ⟨c24w62, c25w62, c26w62, c27w62, c28w62, hl64, zhl64⟩ | with_reducible exact ⟨cell_on c24w62 (below_alloc _ _), cell_on c25w62 (below_alloc _ _), cell_on c26w62 (below_alloc _ _), cell_on c27w62 (below_alloc _ _), cell_on c28w62 (below_alloc _ _), low_alloc hl64 _, (low_alloc hl64 _).size⟩ | with_reducible exact ⟨(far_one (far_one (far_one c24w62 (Nat.ne_of_lt y29) _) (Nat.ne_of_lt y29) _) (Nat.ne_of_lt y29) _), (far_one (far_one (far_one c25w62 (Nat.ne_of_lt y29) _) (Nat.ne_of_lt y29) _) (Nat.ne_of_lt y29) _), (far_one (far_one (far_one c26w62 (Nat.ne_of_lt y30) _) (Nat.ne_of_lt y30) _) (Nat.ne_of_lt y30) _), (far_one (far_one (far_one c27w62 (Nat.ne_of_lt y30) _) (Nat.ne_of_lt y30) _) (Nat.ne_of_lt y30) _), (far_one (far_one (far_one c28w62 (Nat.ne_of_lt y30) _) (Nat.ne_of_lt y30) _) (Nat.ne_of_lt y30) _), (Below.setCell (Below.setCell (Below.setCell hl64 (Nat.le_refl _) _) (Nat.le_refl _) _) (Nat.le_refl _) _), (show Below w17.heap.size w17 _ from (Below.setCell (Below.setCell (Below.setCell hl64 (Nat.le_refl _) _) (Nat.le_refl _) _) (Nat.le_refl _) _)).size⟩ | with_reducible exact ⟨(far_one (far_one (far_one c24w62 (Nat.ne_of_lt y29w53) _) (Nat.ne_of_lt y29w53) _) (Nat.ne_of_lt y29w53) _), (far_one (far_one (far_one c25w62 (Nat.ne_of_lt y29w53) _) (Nat.ne_of_lt y29w53) _) (Nat.ne_of_lt y29w53) _), (far_one (far_one (far_one c26w62 (Nat.ne_of_lt y30w53) _) (Nat.ne_of_lt y30w53) _) (Nat.ne_of_lt y30w53) _), (far_one (far_one (far_one c27w62 (Nat.ne_of_lt y30w53) _) (Nat.ne_of_lt y30w53) _) (Nat.ne_of_lt y30w53) _), (far_one (far_one (far_one c28w62 (Nat.ne_of_lt y30w53) _) (Nat.ne_of_lt y30w53) _) (Nat.ne_of_lt y30w53) _), (Below.setCell (Below.setCell (Below.setCell hl64 zhl55 _) zhl55 _) zhl55 _), (show Below w17.heap.size w17 _ from (Below.setCell (Below.setCell (Below.setCell hl64 zhl55 _) zhl55 _) zhl55 _)).size⟩ | with_reducible exact ⟨(far_one (far_one (far_one c24w62 (Nat.ne_of_lt y29w59) _) (Nat.ne_of_lt y29w59) _) (Nat.ne_of_lt y29w59) _), (far_one (far_one (far_one c25w62 (Nat.ne_of_lt y29w59) _) (Nat.ne_of_lt y29w59) _) (Nat.ne_of_lt y29w59) _), (far_one (far_one (far_one c26w62 (Nat.ne_of_lt y30w59) _) (Nat.ne_of_lt y30w59) _) (Nat.ne_of_lt y30w59) _), (far_one (far_one (far_one c27w62 (Nat.ne_of_lt y30w59) _) (Nat.ne_of_lt y30w59) _) (Nat.ne_of_lt y30w59) _), (far_one (far_one (far_one c28w62 (Nat.ne_of_lt y30w59) _) (Nat.ne_of_lt y30w59) _) (Nat.ne_of_lt y30w59) _), (Below.setCell (Below.setCell (Below.setCell hl64 zhl61 _) zhl61 _) zhl61 _), (show Below w17.heap.size w17 _ from (Below.setCell (Below.setCell (Below.setCell hl64 zhl61 _) zhl61 _) zhl61 _)).size⟩ | (refine ⟨?_, ?_, ?_, ?_, ?_, ?_, ?_⟩ <;> first | assumption | (go_keep; done) | (go_grown; done) | (go_size; done) | (simp; omega))) (first
      | (go_at_call 24; (with_reducible refine (toCircuit_own A0_0 A0_1 c0_0 c0_1 n0_0 n0_1 z0_0 z0_1 _ (ints_on i0_0 low (by first | assumption | exact low_alloc (by assumption) _ | exact (low_alloc (by assumption) _).drew)) L0_0.out (by omega) (ints_on i0_1 low (by first | assumption | exact low_alloc (by assumption) _ | exact (low_alloc (by assumption) _).drew)) L0_1.out (by omega)).mono ?_); rintro e w53 ⟨X50, X51, rfl, o52, hb54⟩; (have hl55 := below_on hb54 (show Below w17.heap.size w17 _ by first | assumption | exact low_alloc (by assumption) _ | exact (low_alloc (by assumption) _).drew)); (have zhl55 := hl55.size); (have y29w53 := Nat.lt_of_lt_of_le y29 zhl55); (have y30w53 := Nat.lt_of_lt_of_le y30 zhl55); (have c24w53 := cell_on c24 hl55); (have c25w53 := cell_on c25 hl55); (have c26w53 := cell_on c26 hl55); (have c27w53 := cell_on c27 hl55); (have c28w53 := cell_on c28 hl55); (first | (have hp1 := heap_below hp0 hb54; have hq1 := heap_lt hp1) | (have hp1 := heap_below (heap_alloc_new w17 (.cells #[.slice none 0 0, .slice none 0 0, .slice none 0 0] 37)) hb54; have hq1 := heap_lt hp1) | skip))
      | (go_at_call 32; (with_reducible refine (toGarbled_own A1_1 A1_2 c1_1 c1_2 n1_1 n1_2 z1_1 z1_2 a1_0 _ (ints_on i1_1 low (by first | assumption | exact low_alloc (by assumption) _ | exact (low_alloc (by assumption) _).drew)) L1_1.out (by omega) (ints_on i1_2 low (by first | assumption | exact low_alloc (by assumption) _ | exact (low_alloc (by assumption) _).drew)) L1_2.out (by omega)).mono ?_); rintro e w59 ⟨X56, X57, rfl, o58, hb60⟩; (have hl61 := below_on hb60 (show Below w17.heap.size w17 _ by first | assumption | exact low_alloc (by assumption) _ | exact (low_alloc (by assumption) _).drew)); (have zhl61 := hl61.size); (have y29w59 := Nat.lt_of_lt_of_le y29 zhl61); (have y30w59 := Nat.lt_of_lt_of_le y30 zhl61); (have c24w59 := cell_on c24 hl61); (have c25w59 := cell_on c25 hl61); (have c26w59 := cell_on c26 hl61); (have c27w59 := cell_on c27 hl61); (have c28w59 := cell_on c28 hl61); (replace o52 := o52.below (below_up hb60 (by first | exact Below.refl _ _ | exact below_alloc _ _ | exact (below_alloc _ _).drew | exact (Below.refl _ _).drew))); (first | (have hp2 := heap_below hp1 hb60; have hq2 := heap_lt hp2) | (have hp2 := heap_below (heap_alloc_new w53 (.cells #[.slice none 0 0, .slice none 0 0, .slice none 0 0] 37)) hb60; have hq2 := heap_lt hp2) | skip))
      | (go_at_call 34; (with_reducible refine (ex_spec_PublicOf X50 n0_0 n0_0 z0_0 X51 n0_1 n0_1 z0_1 a1_0 X56 n1_1 n1_1 z1_1 X57 n1_2 n1_2 z1_2 _ (by first | exact o52.o0.ints | exact Ints.al o52.o0.ints _) L0_0.out (by omega) (by first | exact o52.o1.ints | exact Ints.al o52.o1.ints _) L0_1.out (by omega) (by first | exact o58.o1.ints | exact Ints.al o58.o1.ints _) L1_1.out (by omega) (by first | exact o58.o2.ints | exact Ints.al o58.o2.ints _) L1_2.out (by omega)).mono ?_); intro e w62 h; (obtain ⟨G36, G39, G42, n37, n40, n43, d38, d41, d44, rfl, o45, hb63⟩ := E.out _ _ _ h); (have hl64 := below_on hb63 (show Below w17.heap.size w17 _ by first | assumption | exact low_alloc (by assumption) _ | exact (low_alloc (by assumption) _).drew)); (have zhl64 := hl64.size); (have yhl64 := hb63.size); (have y29w62 := Nat.lt_of_lt_of_le y29 zhl64); (have y30w62 := Nat.lt_of_lt_of_le y30 zhl64); (have c24w62 := cell_on c24 hl64); (have c25w62 := cell_on c25 hl64); (have c26w62 := cell_on c26 hl64); (have c27w62 := cell_on c27 hl64); (have c28w62 := cell_on c28 hl64); (first | (have hp3 := heap_below hp2 hb63; obtain ⟨zc0, zf0⟩ := blk (i := 0) hp3 rfl; obtain ⟨zc1, zf1⟩ := blk (i := 1) hp3 rfl; obtain ⟨zc2, zf2⟩ := blk (i := 2) hp3 rfl) | (have hp3 := heap_below (heap_alloc_new w59 (.cells #[.slice none 0 0, .slice none 0 0, .slice none 0 0] 37)) hb63; obtain ⟨zc0, zf0⟩ := blk (i := 0) hp3 rfl; obtain ⟨zc1, zf1⟩ := blk (i := 1) hp3 rfl; obtain ⟨zc2, zf2⟩ := blk (i := 2) hp3 rfl) | skip)))
    all_goals
      go_wp2_with fail
      go_meet
      first
        | exact ⟨_, _, _, _, _, _, _, _, _, _, _, _, rfl, rfl, BxdPublic.last o45 hl64 (by first | assumption | (simp <;> omega))⟩
        | exact ⟨_, _, _, _, _, _, _, _, _, _, _, _, rfl, rfl, BxdPublic.early o45 hl64 (by first | assumption | (simp <;> omega)) hp3 (by first | omega | (simp <;> omega)) (by first | omega | (simp <;> omega))⟩
  case rest =>
    clear hp0 r0 r1 r2 c24 c25 c26 c27 c28 y29 y30 r31 r32 r33 r34 r35
    obtain ⟨p46, lo47, hi48, G36, G39, G42, n37, n40, n43, d38, d41, d44, rfl, rfl, hN⟩ := hcut
    obtain ⟨w65, rfl⟩ : ∃ w65 : World, w65 = wc := ⟨_, rfl⟩
    have o45 := hN.own
    have bp46 := hN.box
    have qp46 := hN.at_
    have hb := hN.low
    clear hN
    replace b0 := heap_below b0 hb
    replace b1 := heap_below b1 hb
    replace i0_0 := i0_0.below (hb.mono low.size)
    replace i0_1 := i0_1.below (hb.mono low.size)
    replace i1_1 := i1_1.below (hb.mono low.size)
    replace i1_2 := i1_2.below (hb.mono low.size)
    replace low := low.trans (hb.mono low.size)
    have q66 := hb.size
    clear hb
    have L67 := Lib.hid (o45.o0.len1)
    have bnL67 : n37 ≤ 1900000 := by rw [← L67.out]; exact bR0
    have L68 := Lib.hid (o45.o1.len1)
    have bnL68 : n40 ≤ 1900000 := by rw [← L68.out]; exact bR1
    have L69 := Lib.hid (o45.o2.len1)
    have bnL69 : n43 ≤ 1900000 := by rw [← L69.out]; exact bR2
    have c73 := (blk (i := 0) b0 rfl).1
    have c74 := (blk (i := 1) b0 rfl).1
    have c75 := (blk (i := 0) b1 rfl).1
    have c76 := (blk (i := 1) b1 rfl).1
    have c77 := (blk (i := 2) b1 rfl).1
    have c78 := (blk (i := 0) bp46 rfl).1
    have c79 := (blk (i := 1) bp46 rfl).1
    have c80 := (blk (i := 2) bp46 rfl).1
    go_wp2_with fail
    refine (toCircuit_own A0_0 A0_1 c0_0 c0_1 n0_0 n0_1 z0_0 z0_1 w65 (i0_0.ints low.size) L0_0.out (by omega) (i0_1.ints low.size) L0_1.out (by omega)).mono ?_
    rintro e w81 ⟨X70, X71, rfl, o72, hb⟩
    replace b0 := heap_below b0 hb
    replace b1 := heap_below b1 hb
    replace i0_0 := i0_0.below (hb.mono low.size)
    replace i0_1 := i0_1.below (hb.mono low.size)
    replace i1_1 := i1_1.below (hb.mono low.size)
    replace i1_2 := i1_2.below (hb.mono low.size)
    replace o45 := o45.below hb
    replace bp46 := heap_below bp46 hb
    replace low := low.trans (hb.mono low.size)
    have q82 := hb.size
    clear hb
    replace b0 := heap_alloc b0 (.cells #[.slice X70 n0_0 n0_0, .slice X71 n0_1 n0_1] 27)
    replace b1 := heap_alloc b1 (.cells #[.slice X70 n0_0 n0_0, .slice X71 n0_1 n0_1] 27)
    replace i0_0 := i0_0.below ((below_alloc _ (.cells #[.slice X70 n0_0 n0_0, .slice X71 n0_1 n0_1] 27)).mono low.size)
    replace i0_1 := i0_1.below ((below_alloc _ (.cells #[.slice X70 n0_0 n0_0, .slice X71 n0_1 n0_1] 27)).mono low.size)
    replace i1_1 := i1_1.below ((below_alloc _ (.cells #[.slice X70 n0_0 n0_0, .slice X71 n0_1 n0_1] 27)).mono low.size)
    replace i1_2 := i1_2.below ((below_alloc _ (.cells #[.slice X70 n0_0 n0_0, .slice X71 n0_1 n0_1] 27)).mono low.size)
    replace o45 := o45.alloc (.cells #[.slice X70 n0_0 n0_0, .slice X71 n0_1 n0_1] 27)
    replace bp46 := heap_alloc bp46 (.cells #[.slice X70 n0_0 n0_0, .slice X71 n0_1 n0_1] 27)
    replace o72 := o72.alloc (.cells #[.slice X70 n0_0 n0_0, .slice X71 n0_1 n0_1] 27)
    replace low := low_alloc low (.cells #[.slice X70 n0_0 n0_0, .slice X71 n0_1 n0_1] 27)
    have b83 := heap_alloc_new w81 (.cells #[.slice X70 n0_0 n0_0, .slice X71 n0_1 n0_1] 27)
    have q84 := heap_lt b83
    clear c73 c74 c75 c76 c77 c78 c79 c80
    have c85 := (blk (i := 0) b0 rfl).1
    have c86 := (blk (i := 1) b0 rfl).1
    have c87 := (blk (i := 0) b1 rfl).1
    have c88 := (blk (i := 1) b1 rfl).1
    have c89 := (blk (i := 2) b1 rfl).1
    have c90 := (blk (i := 0) bp46 rfl).1
    have c91 := (blk (i := 1) bp46 rfl).1
    have c92 := (blk (i := 2) bp46 rfl).1
    have c93 := (blk (i := 0) b83 rfl).1
    have c94 := (blk (i := 1) b83 rfl).1
    go_wp2_with fail
    generalize hg : (w81.alloc (.cells #[.slice X70 n0_0 n0_0, .slice X71 n0_1 n0_1] 27)) = w95 at *
    clear hg
    clear c85 c86 c87 c88 c89 c90 c91 c92 c93 c94
    have c99 := (blk (i := 0) b0 rfl).1
    have c100 := (blk (i := 1) b0 rfl).1
    have c101 := (blk (i := 0) b1 rfl).1
    have c102 := (blk (i := 1) b1 rfl).1
    have c103 := (blk (i := 2) b1 rfl).1
    have c104 := (blk (i := 0) bp46 rfl).1
    have c105 := (blk (i := 1) bp46 rfl).1
    have c106 := (blk (i := 2) bp46 rfl).1
    have c107 := (blk (i := 0) b83 rfl).1
    have c108 := (blk (i := 1) b83 rfl).1
    go_wp2_with fail
    refine (toGarbled_own A1_1 A1_2 c1_1 c1_2 n1_1 n1_2 z1_1 z1_2 a1_0 w95 (i1_1.ints low.size) L1_1.out (by omega) (i1_2.ints low.size) L1_2.out (by omega)).mono ?_
    rintro e w109 ⟨X96, X97, rfl, o98, hb⟩
    replace b0 := heap_below b0 hb
    replace b1 := heap_below b1 hb
    replace i0_0 := i0_0.below (hb.mono low.size)
    replace i0_1 := i0_1.below (hb.mono low.size)
    replace i1_1 := i1_1.below (hb.mono low.size)
    replace i1_2 := i1_2.below (hb.mono low.size)
    replace o45 := o45.below hb
    replace bp46 := heap_below bp46 hb
    replace o72 := o72.below hb
    replace b83 := heap_below b83 hb
    replace low := low.trans (hb.mono low.size)
    have q110 := hb.size
    clear hb
    replace b0 := heap_alloc b0 (.cells #[.int .i64 a1_0, .slice X96 n1_1 n1_1, .slice X97 n1_2 n1_2] 33)
    replace b1 := heap_alloc b1 (.cells #[.int .i64 a1_0, .slice X96 n1_1 n1_1, .slice X97 n1_2 n1_2] 33)
    replace i0_0 := i0_0.below ((below_alloc _ (.cells #[.int .i64 a1_0, .slice X96 n1_1 n1_1, .slice X97 n1_2 n1_2] 33)).mono low.size)
    replace i0_1 := i0_1.below ((below_alloc _ (.cells #[.int .i64 a1_0, .slice X96 n1_1 n1_1, .slice X97 n1_2 n1_2] 33)).mono low.size)
    replace i1_1 := i1_1.below ((below_alloc _ (.cells #[.int .i64 a1_0, .slice X96 n1_1 n1_1, .slice X97 n1_2 n1_2] 33)).mono low.size)
    replace i1_2 := i1_2.below ((below_alloc _ (.cells #[.int .i64 a1_0, .slice X96 n1_1 n1_1, .slice X97 n1_2 n1_2] 33)).mono low.size)
    replace o45 := o45.alloc (.cells #[.int .i64 a1_0, .slice X96 n1_1 n1_1, .slice X97 n1_2 n1_2] 33)
    replace bp46 := heap_alloc bp46 (.cells #[.int .i64 a1_0, .slice X96 n1_1 n1_1, .slice X97 n1_2 n1_2] 33)
    replace o72 := o72.alloc (.cells #[.int .i64 a1_0, .slice X96 n1_1 n1_1, .slice X97 n1_2 n1_2] 33)
    replace b83 := heap_alloc b83 (.cells #[.int .i64 a1_0, .slice X96 n1_1 n1_1, .slice X97 n1_2 n1_2] 33)
    replace o98 := o98.alloc (.cells #[.int .i64 a1_0, .slice X96 n1_1 n1_1, .slice X97 n1_2 n1_2] 33)
    replace low := low_alloc low (.cells #[.int .i64 a1_0, .slice X96 n1_1 n1_1, .slice X97 n1_2 n1_2] 33)
    have b111 := heap_alloc_new w109 (.cells #[.int .i64 a1_0, .slice X96 n1_1 n1_1, .slice X97 n1_2 n1_2] 33)
    have q112 := heap_lt b111
    clear c99 c100 c101 c102 c103 c104 c105 c106 c107 c108
    have c113 := (blk (i := 0) b0 rfl).1
    have c114 := (blk (i := 1) b0 rfl).1
    have c115 := (blk (i := 0) b1 rfl).1
    have c116 := (blk (i := 1) b1 rfl).1
    have c117 := (blk (i := 2) b1 rfl).1
    have c118 := (blk (i := 0) bp46 rfl).1
    have c119 := (blk (i := 1) bp46 rfl).1
    have c120 := (blk (i := 2) bp46 rfl).1
    have c121 := (blk (i := 0) b83 rfl).1
    have c122 := (blk (i := 1) b83 rfl).1
    have c123 := (blk (i := 0) b111 rfl).1
    have c124 := (blk (i := 1) b111 rfl).1
    have c125 := (blk (i := 2) b111 rfl).1
    go_wp2_with fail
    generalize hg : (w109.alloc (.cells #[.int .i64 a1_0, .slice X96 n1_1 n1_1, .slice X97 n1_2 n1_2] 33)) = w126 at *
    clear hg
    clear c113 c114 c115 c116 c117 c118 c119 c120 c121 c122 c123 c124 c125
    have c128 := (blk (i := 0) b0 rfl).1
    have c129 := (blk (i := 1) b0 rfl).1
    have c130 := (blk (i := 0) b1 rfl).1
    have c131 := (blk (i := 1) b1 rfl).1
    have c132 := (blk (i := 2) b1 rfl).1
    have c133 := (blk (i := 0) bp46 rfl).1
    have c134 := (blk (i := 1) bp46 rfl).1
    have c135 := (blk (i := 2) bp46 rfl).1
    have c136 := (blk (i := 0) b83 rfl).1
    have c137 := (blk (i := 1) b83 rfl).1
    have c138 := (blk (i := 0) b111 rfl).1
    have c139 := (blk (i := 1) b111 rfl).1
    have c140 := (blk (i := 2) b111 rfl).1
    go_wp2_with fail
    refine (ex_impl_PublicOf X70 n0_0 n0_0 z0_0 X71 n0_1 n0_1 z0_1 a1_0 X96 n1_1 n1_1 z1_1 X97 n1_2 n1_2 z1_2 w126 (o72.o0.ints) L0_0.out (by omega) (o72.o1.ints) L0_1.out (by omega) (o98.o1.ints) L1_1.out (by omega) (o98.o2.ints) L1_2.out (by omega)).mono ?_
    intro e w127 h
    obtain ⟨G141, G144, G147, n142, n145, n148, d143, d146, d149, rfl, o150, hb⟩ := E.out _ _ _ h
    clear h
    replace b0 := heap_below b0 hb
    replace b1 := heap_below b1 hb
    replace i0_0 := i0_0.below (hb.mono low.size)
    replace i0_1 := i0_1.below (hb.mono low.size)
    replace i1_1 := i1_1.below (hb.mono low.size)
    replace i1_2 := i1_2.below (hb.mono low.size)
    replace o45 := o45.below hb
    replace bp46 := heap_below bp46 hb
    replace o72 := o72.below hb
    replace b83 := heap_below b83 hb
    replace o98 := o98.below hb
    replace b111 := heap_below b111 hb
    replace low := low.trans (hb.mono low.size)
    have q151 := hb.size
    clear hb
    have hl152 := o150.o0.len1
    obtain rfl : n37 = n142 := by rw [← hl152, L67.out]
    clear hl152
    have hl153 := o150.o1.len1
    obtain rfl : n40 = n145 := by rw [← hl153, L68.out]
    clear hl153
    have hl154 := o150.o2.len1
    obtain rfl : n43 = n148 := by rw [← hl154, L69.out]
    clear hl154
    replace b0 := heap_alloc b0 (.cells #[.slice G141 n37 d143, .slice G144 n40 d146, .slice G147 n43 d149] 37)
    replace b1 := heap_alloc b1 (.cells #[.slice G141 n37 d143, .slice G144 n40 d146, .slice G147 n43 d149] 37)
    replace i0_0 := i0_0.below ((below_alloc _ (.cells #[.slice G141 n37 d143, .slice G144 n40 d146, .slice G147 n43 d149] 37)).mono low.size)
    replace i0_1 := i0_1.below ((below_alloc _ (.cells #[.slice G141 n37 d143, .slice G144 n40 d146, .slice G147 n43 d149] 37)).mono low.size)
    replace i1_1 := i1_1.below ((below_alloc _ (.cells #[.slice G141 n37 d143, .slice G144 n40 d146, .slice G147 n43 d149] 37)).mono low.size)
    replace i1_2 := i1_2.below ((below_alloc _ (.cells #[.slice G141 n37 d143, .slice G144 n40 d146, .slice G147 n43 d149] 37)).mono low.size)
    replace o45 := o45.alloc (.cells #[.slice G141 n37 d143, .slice G144 n40 d146, .slice G147 n43 d149] 37)
    replace bp46 := heap_alloc bp46 (.cells #[.slice G141 n37 d143, .slice G144 n40 d146, .slice G147 n43 d149] 37)
    replace o72 := o72.alloc (.cells #[.slice G141 n37 d143, .slice G144 n40 d146, .slice G147 n43 d149] 37)
    replace b83 := heap_alloc b83 (.cells #[.slice G141 n37 d143, .slice G144 n40 d146, .slice G147 n43 d149] 37)
    replace o98 := o98.alloc (.cells #[.slice G141 n37 d143, .slice G144 n40 d146, .slice G147 n43 d149] 37)
    replace b111 := heap_alloc b111 (.cells #[.slice G141 n37 d143, .slice G144 n40 d146, .slice G147 n43 d149] 37)
    replace o150 := o150.alloc (.cells #[.slice G141 n37 d143, .slice G144 n40 d146, .slice G147 n43 d149] 37)
    replace low := low_alloc low (.cells #[.slice G141 n37 d143, .slice G144 n40 d146, .slice G147 n43 d149] 37)
    have b155 := heap_alloc_new w127 (.cells #[.slice G141 n37 d143, .slice G144 n40 d146, .slice G147 n43 d149] 37)
    have q156 := heap_lt b155
    clear c128 c129 c130 c131 c132 c133 c134 c135 c136 c137 c138 c139 c140
    have c157 := (blk (i := 0) b0 rfl).1
    have c158 := (blk (i := 1) b0 rfl).1
    have c159 := (blk (i := 0) b1 rfl).1
    have c160 := (blk (i := 1) b1 rfl).1
    have c161 := (blk (i := 2) b1 rfl).1
    have c162 := (blk (i := 0) bp46 rfl).1
    have c163 := (blk (i := 1) bp46 rfl).1
    have c164 := (blk (i := 2) bp46 rfl).1
    have c165 := (blk (i := 0) b83 rfl).1
    have c166 := (blk (i := 1) b83 rfl).1
    have c167 := (blk (i := 0) b111 rfl).1
    have c168 := (blk (i := 1) b111 rfl).1
    have c169 := (blk (i := 2) b111 rfl).1
    have c170 := (blk (i := 0) b155 rfl).1
    have c171 := (blk (i := 1) b155 rfl).1
    have c172 := (blk (i := 2) b155 rfl).1
    go_wp2_with fail
    generalize hg : (w127.alloc (.cells #[.slice G141 n37 d143, .slice G144 n40 d146, .slice G147 n43 d149] 37)) = w173 at *
    clear hg
    clear c157 c158 c159 c160 c161 c162 c163 c164 c165 c166 c167 c168 c169 c170 c171 c172
    have c175 := (blk (i := 0) b0 rfl).1
    have c176 := (blk (i := 1) b0 rfl).1
    have c177 := (blk (i := 0) b1 rfl).1
    have c178 := (blk (i := 1) b1 rfl).1
    have c179 := (blk (i := 2) b1 rfl).1
    have c180 := (blk (i := 0) bp46 rfl).1
    have c181 := (blk (i := 1) bp46 rfl).1
    have c182 := (blk (i := 2) bp46 rfl).1
    have c183 := (blk (i := 0) b83 rfl).1
    have c184 := (blk (i := 1) b83 rfl).1
    have c185 := (blk (i := 0) b111 rfl).1
    have c186 := (blk (i := 1) b111 rfl).1
    have c187 := (blk (i := 2) b111 rfl).1
    have c188 := (blk (i := 0) b155 rfl).1
    have c189 := (blk (i := 1) b155 rfl).1
    have c190 := (blk (i := 2) b155 rfl).1
    go_wp2_with fail
    refine (eqPublic_same G141 G144 G147 d143 d146 d149 G36 G39 G42 d38 d41 d44 n37 n40 n43 R0 R1 R2 w173 o150.o0.ints o45.o0.ints L67.out (by omega) o150.o1.ints o45.o1.ints L68.out (by omega) o150.o2.ints o45.o2.ints L69.out (by omega)).mono ?_
    rintro e w174 ⟨rfl, hb⟩
    replace b0 := heap_below b0 hb
    replace b1 := heap_below b1 hb
    replace i0_0 := i0_0.below (hb.mono low.size)
    replace i0_1 := i0_1.below (hb.mono low.size)
    replace i1_1 := i1_1.below (hb.mono low.size)
    replace i1_2 := i1_2.below (hb.mono low.size)
    replace o45 := o45.below hb
    replace bp46 := heap_below bp46 hb
    replace o72 := o72.below hb
    replace b83 := heap_below b83 hb
    replace o98 := o98.below hb
    replace b111 := heap_below b111 hb
    replace o150 := o150.below hb
    replace b155 := heap_below b155 hb
    replace low := low.trans (hb.mono low.size)
    have q191 := hb.size
    clear hb
    clear c175 c176 c177 c178 c179 c180 c181 c182 c183 c184 c185 c186 c187 c188 c189 c190
    have c195 := (blk (i := 0) b0 rfl).1
    have c196 := (blk (i := 1) b0 rfl).1
    have c197 := (blk (i := 0) b1 rfl).1
    have c198 := (blk (i := 1) b1 rfl).1
    have c199 := (blk (i := 2) b1 rfl).1
    have c200 := (blk (i := 0) bp46 rfl).1
    have c201 := (blk (i := 1) bp46 rfl).1
    have c202 := (blk (i := 2) bp46 rfl).1
    have c203 := (blk (i := 0) b83 rfl).1
    have c204 := (blk (i := 1) b83 rfl).1
    have c205 := (blk (i := 0) b111 rfl).1
    have c206 := (blk (i := 1) b111 rfl).1
    have c207 := (blk (i := 2) b111 rfl).1
    have c208 := (blk (i := 0) b155 rfl).1
    have c209 := (blk (i := 1) b155 rfl).1
    have c210 := (blk (i := 2) b155 rfl).1
    go_upto_region 14 with (fail)
    go_cut [58] (fun s wx => s = .bool false ∧ Below w174.heap.size w174 wx)
    case first =>
      have lowd := low.drew
      have o72d := o72.drew
      go_wp2_with fail
      go_region_law (first
        | (go_simp; go_at_call 24; (with_reducible refine (toCircuit_own A0_0 A0_1 c0_0 c0_1 n0_0 n0_1 z0_0 z0_1 _ ((ints_drew i0_0 low)) L0_0.out (by omega) ((ints_drew i0_1 low)) L0_1.out (by omega)).mono ?_); rintro e w211 ⟨X192, X193, rfl, o194, hb1⟩; (have ox := o72d.below hb1); (have bx0 := heap_below (w := w174.drew) b83 hb1); (have cx00 := (blk (i := 0) bx0 rfl).1); (have cx01 := (blk (i := 1) bx0 rfl).1))
        | (go_simp; go_at_call 26; (with_reducible refine (eqCircuit_same X70 X71 n0_0 n0_1 X192 X193 n0_0 n0_1 n0_0 n0_1 z0_0 z0_1 _ ox.o0.ints o194.o0.ints L0_0.out (by omega) ox.o1.ints o194.o1.ints L0_1.out (by omega)).mono ?_); rintro e w212 ⟨rfl, hb2⟩))
      all_goals
        have hb := ((Below.refl w174.heap.size w174).drew.trans hb1).trans (hb2.mono (by have := hb1.size; exact this))
        go_wp2_with fail
        go_meet
        exact ⟨rfl, hb⟩
    case rest =>
      clear c195 c196 c197 c198 c199 c200 c201 c202 c203 c204 c205 c206 c207 c208 c209 c210
      obtain ⟨rfl, hb⟩ := hcut
      obtain ⟨w213, rfl⟩ : ∃ w213 : World, w213 = wc := ⟨_, rfl⟩
      replace b0 := heap_below b0 hb
      replace b1 := heap_below b1 hb
      replace i0_0 := i0_0.below (hb.mono low.size)
      replace i0_1 := i0_1.below (hb.mono low.size)
      replace i1_1 := i1_1.below (hb.mono low.size)
      replace i1_2 := i1_2.below (hb.mono low.size)
      replace o45 := o45.below hb
      replace bp46 := heap_below bp46 hb
      replace o72 := o72.below hb
      replace b83 := heap_below b83 hb
      replace o98 := o98.below hb
      replace b111 := heap_below b111 hb
      replace o150 := o150.below hb
      replace b155 := heap_below b155 hb
      replace low := low.trans (hb.mono low.size)
      have q214 := hb.size
      clear hb
      have c218 := (blk (i := 0) b0 rfl).1
      have c219 := (blk (i := 1) b0 rfl).1
      have c220 := (blk (i := 0) b1 rfl).1
      have c221 := (blk (i := 1) b1 rfl).1
      have c222 := (blk (i := 2) b1 rfl).1
      have c223 := (blk (i := 0) bp46 rfl).1
      have c224 := (blk (i := 1) bp46 rfl).1
      have c225 := (blk (i := 2) bp46 rfl).1
      have c226 := (blk (i := 0) b83 rfl).1
      have c227 := (blk (i := 1) b83 rfl).1
      have c228 := (blk (i := 0) b111 rfl).1
      have c229 := (blk (i := 1) b111 rfl).1
      have c230 := (blk (i := 2) b111 rfl).1
      have c231 := (blk (i := 0) b155 rfl).1
      have c232 := (blk (i := 1) b155 rfl).1
      have c233 := (blk (i := 2) b155 rfl).1
      go_upto_region 16 with (fail)
      go_cut [63] (fun s wx => s = .bool false ∧ Below w213.heap.size w213 wx)
      case first =>
        have lowd := low.drew
        have o98d := o98.drew
        go_wp2_with fail
        go_region_law (first
          | (go_simp; go_at_call 32; (with_reducible refine (toGarbled_own A1_1 A1_2 c1_1 c1_2 n1_1 n1_2 z1_1 z1_2 a1_0 _ ((ints_drew i1_1 low)) L1_1.out (by omega) ((ints_drew i1_2 low)) L1_2.out (by omega)).mono ?_); rintro e w234 ⟨X215, X216, rfl, o217, hb1⟩; (have ox := o98d.below hb1); (have bx0 := heap_below (w := w213.drew) b111 hb1); (have cx00 := (blk (i := 0) bx0 rfl).1); (have cx01 := (blk (i := 1) bx0 rfl).1); (have cx02 := (blk (i := 2) bx0 rfl).1))
          | (go_simp; go_at_call 25; (with_reducible refine (eqGarbled_same X96 X97 n1_1 n1_2 X215 X216 n1_1 n1_2 n1_1 n1_2 z1_1 z1_2 a1_0 _ ox.o1.ints o217.o1.ints L1_1.out (by omega) ox.o2.ints o217.o2.ints L1_2.out (by omega)).mono ?_); rintro e w235 ⟨rfl, hb2⟩))
        all_goals
          have hb := ((Below.refl w213.heap.size w213).drew.trans hb1).trans (hb2.mono (by have := hb1.size; exact this))
          go_wp2_with fail
          go_meet
          exact ⟨rfl, hb⟩
      case rest =>
        clear c218 c219 c220 c221 c222 c223 c224 c225 c226 c227 c228 c229 c230 c231 c232 c233
        obtain ⟨rfl, hb⟩ := hcut
        obtain ⟨w236, rfl⟩ : ∃ w236 : World, w236 = wc := ⟨_, rfl⟩
        replace b0 := heap_below b0 hb
        replace b1 := heap_below b1 hb
        replace i0_0 := i0_0.below (hb.mono low.size)
        replace i0_1 := i0_1.below (hb.mono low.size)
        replace i1_1 := i1_1.below (hb.mono low.size)
        replace i1_2 := i1_2.below (hb.mono low.size)
        replace o45 := o45.below hb
        replace bp46 := heap_below bp46 hb
        replace o72 := o72.below hb
        replace b83 := heap_below b83 hb
        replace o98 := o98.below hb
        replace b111 := heap_below b111 hb
        replace o150 := o150.below hb
        replace b155 := heap_below b155 hb
        replace low := low.trans (hb.mono low.size)
        have q237 := hb.size
        clear hb
        have c239 := (blk (i := 0) b0 rfl).1
        have c240 := (blk (i := 1) b0 rfl).1
        have c241 := (blk (i := 0) b1 rfl).1
        have c242 := (blk (i := 1) b1 rfl).1
        have c243 := (blk (i := 2) b1 rfl).1
        have c244 := (blk (i := 0) bp46 rfl).1
        have c245 := (blk (i := 1) bp46 rfl).1
        have c246 := (blk (i := 2) bp46 rfl).1
        have c247 := (blk (i := 0) b83 rfl).1
        have c248 := (blk (i := 1) b83 rfl).1
        have c249 := (blk (i := 0) b111 rfl).1
        have c250 := (blk (i := 1) b111 rfl).1
        have c251 := (blk (i := 2) b111 rfl).1
        have c252 := (blk (i := 0) b155 rfl).1
        have c253 := (blk (i := 1) b155 rfl).1
        have c254 := (blk (i := 2) b155 rfl).1
        go_wp2_with fail
        refine (markCircuit_own w65.heap.size (w81.heap.size) (1) X70 X71 n0_0 n0_1 n0_0 n0_1 z0_0 z0_1 w236 o72 (by omega) (by omega)).mono ?_
        rintro e w238 ⟨rfl, o255, mg, ms⟩
        clear o72
        clear ms
        replace b0 := mg.heap b0 (by omega)
        replace b1 := mg.heap b1 (by omega)
        replace i0_0 := i0_0.mid mg (by omega) low.size
        replace i0_1 := i0_1.mid mg (by omega) low.size
        replace i1_1 := i1_1.mid mg (by omega) low.size
        replace i1_2 := i1_2.mid mg (by omega) low.size
        replace o45 := o45.mid mg (by omega)
        replace bp46 := mg.heap bp46 (by omega)
        replace b83 := mg.heap b83 (by omega)
        replace o98 := o98.mid mg (by omega)
        replace b111 := mg.heap b111 (by omega)
        replace o150 := o150.mid mg (by omega)
        replace b155 := mg.heap b155 (by omega)
        replace low := mg.below low (by omega) low.size
        have q256 := mg.size
        clear mg
        clear o255
        clear b83
        clear c239 c240 c241 c242 c243 c244 c245 c246 c247 c248 c249 c250 c251 c252 c253 c254
        have c258 := (blk (i := 0) b0 rfl).1
        have c259 := (blk (i := 1) b0 rfl).1
        have c260 := (blk (i := 0) b1 rfl).1
        have c261 := (blk (i := 1) b1 rfl).1
        have c262 := (blk (i := 2) b1 rfl).1
        have c263 := (blk (i := 0) bp46 rfl).1
        have c264 := (blk (i := 1) bp46 rfl).1
        have c265 := (blk (i := 2) bp46 rfl).1
        have c266 := (blk (i := 0) b111 rfl).1
        have c267 := (blk (i := 1) b111 rfl).1
        have c268 := (blk (i := 2) b111 rfl).1
        have c269 := (blk (i := 0) b155 rfl).1
        have c270 := (blk (i := 1) b155 rfl).1
        have c271 := (blk (i := 2) b155 rfl).1
        go_wp2_with fail
        refine (markGarbled_own w95.heap.size (w109.heap.size) (1 + n0_0 * 3 + n0_1) X96 X97 n1_1 n1_2 n1_1 n1_2 z1_1 z1_2 a1_0 w238 o98 (by omega) (by omega)).mono ?_
        rintro e w257 ⟨rfl, o272, mg, ms⟩
        clear o98
        clear ms
        replace b0 := mg.heap b0 (by omega)
        replace b1 := mg.heap b1 (by omega)
        replace i0_0 := i0_0.mid mg (by omega) low.size
        replace i0_1 := i0_1.mid mg (by omega) low.size
        replace i1_1 := i1_1.mid mg (by omega) low.size
        replace i1_2 := i1_2.mid mg (by omega) low.size
        replace o45 := o45.mid mg (by omega)
        replace bp46 := mg.heap bp46 (by omega)
        replace b111 := mg.heap b111 (by omega)
        replace o150 := o150.mid mg (by omega)
        replace b155 := mg.heap b155 (by omega)
        replace low := mg.below low (by omega) low.size
        have q273 := mg.size
        clear mg
        clear o272
        clear b111
        clear c258 c259 c260 c261 c262 c263 c264 c265 c266 c267 c268 c269 c270 c271
        have c275 := (blk (i := 0) b0 rfl).1
        have c276 := (blk (i := 1) b0 rfl).1
        have c277 := (blk (i := 0) b1 rfl).1
        have c278 := (blk (i := 1) b1 rfl).1
        have c279 := (blk (i := 2) b1 rfl).1
        have c280 := (blk (i := 0) bp46 rfl).1
        have c281 := (blk (i := 1) bp46 rfl).1
        have c282 := (blk (i := 2) bp46 rfl).1
        have c283 := (blk (i := 0) b155 rfl).1
        have c284 := (blk (i := 1) b155 rfl).1
        have c285 := (blk (i := 2) b155 rfl).1
        go_wp2_with fail
        refine (eqPublic_same G141 G144 G147 d143 d146 d149 G36 G39 G42 d38 d41 d44 n37 n40 n43 R0 R1 R2 w257 o150.o0.ints o45.o0.ints L67.out (by omega) o150.o1.ints o45.o1.ints L68.out (by omega) o150.o2.ints o45.o2.ints L69.out (by omega)).mono ?_
        rintro e w274 ⟨rfl, hb⟩
        replace b0 := heap_below b0 hb
        replace b1 := heap_below b1 hb
        replace i0_0 := i0_0.below (hb.mono low.size)
        replace i0_1 := i0_1.below (hb.mono low.size)
        replace i1_1 := i1_1.below (hb.mono low.size)
        replace i1_2 := i1_2.below (hb.mono low.size)
        replace o45 := o45.below hb
        replace bp46 := heap_below bp46 hb
        replace o150 := o150.below hb
        replace b155 := heap_below b155 hb
        replace low := low.trans (hb.mono low.size)
        have q286 := hb.size
        clear hb
        clear c275 c276 c277 c278 c279 c280 c281 c282 c283 c284 c285
        have c288 := (blk (i := 0) b0 rfl).1
        have c289 := (blk (i := 1) b0 rfl).1
        have c290 := (blk (i := 0) b1 rfl).1
        have c291 := (blk (i := 1) b1 rfl).1
        have c292 := (blk (i := 2) b1 rfl).1
        have c293 := (blk (i := 0) bp46 rfl).1
        have c294 := (blk (i := 1) bp46 rfl).1
        have c295 := (blk (i := 2) bp46 rfl).1
        have c296 := (blk (i := 0) b155 rfl).1
        have c297 := (blk (i := 1) b155 rfl).1
        have c298 := (blk (i := 2) b155 rfl).1
        go_wp2_with fail
        refine (markPublic_own w126.heap.size (w127.heap.size) (1) G141 G144 G147 d143 d146 d149 n37 n40 n43 R0 R1 R2 w274 o150 (by omega) (by omega)).mono ?_
        rintro e w287 ⟨rfl, o299, mg, ms⟩
        clear o150
        clear ms
        replace b0 := mg.heap b0 (by omega)
        replace b1 := mg.heap b1 (by omega)
        replace i0_0 := i0_0.mid mg (by omega) low.size
        replace i0_1 := i0_1.mid mg (by omega) low.size
        replace i1_1 := i1_1.mid mg (by omega) low.size
        replace i1_2 := i1_2.mid mg (by omega) low.size
        replace o45 := o45.mid mg (by omega)
        replace bp46 := mg.heap bp46 (by omega)
        replace b155 := mg.heap b155 (by omega)
        replace low := mg.below low (by omega) low.size
        have q300 := mg.size
        clear mg
        clear c288 c289 c290 c291 c292 c293 c294 c295 c296 c297 c298
        have c301 := (blk (i := 0) b0 rfl).1
        have c302 := (blk (i := 1) b0 rfl).1
        have c303 := (blk (i := 0) b1 rfl).1
        have c304 := (blk (i := 1) b1 rfl).1
        have c305 := (blk (i := 2) b1 rfl).1
        have c306 := (blk (i := 0) bp46 rfl).1
        have c307 := (blk (i := 1) bp46 rfl).1
        have c308 := (blk (i := 2) bp46 rfl).1
        have c309 := (blk (i := 0) b155 rfl).1
        have c310 := (blk (i := 1) b155 rfl).1
        have c311 := (blk (i := 2) b155 rfl).1
        go_wp2_with fail
        refine (heldPublic_any (1) G141 G144 G147 d143 d146 d149 n37 n40 n43 w287 o299.o0.ints o299.o1.ints o299.o2.ints (by omega)).mono ?_
        rintro e w312 ⟨rfl, hb⟩
        replace b0 := heap_below b0 hb
        replace b1 := heap_below b1 hb
        replace i0_0 := i0_0.below (hb.mono low.size)
        replace i0_1 := i0_1.below (hb.mono low.size)
        replace i1_1 := i1_1.below (hb.mono low.size)
        replace i1_2 := i1_2.below (hb.mono low.size)
        replace o45 := o45.below hb
        replace bp46 := heap_below bp46 hb
        replace b155 := heap_below b155 hb
        replace o299 := o299.below hb
        replace low := low.trans (hb.mono low.size)
        have q313 := hb.size
        clear hb
        clear c301 c302 c303 c304 c305 c306 c307 c308 c309 c310 c311
        have c314 : w312.cell? ⟨w.heap.size, 0, none⟩ = some (.slice A0_0 n0_0 c0_0) := (blk (i := 0) b0 rfl).1
        have c315 : w312.cell? ⟨w.heap.size, 1, none⟩ = some (.slice A0_1 n0_1 c0_1) := (blk (i := 1) b0 rfl).1
        have c316 : w312.cell? ⟨w.heap.size + 1, 0, none⟩ = some (.int .i64 a1_0) := (blk (i := 0) b1 rfl).1
        have c317 : w312.cell? ⟨w.heap.size + 1, 1, none⟩ = some (.slice A1_1 n1_1 c1_1) := (blk (i := 1) b1 rfl).1
        have c318 : w312.cell? ⟨w.heap.size + 1, 2, none⟩ = some (.slice A1_2 n1_2 c1_2) := (blk (i := 2) b1 rfl).1
        have y319 := heap_lt b0
        have y320 := heap_lt b1
        have hp0 : (w312.alloc (.cells #[.slice none 0 0, .slice none 0 0, .slice none 0 0] 37)).drew.heap[w312.heap.size]? = some (.cells #[.slice none 0 0, .slice none 0 0, .slice none 0 0] 37 (0, 0)) := heap_alloc_new w312 _
        have r0 : Below w312.heap.size w312 w312.drew := (Below.refl _ _).drew
        have r1 : Below w312.heap.size w312 (w312.alloc (.cells #[.slice none 0 0, .slice none 0 0, .slice none 0 0] 37)).drew := (below_alloc _ _).drew
        have r2 := r1.size
        have r321 := cell_on c314 r1
        have r322 := cell_on c315 r1
        have r323 := cell_on c316 r1
        have r324 := cell_on c317 r1
        have r325 := cell_on c318 r1
        go_upto_region 31 with (fail)
        go_cut [15, 16] (fun s t0 wx => ∃ (p336 lo337 hi338 : Nat) (G326 G329 G332 : Option Addr) (n327 n330 n333 d328 d331 d334 : Nat), s = .pointer (some ⟨p336, 0, none⟩) ∧ t0 = .bool R3 ∧ BxdPublic w312 wx p336 lo337 hi338 G326 G329 G332 n327 n330 n333 d328 d331 d334 R0 R1 R2)
        case first =>
          go_wp2_with fail
          go_region_held3 (fun w' => w'.cell? ⟨w.heap.size, 0, none⟩ = some (.slice A0_0 n0_0 c0_0) ∧ w'.cell? ⟨w.heap.size, 1, none⟩ = some (.slice A0_1 n0_1 c0_1) ∧ w'.cell? ⟨w.heap.size + 1, 0, none⟩ = some (.int .i64 a1_0) ∧ w'.cell? ⟨w.heap.size + 1, 1, none⟩ = some (.slice A1_1 n1_1 c1_1) ∧ w'.cell? ⟨w.heap.size + 1, 2, none⟩ = some (.slice A1_2 n1_2 c1_2) ∧ Below w312.heap.size w312 w' ∧ w312.heap.size ≤ w'.heap.size) (first | with_reducible exact ⟨c314, c315, c316, c317, c318, r0, r0.size⟩ | with_reducible exact ⟨r321, r322, r323, r324, r325, r1, r2⟩ | with_reducible exact ⟨c314w343, c315w343, c316w343, c317w343, c318w343, hl345, zhl345⟩ | with_reducible exact ⟨cell_on c314w343 (below_alloc _ _), cell_on c315w343 (below_alloc _ _), cell_on c316w343 (below_alloc _ _), cell_on c317w343 (below_alloc _ _), cell_on c318w343 (below_alloc _ _), low_alloc hl345 _, (low_alloc hl345 _).size⟩ | with_reducible exact ⟨c314w349, c315w349, c316w349, c317w349, c318w349, hl351, zhl351⟩ | with_reducible exact ⟨cell_on c314w349 (below_alloc _ _), cell_on c315w349 (below_alloc _ _), cell_on c316w349 (below_alloc _ _), cell_on c317w349 (below_alloc _ _), cell_on c318w349 (below_alloc _ _), low_alloc hl351 _, (low_alloc hl351 _).size⟩ | with_reducible exact ⟨c314w352, c315w352, c316w352, c317w352, c318w352, hl354, zhl354⟩ | with_reducible exact ⟨cell_on c314w352 (below_alloc _ _), cell_on c315w352 (below_alloc _ _), cell_on c316w352 (below_alloc _ _), cell_on c317w352 (below_alloc _ _), cell_on c318w352 (below_alloc _ _), low_alloc hl354 _, (low_alloc hl354 _).size⟩ | with_reducible exact ⟨(far_one (far_one (far_one c314w352 (Nat.ne_of_lt y319) _) (Nat.ne_of_lt y319) _) (Nat.ne_of_lt y319) _), (far_one (far_one (far_one c315w352 (Nat.ne_of_lt y319) _) (Nat.ne_of_lt y319) _) (Nat.ne_of_lt y319) _), (far_one (far_one (far_one c316w352 (Nat.ne_of_lt y320) _) (Nat.ne_of_lt y320) _) (Nat.ne_of_lt y320) _), (far_one (far_one (far_one c317w352 (Nat.ne_of_lt y320) _) (Nat.ne_of_lt y320) _) (Nat.ne_of_lt y320) _), (far_one (far_one (far_one c318w352 (Nat.ne_of_lt y320) _) (Nat.ne_of_lt y320) _) (Nat.ne_of_lt y320) _), (Below.setCell (Below.setCell (Below.setCell hl354 (Nat.le_refl _) _) (Nat.le_refl _) _) (Nat.le_refl _) _), (show Below w312.heap.size w312 _ from (Below.setCell (Below.setCell (Below.setCell hl354 (Nat.le_refl _) _) (Nat.le_refl _) _) (Nat.le_refl _) _)).size⟩ | with_reducible exact ⟨(far_one (far_one (far_one c314w352 (Nat.ne_of_lt y319w343) _) (Nat.ne_of_lt y319w343) _) (Nat.ne_of_lt y319w343) _), (far_one (far_one (far_one c315w352 (Nat.ne_of_lt y319w343) _) (Nat.ne_of_lt y319w343) _) (Nat.ne_of_lt y319w343) _), (far_one (far_one (far_one c316w352 (Nat.ne_of_lt y320w343) _) (Nat.ne_of_lt y320w343) _) (Nat.ne_of_lt y320w343) _), (far_one (far_one (far_one c317w352 (Nat.ne_of_lt y320w343) _) (Nat.ne_of_lt y320w343) _) (Nat.ne_of_lt y320w343) _), (far_one (far_one (far_one c318w352 (Nat.ne_of_lt y320w343) _) (Nat.ne_of_lt y320w343) _) (Nat.ne_of_lt y320w343) _), (Below.setCell (Below.setCell (Below.setCell hl354 zhl345 _) zhl345 _) zhl345 _), (show Below w312.heap.size w312 _ from (Below.setCell (Below.setCell (Below.setCell hl354 zhl345 _) zhl345 _) zhl345 _)).size⟩ | with_reducible exact ⟨(far_one (far_one (far_one c314w352 (Nat.ne_of_lt y319w349) _) (Nat.ne_of_lt y319w349) _) (Nat.ne_of_lt y319w349) _), (far_one (far_one (far_one c315w352 (Nat.ne_of_lt y319w349) _) (Nat.ne_of_lt y319w349) _) (Nat.ne_of_lt y319w349) _), (far_one (far_one (far_one c316w352 (Nat.ne_of_lt y320w349) _) (Nat.ne_of_lt y320w349) _) (Nat.ne_of_lt y320w349) _), (far_one (far_one (far_one c317w352 (Nat.ne_of_lt y320w349) _) (Nat.ne_of_lt y320w349) _) (Nat.ne_of_lt y320w349) _), (far_one (far_one (far_one c318w352 (Nat.ne_of_lt y320w349) _) (Nat.ne_of_lt y320w349) _) (Nat.ne_of_lt y320w349) _), (Below.setCell (Below.setCell (Below.setCell hl354 zhl351 _) zhl351 _) zhl351 _), (show Below w312.heap.size w312 _ from (Below.setCell (Below.setCell (Below.setCell hl354 zhl351 _) zhl351 _) zhl351 _)).size⟩ | (refine ⟨?_, ?_, ?_, ?_, ?_, ?_, ?_⟩ <;> first | assumption | (go_keep; done) | (go_grown; done) | (go_size; done) | (simp; omega))) (first
            | (go_at_call 24; (with_reducible refine (toCircuit_own A0_0 A0_1 c0_0 c0_1 n0_0 n0_1 z0_0 z0_1 _ (ints_on i0_0 low (by first | assumption | exact low_alloc (by assumption) _ | exact (low_alloc (by assumption) _).drew)) L0_0.out (by omega) (ints_on i0_1 low (by first | assumption | exact low_alloc (by assumption) _ | exact (low_alloc (by assumption) _).drew)) L0_1.out (by omega)).mono ?_); rintro e w343 ⟨X340, X341, rfl, o342, hb344⟩; (have hl345 := below_on hb344 (show Below w312.heap.size w312 _ by first | assumption | exact low_alloc (by assumption) _ | exact (low_alloc (by assumption) _).drew)); (have zhl345 := hl345.size); (have y319w343 := Nat.lt_of_lt_of_le y319 zhl345); (have y320w343 := Nat.lt_of_lt_of_le y320 zhl345); (have c314w343 := cell_on c314 hl345); (have c315w343 := cell_on c315 hl345); (have c316w343 := cell_on c316 hl345); (have c317w343 := cell_on c317 hl345); (have c318w343 := cell_on c318 hl345); (first | (have hp1 := heap_below hp0 hb344; have hq1 := heap_lt hp1) | (have hp1 := heap_below (heap_alloc_new w312 (.cells #[.slice none 0 0, .slice none 0 0, .slice none 0 0] 37)) hb344; have hq1 := heap_lt hp1) | skip))
            | (go_at_call 32; (with_reducible refine (toGarbled_own A1_1 A1_2 c1_1 c1_2 n1_1 n1_2 z1_1 z1_2 a1_0 _ (ints_on i1_1 low (by first | assumption | exact low_alloc (by assumption) _ | exact (low_alloc (by assumption) _).drew)) L1_1.out (by omega) (ints_on i1_2 low (by first | assumption | exact low_alloc (by assumption) _ | exact (low_alloc (by assumption) _).drew)) L1_2.out (by omega)).mono ?_); rintro e w349 ⟨X346, X347, rfl, o348, hb350⟩; (have hl351 := below_on hb350 (show Below w312.heap.size w312 _ by first | assumption | exact low_alloc (by assumption) _ | exact (low_alloc (by assumption) _).drew)); (have zhl351 := hl351.size); (have y319w349 := Nat.lt_of_lt_of_le y319 zhl351); (have y320w349 := Nat.lt_of_lt_of_le y320 zhl351); (have c314w349 := cell_on c314 hl351); (have c315w349 := cell_on c315 hl351); (have c316w349 := cell_on c316 hl351); (have c317w349 := cell_on c317 hl351); (have c318w349 := cell_on c318 hl351); (replace o342 := o342.below (below_up hb350 (by first | exact Below.refl _ _ | exact below_alloc _ _ | exact (below_alloc _ _).drew | exact (Below.refl _ _).drew))); (first | (have hp2 := heap_below hp1 hb350; have hq2 := heap_lt hp2) | (have hp2 := heap_below (heap_alloc_new w343 (.cells #[.slice none 0 0, .slice none 0 0, .slice none 0 0] 37)) hb350; have hq2 := heap_lt hp2) | skip))
            | (go_at_call 13; (with_reducible refine (ex_impl_PublicOf X340 n0_0 n0_0 z0_0 X341 n0_1 n0_1 z0_1 a1_0 X346 n1_1 n1_1 z1_1 X347 n1_2 n1_2 z1_2 _ (by first | exact o342.o0.ints | exact Ints.al o342.o0.ints _) L0_0.out (by omega) (by first | exact o342.o1.ints | exact Ints.al o342.o1.ints _) L0_1.out (by omega) (by first | exact o348.o1.ints | exact Ints.al o348.o1.ints _) L1_1.out (by omega) (by first | exact o348.o2.ints | exact Ints.al o348.o2.ints _) L1_2.out (by omega)).mono ?_); intro e w352 h; (obtain ⟨G326, G329, G332, n327, n330, n333, d328, d331, d334, rfl, o335, hb353⟩ := E.out _ _ _ h); (have hl354 := below_on hb353 (show Below w312.heap.size w312 _ by first | assumption | exact low_alloc (by assumption) _ | exact (low_alloc (by assumption) _).drew)); (have zhl354 := hl354.size); (have yhl354 := hb353.size); (have y319w352 := Nat.lt_of_lt_of_le y319 zhl354); (have y320w352 := Nat.lt_of_lt_of_le y320 zhl354); (have c314w352 := cell_on c314 hl354); (have c315w352 := cell_on c315 hl354); (have c316w352 := cell_on c316 hl354); (have c317w352 := cell_on c317 hl354); (have c318w352 := cell_on c318 hl354); (first | (have hp3 := heap_below hp2 hb353; obtain ⟨zc0, zf0⟩ := blk (i := 0) hp3 rfl; obtain ⟨zc1, zf1⟩ := blk (i := 1) hp3 rfl; obtain ⟨zc2, zf2⟩ := blk (i := 2) hp3 rfl) | (have hp3 := heap_below (heap_alloc_new w349 (.cells #[.slice none 0 0, .slice none 0 0, .slice none 0 0] 37)) hb353; obtain ⟨zc0, zf0⟩ := blk (i := 0) hp3 rfl; obtain ⟨zc1, zf1⟩ := blk (i := 1) hp3 rfl; obtain ⟨zc2, zf2⟩ := blk (i := 2) hp3 rfl) | skip)))
          all_goals
            go_wp2_with fail
            go_meet
            first
              | exact ⟨_, _, _, _, _, _, _, _, _, _, _, _, rfl, rfl, BxdPublic.last o335 hl354 (by first | assumption | (simp <;> omega))⟩
              | exact ⟨_, _, _, _, _, _, _, _, _, _, _, _, rfl, rfl, BxdPublic.early o335 hl354 (by first | assumption | (simp <;> omega)) hp3 (by first | omega | (simp <;> omega)) (by first | omega | (simp <;> omega))⟩
        case rest =>
          clear hp0 r0 r1 r2 c314 c315 c316 c317 c318 y319 y320 r321 r322 r323 r324 r325
          obtain ⟨p336, lo337, hi338, G326, G329, G332, n327, n330, n333, d328, d331, d334, rfl, rfl, hN⟩ := hcut
          obtain ⟨w355, rfl⟩ : ∃ w355 : World, w355 = wc := ⟨_, rfl⟩
          have o335 := hN.own
          have bp336 := hN.box
          have qp336 := hN.at_
          have hb := hN.low
          clear hN
          replace b0 := heap_below b0 hb
          replace b1 := heap_below b1 hb
          replace i0_0 := i0_0.below (hb.mono low.size)
          replace i0_1 := i0_1.below (hb.mono low.size)
          replace i1_1 := i1_1.below (hb.mono low.size)
          replace i1_2 := i1_2.below (hb.mono low.size)
          replace o45 := o45.below hb
          replace bp46 := heap_below bp46 hb
          replace b155 := heap_below b155 hb
          replace o299 := o299.below hb
          replace low := low.trans (hb.mono low.size)
          have q356 := hb.size
          clear hb
          have hl357 := o335.o0.len1
          obtain rfl : n37 = n327 := by rw [← hl357, L67.out]
          clear hl357
          have hl358 := o335.o1.len1
          obtain rfl : n40 = n330 := by rw [← hl358, L68.out]
          clear hl358
          have hl359 := o335.o2.len1
          obtain rfl : n43 = n333 := by rw [← hl359, L69.out]
          clear hl359
          have c361 := (blk (i := 0) b0 rfl).1
          have c362 := (blk (i := 1) b0 rfl).1
          have c363 := (blk (i := 0) b1 rfl).1
          have c364 := (blk (i := 1) b1 rfl).1
          have c365 := (blk (i := 2) b1 rfl).1
          have c366 := (blk (i := 0) bp46 rfl).1
          have c367 := (blk (i := 1) bp46 rfl).1
          have c368 := (blk (i := 2) bp46 rfl).1
          have c369 := (blk (i := 0) b155 rfl).1
          have c370 := (blk (i := 1) b155 rfl).1
          have c371 := (blk (i := 2) b155 rfl).1
          have c372 := (blk (i := 0) bp336 rfl).1
          have c373 := (blk (i := 1) bp336 rfl).1
          have c374 := (blk (i := 2) bp336 rfl).1
          go_wp2_with fail
          refine (eqPublic_same G326 G329 G332 d328 d331 d334 G36 G39 G42 d38 d41 d44 n37 n40 n43 R0 R1 R2 w355 o335.o0.ints o45.o0.ints L67.out (by omega) o335.o1.ints o45.o1.ints L68.out (by omega) o335.o2.ints o45.o2.ints L69.out (by omega)).mono ?_
          rintro e w360 ⟨rfl, hb⟩
          replace b0 := heap_below b0 hb
          replace b1 := heap_below b1 hb
          replace i0_0 := i0_0.below (hb.mono low.size)
          replace i0_1 := i0_1.below (hb.mono low.size)
          replace i1_1 := i1_1.below (hb.mono low.size)
          replace i1_2 := i1_2.below (hb.mono low.size)
          replace o45 := o45.below hb
          replace bp46 := heap_below bp46 hb
          replace b155 := heap_below b155 hb
          replace o299 := o299.below hb
          replace o335 := o335.below hb
          replace bp336 := heap_below bp336 hb
          replace low := low.trans (hb.mono low.size)
          have q375 := hb.size
          clear hb
          clear c361 c362 c363 c364 c365 c366 c367 c368 c369 c370 c371 c372 c373 c374
          have c376 := (blk (i := 0) b0 rfl).1
          have c377 := (blk (i := 1) b0 rfl).1
          have c378 := (blk (i := 0) b1 rfl).1
          have c379 := (blk (i := 1) b1 rfl).1
          have c380 := (blk (i := 2) b1 rfl).1
          have c381 := (blk (i := 0) bp46 rfl).1
          have c382 := (blk (i := 1) bp46 rfl).1
          have c383 := (blk (i := 2) bp46 rfl).1
          have c384 := (blk (i := 0) b155 rfl).1
          have c385 := (blk (i := 1) b155 rfl).1
          have c386 := (blk (i := 2) b155 rfl).1
          have c387 := (blk (i := 0) bp336 rfl).1
          have c388 := (blk (i := 1) bp336 rfl).1
          have c389 := (blk (i := 2) bp336 rfl).1
          go_wp2_with fail
          refine (heldPublic_any (1) G141 G144 G147 d143 d146 d149 n37 n40 n43 w360 o299.o0.ints o299.o1.ints o299.o2.ints (by omega)).mono ?_
          rintro e w390 ⟨rfl, hb⟩
          replace b0 := heap_below b0 hb
          replace b1 := heap_below b1 hb
          replace i0_0 := i0_0.below (hb.mono low.size)
          replace i0_1 := i0_1.below (hb.mono low.size)
          replace i1_1 := i1_1.below (hb.mono low.size)
          replace i1_2 := i1_2.below (hb.mono low.size)
          replace o45 := o45.below hb
          replace bp46 := heap_below bp46 hb
          replace b155 := heap_below b155 hb
          replace o299 := o299.below hb
          replace o335 := o335.below hb
          replace bp336 := heap_below bp336 hb
          replace low := low.trans (hb.mono low.size)
          have q391 := hb.size
          clear hb
          clear c376 c377 c378 c379 c380 c381 c382 c383 c384 c385 c386 c387 c388 c389
          have c392 := (blk (i := 0) b0 rfl).1
          have c393 := (blk (i := 1) b0 rfl).1
          have c394 := (blk (i := 0) b1 rfl).1
          have c395 := (blk (i := 1) b1 rfl).1
          have c396 := (blk (i := 2) b1 rfl).1
          have c397 := (blk (i := 0) bp46 rfl).1
          have c398 := (blk (i := 1) bp46 rfl).1
          have c399 := (blk (i := 2) bp46 rfl).1
          have c400 := (blk (i := 0) b155 rfl).1
          have c401 := (blk (i := 1) b155 rfl).1
          have c402 := (blk (i := 2) b155 rfl).1
          have c403 := (blk (i := 0) bp336 rfl).1
          have c404 := (blk (i := 1) bp336 rfl).1
          have c405 := (blk (i := 2) bp336 rfl).1
          go_wp2_with fail
          go_ret
          exact ⟨by first | rfl | simp, low⟩
end Go.Proofs.Ytfpcjgolcbjnjaa

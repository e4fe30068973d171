/- The law FnExactGarble: the walk. -/
import Derived.Test.YtfpcjgolcbjnjaaProg
import Derived.Test.YtfpcjgolcbjnjaaB1
import Derived.Test.YtfpcjgolcbjnjaaC1
import Derived.Test.YtfpcjgolcbjnjaaSGarbled
import Derived.Test.YtfpcjgolcbjnjaaGbX
import Derived.Test.YtfpcjgolcbjnjaaTapeX
namespace Go.Proofs.Ytfpcjgolcbjnjaa
open Go Go.RowKit
set_option maxRecDepth 100000 in
set_option maxHeartbeats 2000000 in
theorem FnExactGarble_walk (A0_0 : Option Addr) (n0_0 c0_0 : Nat) (z0_0 : List Int) (A0_1 : Option Addr) (n0_1 c0_1 : Nat) (z0_1 : List Int) (a1_0 : Int) (a1_1 : Int) (w : World) (h0_0 : Ints w A0_0 z0_0) (l0_0 : z0_0.length = n0_0 * 3) (m0_0 : n0_0 ≤ 9223372036854775807) (h0_1 : Ints w A0_1 z0_1) (l0_1 : z0_1.length = n0_1) (m0_1 : n0_1 ≤ 9223372036854775807) (_h1_0 : (Lit.int .i64 a1_0).wf = true) (_h1_1 : (Lit.int .i64 a1_1).wf = true) :
    Calls Try.prog 6 #[.agg #[.slice A0_0 n0_0 c0_0, .slice A0_1 n0_1 c0_1], .agg #[.int .i64 a1_0, .int .i64 a1_1]] w fun e w' => e = .returned (.bool true) ∧ Below w.heap.size w w' := by
  have low : Below w.heap.size w ((w.alloc (.cells #[.slice A0_0 n0_0 c0_0, .slice A0_1 n0_1 c0_1] 52)).alloc (.cells #[.int .i64 a1_0, .int .i64 a1_1] 47)) := (low_alloc ((low_alloc (Below.refl _ _) _)) _)
  have L0_0 := Lib.hid l0_0
  have i0_0 := h0_0.bound.below low
  have L0_1 := Lib.hid l0_1
  have i0_1 := h0_1.bound.below low
  clear h0_0 l0_0 h0_1 l0_1
  have b0 := new_at w (.cells #[.slice A0_0 n0_0 c0_0, .slice A0_1 n0_1 c0_1] 52) (w.heap.size) (by simp)
  replace b0 := heap_alloc b0 (.cells #[.int .i64 a1_0, .int .i64 a1_1] 47)
  have b1 := new_at (w.alloc (.cells #[.slice A0_0 n0_0 c0_0, .slice A0_1 n0_1 c0_1] 52)) (.cells #[.int .i64 a1_0, .int .i64 a1_1] 47) (w.heap.size + 1) (by simp)
  go_enter Try.func6, Try.ntmps6
  have c1 := (blk (i := 0) b0 rfl).1
  have c2 := (blk (i := 1) b0 rfl).1
  have c3 := (blk (i := 0) b1 rfl).1
  have c4 := (blk (i := 1) b1 rfl).1
  go_wp2_with fail
  generalize hw0 : ((w.alloc (.cells #[.slice A0_0 n0_0 c0_0, .slice A0_1 n0_1 c0_1] 52)).alloc (.cells #[.int .i64 a1_0, .int .i64 a1_1] 47)) = v0 at *
  clear hw0
  have q0 := low.size
  have q00 := heap_lt b0
  have q01 := heap_lt b1
  clear c1 c2 c3 c4
  have c8 := (blk (i := 0) b0 rfl).1
  have c9 := (blk (i := 1) b0 rfl).1
  have c10 := (blk (i := 0) b1 rfl).1
  have c11 := (blk (i := 1) b1 rfl).1
  go_wp2_with fail
  have s5 := szCircuit_any 1048576 A0_0 A0_1 c0_0 c0_1 n0_0 n0_1 v0 (by omega) m0_0 m0_1
  unfold Sized at s5
  by_cases hn0 : n0_0 + n0_1 ≤ 1048576
  case neg =>
    rw [show szRes 1048576 (n0_0 + n0_1) = -1 by rw [szRes, if_neg hn0]] at s5
    refine s5.mono ?_
    rintro e w7 ⟨rfl, hb⟩
    go_wp2_with fail
    go_ret
    exact ⟨rfl, low.trans (hb.mono low.size)⟩
  rw [show szRes 1048576 (n0_0 + n0_1) = ((1048576 - (n0_0 + n0_1) : Nat) : Int) by rw [szRes, if_pos hn0]] at s5
  have mm0_0 : n0_0 ≤ 1048576 := by omega
  have mm0_1 : n0_1 ≤ 1048576 := by omega
  have zf6 : 1048576 - (n0_0 + n0_1) ≤ 1048576 := by omega
  clear hn0 m0_0 m0_1
  generalize 1048576 - (n0_0 + n0_1) = f6 at *
  refine s5.mono ?_
  rintro e w7 ⟨rfl, hb⟩
  clear s5
  replace b0 := heap_below b0 hb
  replace b1 := heap_below b1 hb
  replace i0_0 := i0_0.below (hb.mono low.size)
  replace i0_1 := i0_1.below (hb.mono low.size)
  replace low := low.trans (hb.mono low.size)
  have q12 := hb.size
  clear hb
  have yf6 : (0 : Int) ≤ f6 := by omega
  obtain ⟨R0, hR0⟩ : ∃ r, garD z0_0 n0_0 z0_1 a1_0 a1_1 = r := ⟨_, rfl⟩
  obtain ⟨R1, hR1, bR1⟩ : ∃ r : List Int, garZ z0_0 n0_0 z0_1 a1_0 a1_1 = r ∧ r.length ≤ 1900000 := ⟨_, rfl, by have := garZ_length z0_0 n0_0 z0_1 a1_0 a1_1; omega⟩
  obtain ⟨R2, hR2, bR2⟩ : ∃ r : List Int, garT z0_0 n0_0 z0_1 a1_0 a1_1 = r ∧ r.length ≤ 1900000 := ⟨_, rfl, by have := garT_length z0_0 n0_0 z0_1 a1_0 a1_1; omega⟩
  obtain ⟨R3, hR3⟩ : ∃ r, decide (garOk z0_0 n0_0 z0_1 a1_0 a1_1) = r := ⟨_, rfl⟩
  have E := Lib.hid (show ∀ w e w', Post_Garbled_bool (garD z0_0 n0_0 z0_1 a1_0 a1_1) (garZ z0_0 n0_0 z0_1 a1_0 a1_1) (garT z0_0 n0_0 z0_1 a1_0 a1_1) (decide (garOk z0_0 n0_0 z0_1 a1_0 a1_1)) w e w' → Post_Garbled_bool R0 R1 R2 R3 w e w' from by subst hR0 hR1 hR2 hR3; intro _ _ _ h; exact h)
  clear hR0 hR1 hR2 hR3
  clear c8 c9 c10 c11
  have c13 : w7.cell? ⟨w.heap.size, 0, none⟩ = some (.slice A0_0 n0_0 c0_0) := (blk (i := 0) b0 rfl).1
  have c14 : w7.cell? ⟨w.heap.size, 1, none⟩ = some (.slice A0_1 n0_1 c0_1) := (blk (i := 1) b0 rfl).1
  have c15 : w7.cell? ⟨w.heap.size + 1, 0, none⟩ = some (.int .i64 a1_0) := (blk (i := 0) b1 rfl).1
  have c16 : w7.cell? ⟨w.heap.size + 1, 1, none⟩ = some (.int .i64 a1_1) := (blk (i := 1) b1 rfl).1
  have y17 := heap_lt b0
  have y18 := heap_lt b1
  have hp0 : (w7.alloc (.cells #[.int .i64 0, .slice none 0 0, .slice none 0 0] 33)).drew.heap[w7.heap.size]? = some (.cells #[.int .i64 0, .slice none 0 0, .slice none 0 0] 33 (0, 0)) := heap_alloc_new w7 _
  have r0 : Below w7.heap.size w7 w7.drew := (Below.refl _ _).drew
  have r1 : Below w7.heap.size w7 (w7.alloc (.cells #[.int .i64 0, .slice none 0 0, .slice none 0 0] 33)).drew := (below_alloc _ _).drew
  have r2 := r1.size
  have r19 := cell_on c13 r1
  have r20 := cell_on c14 r1
  have r21 := cell_on c15 r1
  have r22 := cell_on c16 r1
  go_upto_region 5 with (fail)
  go_cut [6, 7] (fun s t0 wx => ∃ (p30 lo31 hi32 : Nat) (G23 G26 : Option Addr) (n24 n27 d25 d28 : Nat), s = .pointer (some ⟨p30, 0, none⟩) ∧ t0 = .bool R3 ∧ BxdGarbled w7 wx p30 lo31 hi32 G23 G26 n24 n27 d25 d28 R0 R1 R2)
  case first =>
    go_wp2_with fail
    go_region_held3 (fun w' => w'.cell? ⟨w.heap.size, 0, none⟩ = some (.slice A0_0 n0_0 c0_0) ∧ w'.cell? ⟨w.heap.size, 1, none⟩ = some (.slice A0_1 n0_1 c0_1) ∧ w'.cell? ⟨w.heap.size + 1, 0, none⟩ = some (.int .i64 a1_0) ∧ w'.cell? ⟨w.heap.size + 1, 1, none⟩ = some (.int .i64 a1_1) ∧ Below w7.heap.size w7 w' ∧ w7.heap.size ≤ w'.heap.size) (first | with_reducible exact ⟨c13, c14, c15, c16, r0, r0.size⟩ | with_reducible exact ⟨r19, r20, r21, r22, r1, r2⟩ | with_reducible exact ⟨c13w37, c14w37, c15w37, c16w37, hl39, zhl39⟩ | with_reducible exact ⟨cell_on c13w37 (below_alloc _ _), cell_on c14w37 (below_alloc _ _), cell_on c15w37 (below_alloc _ _), cell_on c16w37 (below_alloc _ _), low_alloc hl39 _, (low_alloc hl39 _).size⟩ | with_reducible exact ⟨c13w40, c14w40, c15w40, c16w40, hl42, zhl42⟩ | with_reducible exact ⟨cell_on c13w40 (below_alloc _ _), cell_on c14w40 (below_alloc _ _), cell_on c15w40 (below_alloc _ _), cell_on c16w40 (below_alloc _ _), low_alloc hl42 _, (low_alloc hl42 _).size⟩ | with_reducible exact ⟨c13w43, c14w43, c15w43, c16w43, hl45, zhl45⟩ | with_reducible exact ⟨cell_on c13w43 (below_alloc _ _), cell_on c14w43 (below_alloc _ _), cell_on c15w43 (below_alloc _ _), cell_on c16w43 (below_alloc _ _), low_alloc hl45 _, (low_alloc hl45 _).size⟩ | with_reducible exact ⟨(far_one (far_one (far_one c13w43 (Nat.ne_of_lt y17) _) (Nat.ne_of_lt y17) _) (Nat.ne_of_lt y17) _), (far_one (far_one (far_one c14w43 (Nat.ne_of_lt y17) _) (Nat.ne_of_lt y17) _) (Nat.ne_of_lt y17) _), (far_one (far_one (far_one c15w43 (Nat.ne_of_lt y18) _) (Nat.ne_of_lt y18) _) (Nat.ne_of_lt y18) _), (far_one (far_one (far_one c16w43 (Nat.ne_of_lt y18) _) (Nat.ne_of_lt y18) _) (Nat.ne_of_lt y18) _), (Below.setCell (Below.setCell (Below.setCell hl45 (Nat.le_refl _) _) (Nat.le_refl _) _) (Nat.le_refl _) _), (show Below w7.heap.size w7 _ from (Below.setCell (Below.setCell (Below.setCell hl45 (Nat.le_refl _) _) (Nat.le_refl _) _) (Nat.le_refl _) _)).size⟩ | with_reducible exact ⟨(far_one (far_one (far_one c13w43 (Nat.ne_of_lt y17w37) _) (Nat.ne_of_lt y17w37) _) (Nat.ne_of_lt y17w37) _), (far_one (far_one (far_one c14w43 (Nat.ne_of_lt y17w37) _) (Nat.ne_of_lt y17w37) _) (Nat.ne_of_lt y17w37) _), (far_one (far_one (far_one c15w43 (Nat.ne_of_lt y18w37) _) (Nat.ne_of_lt y18w37) _) (Nat.ne_of_lt y18w37) _), (far_one (far_one (far_one c16w43 (Nat.ne_of_lt y18w37) _) (Nat.ne_of_lt y18w37) _) (Nat.ne_of_lt y18w37) _), (Below.setCell (Below.setCell (Below.setCell hl45 zhl39 _) zhl39 _) zhl39 _), (show Below w7.heap.size w7 _ from (Below.setCell (Below.setCell (Below.setCell hl45 zhl39 _) zhl39 _) zhl39 _)).size⟩ | with_reducible exact ⟨(far_one (far_one (far_one c13w43 (Nat.ne_of_lt y17w40) _) (Nat.ne_of_lt y17w40) _) (Nat.ne_of_lt y17w40) _), (far_one (far_one (far_one c14w43 (Nat.ne_of_lt y17w40) _) (Nat.ne_of_lt y17w40) _) (Nat.ne_of_lt y17w40) _), (far_one (far_one (far_one c15w43 (Nat.ne_of_lt y18w40) _) (Nat.ne_of_lt y18w40) _) (Nat.ne_of_lt y18w40) _), (far_one (far_one (far_one c16w43 (Nat.ne_of_lt y18w40) _) (Nat.ne_of_lt y18w40) _) (Nat.ne_of_lt y18w40) _), (Below.setCell (Below.setCell (Below.setCell hl45 zhl42 _) zhl42 _) zhl42 _), (show Below w7.heap.size w7 _ from (Below.setCell (Below.setCell (Below.setCell hl45 zhl42 _) zhl42 _) zhl42 _)).size⟩ | (refine ⟨?_, ?_, ?_, ?_, ?_, ?_⟩ <;> first | assumption | (go_keep; done) | (go_grown; done) | (go_size; done) | (simp; omega))) (first
      | (go_at_call 24; (with_reducible refine (toCircuit_own A0_0 A0_1 c0_0 c0_1 n0_0 n0_1 z0_0 z0_1 _ (ints_on i0_0 low (by first | assumption | exact low_alloc (by assumption) _ | exact (low_alloc (by assumption) _).drew)) L0_0.out (by omega) (ints_on i0_1 low (by first | assumption | exact low_alloc (by assumption) _ | exact (low_alloc (by assumption) _).drew)) L0_1.out (by omega)).mono ?_); rintro e w37 ⟨X34, X35, rfl, o36, hb38⟩; (have hl39 := below_on hb38 (show Below w7.heap.size w7 _ by first | assumption | exact low_alloc (by assumption) _ | exact (low_alloc (by assumption) _).drew)); (have zhl39 := hl39.size); (have y17w37 := Nat.lt_of_lt_of_le y17 zhl39); (have y18w37 := Nat.lt_of_lt_of_le y18 zhl39); (have c13w37 := cell_on c13 hl39); (have c14w37 := cell_on c14 hl39); (have c15w37 := cell_on c15 hl39); (have c16w37 := cell_on c16 hl39); (first | (have hp1 := heap_below hp0 hb38; have hq1 := heap_lt hp1) | (have hp1 := heap_below (heap_alloc_new w7 (.cells #[.int .i64 0, .slice none 0 0, .slice none 0 0] 33)) hb38; have hq1 := heap_lt hp1) | skip))
      | (go_at_call 21; (with_reducible refine (toTape_any a1_0 a1_1 _).mono ?_); rintro e w40 ⟨rfl, hb41⟩; (have hl42 := below_on hb41 (show Below w7.heap.size w7 _ by first | assumption | exact low_alloc (by assumption) _ | exact (low_alloc (by assumption) _).drew)); (have zhl42 := hl42.size); (have y17w40 := Nat.lt_of_lt_of_le y17 zhl42); (have y18w40 := Nat.lt_of_lt_of_le y18 zhl42); (have c13w40 := cell_on c13 hl42); (have c14w40 := cell_on c14 hl42); (have c15w40 := cell_on c15 hl42); (have c16w40 := cell_on c16 hl42); (replace o36 := o36.below (below_up hb41 (by first | exact Below.refl _ _ | exact below_alloc _ _ | exact (below_alloc _ _).drew | exact (Below.refl _ _).drew))); (first | (have hp2 := heap_below hp1 hb41; have hq2 := heap_lt hp2) | (have hp2 := heap_below (heap_alloc_new w37 (.cells #[.int .i64 0, .slice none 0 0, .slice none 0 0] 33)) hb41; have hq2 := heap_lt hp2) | skip))
      | (go_at_call 23; (with_reducible refine (ex_spec_Garble X34 n0_0 n0_0 z0_0 X35 n0_1 n0_1 z0_1 a1_0 a1_1 _ (by first | exact o36.o0.ints | exact Ints.al o36.o0.ints _) L0_0.out (by omega) (by first | exact o36.o1.ints | exact Ints.al o36.o1.ints _) L0_1.out (by omega)).mono ?_); intro e w43 h; (obtain ⟨G23, G26, n24, n27, d25, d28, rfl, o29, hb44⟩ := E.out _ _ _ h); (have hl45 := below_on hb44 (show Below w7.heap.size w7 _ by first | assumption | exact low_alloc (by assumption) _ | exact (low_alloc (by assumption) _).drew)); (have zhl45 := hl45.size); (have yhl45 := hb44.size); (have y17w43 := Nat.lt_of_lt_of_le y17 zhl45); (have y18w43 := Nat.lt_of_lt_of_le y18 zhl45); (have c13w43 := cell_on c13 hl45); (have c14w43 := cell_on c14 hl45); (have c15w43 := cell_on c15 hl45); (have c16w43 := cell_on c16 hl45); (first | (have hp3 := heap_below hp2 hb44; obtain ⟨zc0, zf0⟩ := blk (i := 0) hp3 rfl; obtain ⟨zc1, zf1⟩ := blk (i := 1) hp3 rfl; obtain ⟨zc2, zf2⟩ := blk (i := 2) hp3 rfl) | (have hp3 := heap_below (heap_alloc_new w40 (.cells #[.int .i64 0, .slice none 0 0, .slice none 0 0] 33)) hb44; obtain ⟨zc0, zf0⟩ := blk (i := 0) hp3 rfl; obtain ⟨zc1, zf1⟩ := blk (i := 1) hp3 rfl; obtain ⟨zc2, zf2⟩ := blk (i := 2) hp3 rfl) | skip)))
    all_goals
      go_wp2_with fail
      go_meet
      first
        | exact ⟨_, _, _, _, _, _, _, _, _, rfl, rfl, BxdGarbled.last o29 hl45 (by first | assumption | (simp <;> omega))⟩
        | exact ⟨_, _, _, _, _, _, _, _, _, rfl, rfl, BxdGarbled.early o29 hl45 (by first | assumption | (simp <;> omega)) hp3 (by first | omega | (simp <;> omega)) (by first | omega | (simp <;> omega))⟩
  case rest =>
    clear hp0 r0 r1 r2 c13 c14 c15 c16 y17 y18 r19 r20 r21 r22
    obtain ⟨p30, lo31, hi32, G23, G26, n24, n27, d25, d28, rfl, rfl, hN⟩ := hcut
    obtain ⟨w46, rfl⟩ : ∃ w46 : World, w46 = wc := ⟨_, rfl⟩
    have o29 := hN.own
    have bp30 := hN.box
    have qp30 := hN.at_
    have hb := hN.low
    clear hN
    replace b0 := heap_below b0 hb
    replace b1 := heap_below b1 hb
    replace i0_0 := i0_0.below (hb.mono low.size)
    replace i0_1 := i0_1.below (hb.mono low.size)
    replace low := low.trans (hb.mono low.size)
    have q47 := hb.size
    clear hb
    have L48 := Lib.hid (o29.o1.len1)
    have bnL48 : n24 ≤ 1900000 := by rw [← L48.out]; exact bR1
    have L49 := Lib.hid (o29.o2.len1)
    have bnL49 : n27 ≤ 1900000 := by rw [← L49.out]; exact bR2
    have c53 := (blk (i := 0) b0 rfl).1
    have c54 := (blk (i := 1) b0 rfl).1
    have c55 := (blk (i := 0) b1 rfl).1
    have c56 := (blk (i := 1) b1 rfl).1
    have c57 := (blk (i := 0) bp30 rfl).1
    have c58 := (blk (i := 1) bp30 rfl).1
    have c59 := (blk (i := 2) bp30 rfl).1
    go_wp2_with fail
    refine (toCircuit_own A0_0 A0_1 c0_0 c0_1 n0_0 n0_1 z0_0 z0_1 w46 (i0_0.ints low.size) L0_0.out (by omega) (i0_1.ints low.size) L0_1.out (by omega)).mono ?_
    rintro e w60 ⟨X50, X51, rfl, o52, hb⟩
    replace b0 := heap_below b0 hb
    replace b1 := heap_below b1 hb
    replace i0_0 := i0_0.below (hb.mono low.size)
    replace i0_1 := i0_1.below (hb.mono low.size)
    replace o29 := o29.below hb
    replace bp30 := heap_below bp30 hb
    replace low := low.trans (hb.mono low.size)
    have q61 := hb.size
    clear hb
    replace b0 := heap_alloc b0 (.cells #[.slice X50 n0_0 n0_0, .slice X51 n0_1 n0_1] 27)
    replace b1 := heap_alloc b1 (.cells #[.slice X50 n0_0 n0_0, .slice X51 n0_1 n0_1] 27)
    replace i0_0 := i0_0.below ((below_alloc _ (.cells #[.slice X50 n0_0 n0_0, .slice X51 n0_1 n0_1] 27)).mono low.size)
    replace i0_1 := i0_1.below ((below_alloc _ (.cells #[.slice X50 n0_0 n0_0, .slice X51 n0_1 n0_1] 27)).mono low.size)
    replace o29 := o29.alloc (.cells #[.slice X50 n0_0 n0_0, .slice X51 n0_1 n0_1] 27)
    replace bp30 := heap_alloc bp30 (.cells #[.slice X50 n0_0 n0_0, .slice X51 n0_1 n0_1] 27)
    replace o52 := o52.alloc (.cells #[.slice X50 n0_0 n0_0, .slice X51 n0_1 n0_1] 27)
    replace low := low_alloc low (.cells #[.slice X50 n0_0 n0_0, .slice X51 n0_1 n0_1] 27)
    have b62 := heap_alloc_new w60 (.cells #[.slice X50 n0_0 n0_0, .slice X51 n0_1 n0_1] 27)
    have q63 := heap_lt b62
    clear c53 c54 c55 c56 c57 c58 c59
    have c64 := (blk (i := 0) b0 rfl).1
    have c65 := (blk (i := 1) b0 rfl).1
    have c66 := (blk (i := 0) b1 rfl).1
    have c67 := (blk (i := 1) b1 rfl).1
    have c68 := (blk (i := 0) bp30 rfl).1
    have c69 := (blk (i := 1) bp30 rfl).1
    have c70 := (blk (i := 2) bp30 rfl).1
    have c71 := (blk (i := 0) b62 rfl).1
    have c72 := (blk (i := 1) b62 rfl).1
    go_wp2_with fail
    generalize hg : (w60.alloc (.cells #[.slice X50 n0_0 n0_0, .slice X51 n0_1 n0_1] 27)) = w73 at *
    clear hg
    clear c64 c65 c66 c67 c68 c69 c70 c71 c72
    have c74 : w73.cell? ⟨w60.heap.size, 0, none⟩ = some (.slice X50 n0_0 n0_0) := (blk (i := 0) b62 rfl).1
    have c75 : w73.cell? ⟨w60.heap.size, 1, none⟩ = some (.slice X51 n0_1 n0_1) := (blk (i := 1) b62 rfl).1
    have c76 : w73.cell? ⟨w.heap.size + 1, 0, none⟩ = some (.int .i64 a1_0) := (blk (i := 0) b1 rfl).1
    have c77 : w73.cell? ⟨w.heap.size + 1, 1, none⟩ = some (.int .i64 a1_1) := (blk (i := 1) b1 rfl).1
    have y78 := heap_lt b62
    have y79 := heap_lt b1
    have hp0 : (w73.alloc (.cells #[.int .i64 0, .slice none 0 0, .slice none 0 0] 33)).drew.heap[w73.heap.size]? = some (.cells #[.int .i64 0, .slice none 0 0, .slice none 0 0] 33 (0, 0)) := heap_alloc_new w73 _
    have r0 : Below w73.heap.size w73 w73.drew := (Below.refl _ _).drew
    have r1 : Below w73.heap.size w73 (w73.alloc (.cells #[.int .i64 0, .slice none 0 0, .slice none 0 0] 33)).drew := (below_alloc _ _).drew
    have r2 := r1.size
    have r80 := cell_on c74 r1
    have r81 := cell_on c75 r1
    have r82 := cell_on c76 r1
    have r83 := cell_on c77 r1
    go_upto_region 7 with (fail)
    go_cut [9, 10] (fun s t0 wx => ∃ (p91 lo92 hi93 : Nat) (G84 G87 : Option Addr) (n85 n88 d86 d89 : Nat), s = .pointer (some ⟨p91, 0, none⟩) ∧ t0 = .bool R3 ∧ BxdGarbled w73 wx p91 lo92 hi93 G84 G87 n85 n88 d86 d89 R0 R1 R2)
    case first =>
      go_wp2_with fail
      go_region_held3 (fun w' => w'.cell? ⟨w60.heap.size, 0, none⟩ = some (.slice X50 n0_0 n0_0) ∧ w'.cell? ⟨w60.heap.size, 1, none⟩ = some (.slice X51 n0_1 n0_1) ∧ w'.cell? ⟨w.heap.size + 1, 0, none⟩ = some (.int .i64 a1_0) ∧ w'.cell? ⟨w.heap.size + 1, 1, none⟩ = some (.int .i64 a1_1) ∧ Below w73.heap.size w73 w' ∧ w73.heap.size ≤ w'.heap.size) (first | with_reducible exact ⟨c74, c75, c76, c77, r0, r0.size⟩ | with_reducible exact ⟨r80, r81, r82, r83, r1, r2⟩ | with_reducible exact ⟨c74w95, c75w95, c76w95, c77w95, hl97, zhl97⟩ | with_reducible exact ⟨cell_on c74w95 (below_alloc _ _), cell_on c75w95 (below_alloc _ _), cell_on c76w95 (below_alloc _ _), cell_on c77w95 (below_alloc _ _), low_alloc hl97 _, (low_alloc hl97 _).size⟩ | with_reducible exact ⟨c74w98, c75w98, c76w98, c77w98, hl100, zhl100⟩ | with_reducible exact ⟨cell_on c74w98 (below_alloc _ _), cell_on c75w98 (below_alloc _ _), cell_on c76w98 (below_alloc _ _), cell_on c77w98 (below_alloc _ _), low_alloc hl100 _, (low_alloc hl100 _).size⟩ | with_reducible exact ⟨(far_one (far_one (far_one c74w98 (Nat.ne_of_lt y78) _) (Nat.ne_of_lt y78) _) (Nat.ne_of_lt y78) _), (far_one (far_one (far_one c75w98 (Nat.ne_of_lt y78) _) (Nat.ne_of_lt y78) _) (Nat.ne_of_lt y78) _), (far_one (far_one (far_one c76w98 (Nat.ne_of_lt y79) _) (Nat.ne_of_lt y79) _) (Nat.ne_of_lt y79) _), (far_one (far_one (far_one c77w98 (Nat.ne_of_lt y79) _) (Nat.ne_of_lt y79) _) (Nat.ne_of_lt y79) _), (Below.setCell (Below.setCell (Below.setCell hl100 (Nat.le_refl _) _) (Nat.le_refl _) _) (Nat.le_refl _) _), (show Below w73.heap.size w73 _ from (Below.setCell (Below.setCell (Below.setCell hl100 (Nat.le_refl _) _) (Nat.le_refl _) _) (Nat.le_refl _) _)).size⟩ | with_reducible exact ⟨(far_one (far_one (far_one c74w98 (Nat.ne_of_lt y78w95) _) (Nat.ne_of_lt y78w95) _) (Nat.ne_of_lt y78w95) _), (far_one (far_one (far_one c75w98 (Nat.ne_of_lt y78w95) _) (Nat.ne_of_lt y78w95) _) (Nat.ne_of_lt y78w95) _), (far_one (far_one (far_one c76w98 (Nat.ne_of_lt y79w95) _) (Nat.ne_of_lt y79w95) _) (Nat.ne_of_lt y79w95) _), (far_one (far_one (far_one c77w98 (Nat.ne_of_lt y79w95) _) (Nat.ne_of_lt y79w95) _) (Nat.ne_of_lt y79w95) _), (Below.setCell (Below.setCell (Below.setCell hl100 zhl97 _) zhl97 _) zhl97 _), (show Below w73.heap.size w73 _ from (Below.setCell (Below.setCell (Below.setCell hl100 zhl97 _) zhl97 _) zhl97 _)).size⟩ | (refine ⟨?_, ?_, ?_, ?_, ?_, ?_⟩ <;> first | assumption | (go_keep; done) | (go_grown; done) | (go_size; done) | (simp; omega))) (first
        | (go_at_call 21; (with_reducible refine (toTape_any a1_0 a1_1 _).mono ?_); rintro e w95 ⟨rfl, hb96⟩; (have hl97 := below_on hb96 (show Below w73.heap.size w73 _ by first | assumption | exact low_alloc (by assumption) _ | exact (low_alloc (by assumption) _).drew)); (have zhl97 := hl97.size); (have y78w95 := Nat.lt_of_lt_of_le y78 zhl97); (have y79w95 := Nat.lt_of_lt_of_le y79 zhl97); (have c74w95 := cell_on c74 hl97); (have c75w95 := cell_on c75 hl97); (have c76w95 := cell_on c76 hl97); (have c77w95 := cell_on c77 hl97); (first | (have hp1 := heap_below hp0 hb96; have hq1 := heap_lt hp1) | (have hp1 := heap_below (heap_alloc_new w73 (.cells #[.int .i64 0, .slice none 0 0, .slice none 0 0] 33)) hb96; have hq1 := heap_lt hp1) | skip))
        | (go_at_call 12; (with_reducible refine (ex_impl_Garble X50 n0_0 n0_0 z0_0 X51 n0_1 n0_1 z0_1 a1_0 a1_1 _ (ints_to o52.o0.ints (by first | assumption | exact low_alloc (by assumption) _ | exact (low_alloc (by assumption) _).drew)) L0_0.out (by omega) (ints_to o52.o1.ints (by first | assumption | exact low_alloc (by assumption) _ | exact (low_alloc (by assumption) _).drew)) L0_1.out (by omega)).mono ?_); intro e w98 h; (obtain ⟨G84, G87, n85, n88, d86, d89, rfl, o90, hb99⟩ := E.out _ _ _ h); (have hl100 := below_on hb99 (show Below w73.heap.size w73 _ by first | assumption | exact low_alloc (by assumption) _ | exact (low_alloc (by assumption) _).drew)); (have zhl100 := hl100.size); (have yhl100 := hb99.size); (have y78w98 := Nat.lt_of_lt_of_le y78 zhl100); (have y79w98 := Nat.lt_of_lt_of_le y79 zhl100); (have c74w98 := cell_on c74 hl100); (have c75w98 := cell_on c75 hl100); (have c76w98 := cell_on c76 hl100); (have c77w98 := cell_on c77 hl100); (first | (have hp2 := heap_below hp1 hb99; obtain ⟨zc0, zf0⟩ := blk (i := 0) hp2 rfl; obtain ⟨zc1, zf1⟩ := blk (i := 1) hp2 rfl; obtain ⟨zc2, zf2⟩ := blk (i := 2) hp2 rfl) | (have hp2 := heap_below (heap_alloc_new w95 (.cells #[.int .i64 0, .slice none 0 0, .slice none 0 0] 33)) hb99; obtain ⟨zc0, zf0⟩ := blk (i := 0) hp2 rfl; obtain ⟨zc1, zf1⟩ := blk (i := 1) hp2 rfl; obtain ⟨zc2, zf2⟩ := blk (i := 2) hp2 rfl) | skip)))
      all_goals
        go_wp2_with fail
        go_meet
        first
          | exact ⟨_, _, _, _, _, _, _, _, _, rfl, rfl, BxdGarbled.last o90 hl100 (by first | assumption | (simp <;> omega))⟩
          | exact ⟨_, _, _, _, _, _, _, _, _, rfl, rfl, BxdGarbled.early o90 hl100 (by first | assumption | (simp <;> omega)) hp2 (by first | omega | (simp <;> omega)) (by first | omega | (simp <;> omega))⟩
    case rest =>
      clear hp0 r0 r1 r2 c74 c75 c76 c77 y78 y79 r80 r81 r82 r83
      obtain ⟨p91, lo92, hi93, G84, G87, n85, n88, d86, d89, rfl, rfl, hN⟩ := hcut
      obtain ⟨w101, rfl⟩ : ∃ w101 : World, w101 = wc := ⟨_, rfl⟩
      have o90 := hN.own
      have bp91 := hN.box
      have qp91 := hN.at_
      have hb := hN.low
      clear hN
      replace b0 := heap_below b0 hb
      replace b1 := heap_below b1 hb
      replace i0_0 := i0_0.below (hb.mono low.size)
      replace i0_1 := i0_1.below (hb.mono low.size)
      replace o29 := o29.below hb
      replace bp30 := heap_below bp30 hb
      replace o52 := o52.below hb
      replace b62 := heap_below b62 hb
      replace low := low.trans (hb.mono low.size)
      have q102 := hb.size
      clear hb
      have hl103 := o90.o1.len1
      obtain rfl : n24 = n85 := by rw [← hl103, L48.out]
      clear hl103
      have hl104 := o90.o2.len1
      obtain rfl : n27 = n88 := by rw [← hl104, L49.out]
      clear hl104
      have c106 := (blk (i := 0) b0 rfl).1
      have c107 := (blk (i := 1) b0 rfl).1
      have c108 := (blk (i := 0) b1 rfl).1
      have c109 := (blk (i := 1) b1 rfl).1
      have c110 := (blk (i := 0) bp30 rfl).1
      have c111 := (blk (i := 1) bp30 rfl).1
      have c112 := (blk (i := 2) bp30 rfl).1
      have c113 := (blk (i := 0) b62 rfl).1
      have c114 := (blk (i := 1) b62 rfl).1
      have c115 := (blk (i := 0) bp91 rfl).1
      have c116 := (blk (i := 1) bp91 rfl).1
      have c117 := (blk (i := 2) bp91 rfl).1
      go_wp2_with fail
      refine (eqGarbled_same G84 G87 d86 d89 G23 G26 d25 d28 n24 n27 R1 R2 R0 w101 o90.o1.ints o29.o1.ints L48.out (by omega) o90.o2.ints o29.o2.ints L49.out (by omega)).mono ?_
      rintro e w105 ⟨rfl, hb⟩
      replace b0 := heap_below b0 hb
      replace b1 := heap_below b1 hb
      replace i0_0 := i0_0.below (hb.mono low.size)
      replace i0_1 := i0_1.below (hb.mono low.size)
      replace o29 := o29.below hb
      replace bp30 := heap_below bp30 hb
      replace o52 := o52.below hb
      replace b62 := heap_below b62 hb
      replace o90 := o90.below hb
      replace bp91 := heap_below bp91 hb
      replace low := low.trans (hb.mono low.size)
      have q118 := hb.size
      clear hb
      clear c106 c107 c108 c109 c110 c111 c112 c113 c114 c115 c116 c117
      have c122 := (blk (i := 0) b0 rfl).1
      have c123 := (blk (i := 1) b0 rfl).1
      have c124 := (blk (i := 0) b1 rfl).1
      have c125 := (blk (i := 1) b1 rfl).1
      have c126 := (blk (i := 0) bp30 rfl).1
      have c127 := (blk (i := 1) bp30 rfl).1
      have c128 := (blk (i := 2) bp30 rfl).1
      have c129 := (blk (i := 0) b62 rfl).1
      have c130 := (blk (i := 1) b62 rfl).1
      have c131 := (blk (i := 0) bp91 rfl).1
      have c132 := (blk (i := 1) bp91 rfl).1
      have c133 := (blk (i := 2) bp91 rfl).1
      go_upto_region 10 with (fail)
      go_cut [51] (fun s wx => s = .bool false ∧ Below w105.heap.size w105 wx)
      case first =>
        have lowd := low.drew
        have o52d := o52.drew
        go_wp2_with fail
        go_region_law (first
          | (go_simp; go_at_call 24; (with_reducible refine (toCircuit_own A0_0 A0_1 c0_0 c0_1 n0_0 n0_1 z0_0 z0_1 _ ((ints_drew i0_0 low)) L0_0.out (by omega) ((ints_drew i0_1 low)) L0_1.out (by omega)).mono ?_); rintro e w134 ⟨X119, X120, rfl, o121, hb1⟩; (have ox := o52d.below hb1); (have bx0 := heap_below (w := w105.drew) b62 hb1); (have cx00 := (blk (i := 0) bx0 rfl).1); (have cx01 := (blk (i := 1) bx0 rfl).1))
          | (go_simp; go_at_call 26; (with_reducible refine (eqCircuit_same X50 X51 n0_0 n0_1 X119 X120 n0_0 n0_1 n0_0 n0_1 z0_0 z0_1 _ ox.o0.ints o121.o0.ints L0_0.out (by omega) ox.o1.ints o121.o1.ints L0_1.out (by omega)).mono ?_); rintro e w135 ⟨rfl, hb2⟩))
        all_goals
          have hb := ((Below.refl w105.heap.size w105).drew.trans hb1).trans (hb2.mono (by have := hb1.size; exact this))
          go_wp2_with fail
          go_meet
          exact ⟨rfl, hb⟩
      case rest =>
        clear c122 c123 c124 c125 c126 c127 c128 c129 c130 c131 c132 c133
        obtain ⟨rfl, hb⟩ := hcut
        obtain ⟨w136, rfl⟩ : ∃ w136 : World, w136 = wc := ⟨_, rfl⟩
        replace b0 := heap_below b0 hb
        replace b1 := heap_below b1 hb
        replace i0_0 := i0_0.below (hb.mono low.size)
        replace i0_1 := i0_1.below (hb.mono low.size)
        replace o29 := o29.below hb
        replace bp30 := heap_below bp30 hb
        replace o52 := o52.below hb
        replace b62 := heap_below b62 hb
        replace o90 := o90.below hb
        replace bp91 := heap_below bp91 hb
        replace low := low.trans (hb.mono low.size)
        have q137 := hb.size
        clear hb
        have c139 := (blk (i := 0) b0 rfl).1
        have c140 := (blk (i := 1) b0 rfl).1
        have c141 := (blk (i := 0) b1 rfl).1
        have c142 := (blk (i := 1) b1 rfl).1
        have c143 := (blk (i := 0) bp30 rfl).1
        have c144 := (blk (i := 1) bp30 rfl).1
        have c145 := (blk (i := 2) bp30 rfl).1
        have c146 := (blk (i := 0) b62 rfl).1
        have c147 := (blk (i := 1) b62 rfl).1
        have c148 := (blk (i := 0) bp91 rfl).1
        have c149 := (blk (i := 1) bp91 rfl).1
        have c150 := (blk (i := 2) bp91 rfl).1
        go_wp2_with fail
        refine (markCircuit_own w46.heap.size (w60.heap.size) (1) X50 X51 n0_0 n0_1 n0_0 n0_1 z0_0 z0_1 w136 o52 (by omega) (by omega)).mono ?_
        rintro e w138 ⟨rfl, o151, mg, ms⟩
        clear o52
        clear ms
        replace b0 := mg.heap b0 (by omega)
        replace b1 := mg.heap b1 (by omega)
        replace i0_0 := i0_0.mid mg (by omega) low.size
        replace i0_1 := i0_1.mid mg (by omega) low.size
        replace o29 := o29.mid mg (by omega)
        replace bp30 := mg.heap bp30 (by omega)
        replace b62 := mg.heap b62 (by omega)
        replace o90 := o90.mid mg (by omega)
        replace bp91 := mg.heap bp91 (by omega)
        replace low := mg.below low (by omega) low.size
        have q152 := mg.size
        clear mg
        clear o151
        clear b62
        clear c139 c140 c141 c142 c143 c144 c145 c146 c147 c148 c149 c150
        have c154 := (blk (i := 0) b0 rfl).1
        have c155 := (blk (i := 1) b0 rfl).1
        have c156 := (blk (i := 0) b1 rfl).1
        have c157 := (blk (i := 1) b1 rfl).1
        have c158 := (blk (i := 0) bp30 rfl).1
        have c159 := (blk (i := 1) bp30 rfl).1
        have c160 := (blk (i := 2) bp30 rfl).1
        have c161 := (blk (i := 0) bp91 rfl).1
        have c162 := (blk (i := 1) bp91 rfl).1
        have c163 := (blk (i := 2) bp91 rfl).1
        go_wp2_with fail
        refine (eqGarbled_same G84 G87 d86 d89 G23 G26 d25 d28 n24 n27 R1 R2 R0 w138 o90.o1.ints o29.o1.ints L48.out (by omega) o90.o2.ints o29.o2.ints L49.out (by omega)).mono ?_
        rintro e w153 ⟨rfl, hb⟩
        replace b0 := heap_below b0 hb
        replace b1 := heap_below b1 hb
        replace i0_0 := i0_0.below (hb.mono low.size)
        replace i0_1 := i0_1.below (hb.mono low.size)
        replace o29 := o29.below hb
        replace bp30 := heap_below bp30 hb
        replace o90 := o90.below hb
        replace bp91 := heap_below bp91 hb
        replace low := low.trans (hb.mono low.size)
        have q164 := hb.size
        clear hb
        clear c154 c155 c156 c157 c158 c159 c160 c161 c162 c163
        have c166 := (blk (i := 0) b0 rfl).1
        have c167 := (blk (i := 1) b0 rfl).1
        have c168 := (blk (i := 0) b1 rfl).1
        have c169 := (blk (i := 1) b1 rfl).1
        have c170 := (blk (i := 0) bp30 rfl).1
        have c171 := (blk (i := 1) bp30 rfl).1
        have c172 := (blk (i := 2) bp30 rfl).1
        have c173 := (blk (i := 0) bp91 rfl).1
        have c174 := (blk (i := 1) bp91 rfl).1
        have c175 := (blk (i := 2) bp91 rfl).1
        go_wp2_with fail
        refine (markGarbled_own lo92 (hi93) (1) G84 G87 d86 d89 n24 n27 R1 R2 R0 w153 o90 (by omega) (by omega)).mono ?_
        rintro e w165 ⟨rfl, o176, mg, ms⟩
        clear o90
        clear ms
        replace b0 := mg.heap b0 (by omega)
        replace b1 := mg.heap b1 (by omega)
        replace i0_0 := i0_0.mid mg (by omega) low.size
        replace i0_1 := i0_1.mid mg (by omega) low.size
        replace o29 := o29.mid mg (by omega)
        replace bp30 := mg.heap bp30 (by omega)
        replace bp91 := mg.heap bp91 (by omega)
        replace low := mg.below low (by omega) low.size
        have q177 := mg.size
        clear mg
        clear c166 c167 c168 c169 c170 c171 c172 c173 c174 c175
        have c178 := (blk (i := 0) b0 rfl).1
        have c179 := (blk (i := 1) b0 rfl).1
        have c180 := (blk (i := 0) b1 rfl).1
        have c181 := (blk (i := 1) b1 rfl).1
        have c182 := (blk (i := 0) bp30 rfl).1
        have c183 := (blk (i := 1) bp30 rfl).1
        have c184 := (blk (i := 2) bp30 rfl).1
        have c185 := (blk (i := 0) bp91 rfl).1
        have c186 := (blk (i := 1) bp91 rfl).1
        have c187 := (blk (i := 2) bp91 rfl).1
        go_wp2_with fail
        refine (heldGarbled_any (1) G84 G87 d86 d89 n24 n27 R0 w165 o176.o1.ints o176.o2.ints (by omega)).mono ?_
        rintro e w188 ⟨rfl, hb⟩
        replace b0 := heap_below b0 hb
        replace b1 := heap_below b1 hb
        replace i0_0 := i0_0.below (hb.mono low.size)
        replace i0_1 := i0_1.below (hb.mono low.size)
        replace o29 := o29.below hb
        replace bp30 := heap_below bp30 hb
        replace bp91 := heap_below bp91 hb
        replace o176 := o176.below hb
        replace low := low.trans (hb.mono low.size)
        have q189 := hb.size
        clear hb
        clear c178 c179 c180 c181 c182 c183 c184 c185 c186 c187
        have c190 : w188.cell? ⟨w.heap.size, 0, none⟩ = some (.slice A0_0 n0_0 c0_0) := (blk (i := 0) b0 rfl).1
        have c191 : w188.cell? ⟨w.heap.size, 1, none⟩ = some (.slice A0_1 n0_1 c0_1) := (blk (i := 1) b0 rfl).1
        have c192 : w188.cell? ⟨w.heap.size + 1, 0, none⟩ = some (.int .i64 a1_0) := (blk (i := 0) b1 rfl).1
        have c193 : w188.cell? ⟨w.heap.size + 1, 1, none⟩ = some (.int .i64 a1_1) := (blk (i := 1) b1 rfl).1
        have y194 := heap_lt b0
        have y195 := heap_lt b1
        have hp0 : (w188.alloc (.cells #[.int .i64 0, .slice none 0 0, .slice none 0 0] 33)).drew.heap[w188.heap.size]? = some (.cells #[.int .i64 0, .slice none 0 0, .slice none 0 0] 33 (0, 0)) := heap_alloc_new w188 _
        have r0 : Below w188.heap.size w188 w188.drew := (Below.refl _ _).drew
        have r1 : Below w188.heap.size w188 (w188.alloc (.cells #[.int .i64 0, .slice none 0 0, .slice none 0 0] 33)).drew := (below_alloc _ _).drew
        have r2 := r1.size
        have r196 := cell_on c190 r1
        have r197 := cell_on c191 r1
        have r198 := cell_on c192 r1
        have r199 := cell_on c193 r1
        go_upto_region 24 with (fail)
        go_cut [14, 15] (fun s t0 wx => ∃ (p207 lo208 hi209 : Nat) (G200 G203 : Option Addr) (n201 n204 d202 d205 : Nat), s = .pointer (some ⟨p207, 0, none⟩) ∧ t0 = .bool R3 ∧ BxdGarbled w188 wx p207 lo208 hi209 G200 G203 n201 n204 d202 d205 R0 R1 R2)
        case first =>
          go_wp2_with fail
          go_region_held3 (fun w' => w'.cell? ⟨w.heap.size, 0, none⟩ = some (.slice A0_0 n0_0 c0_0) ∧ w'.cell? ⟨w.heap.size, 1, none⟩ = some (.slice A0_1 n0_1 c0_1) ∧ w'.cell? ⟨w.heap.size + 1, 0, none⟩ = some (.int .i64 a1_0) ∧ w'.cell? ⟨w.heap.size + 1, 1, none⟩ = some (.int .i64 a1_1) ∧ Below w188.heap.size w188 w' ∧ w188.heap.size ≤ w'.heap.size) (first | with_reducible exact ⟨c190, c191, c192, c193, r0, r0.size⟩ | with_reducible exact ⟨r196, r197, r198, r199, r1, r2⟩ | with_reducible exact ⟨c190w214, c191w214, c192w214, c193w214, hl216, zhl216⟩ | with_reducible exact ⟨cell_on c190w214 (below_alloc _ _), cell_on c191w214 (below_alloc _ _), cell_on c192w214 (below_alloc _ _), cell_on c193w214 (below_alloc _ _), low_alloc hl216 _, (low_alloc hl216 _).size⟩ | with_reducible exact ⟨c190w217, c191w217, c192w217, c193w217, hl219, zhl219⟩ | with_reducible exact ⟨cell_on c190w217 (below_alloc _ _), cell_on c191w217 (below_alloc _ _), cell_on c192w217 (below_alloc _ _), cell_on c193w217 (below_alloc _ _), low_alloc hl219 _, (low_alloc hl219 _).size⟩ | with_reducible exact ⟨c190w220, c191w220, c192w220, c193w220, hl222, zhl222⟩ | with_reducible exact ⟨cell_on c190w220 (below_alloc _ _), cell_on c191w220 (below_alloc _ _), cell_on c192w220 (below_alloc _ _), cell_on c193w220 (below_alloc _ _), low_alloc hl222 _, (low_alloc hl222 _).size⟩ | with_reducible exact ⟨(far_one (far_one (far_one c190w220 (Nat.ne_of_lt y194) _) (Nat.ne_of_lt y194) _) (Nat.ne_of_lt y194) _), (far_one (far_one (far_one c191w220 (Nat.ne_of_lt y194) _) (Nat.ne_of_lt y194) _) (Nat.ne_of_lt y194) _), (far_one (far_one (far_one c192w220 (Nat.ne_of_lt y195) _) (Nat.ne_of_lt y195) _) (Nat.ne_of_lt y195) _), (far_one (far_one (far_one c193w220 (Nat.ne_of_lt y195) _) (Nat.ne_of_lt y195) _) (Nat.ne_of_lt y195) _), (Below.setCell (Below.setCell (Below.setCell hl222 (Nat.le_refl _) _) (Nat.le_refl _) _) (Nat.le_refl _) _), (show Below w188.heap.size w188 _ from (Below.setCell (Below.setCell (Below.setCell hl222 (Nat.le_refl _) _) (Nat.le_refl _) _) (Nat.le_refl _) _)).size⟩ | with_reducible exact ⟨(far_one (far_one (far_one c190w220 (Nat.ne_of_lt y194w214) _) (Nat.ne_of_lt y194w214) _) (Nat.ne_of_lt y194w214) _), (far_one (far_one (far_one c191w220 (Nat.ne_of_lt y194w214) _) (Nat.ne_of_lt y194w214) _) (Nat.ne_of_lt y194w214) _), (far_one (far_one (far_one c192w220 (Nat.ne_of_lt y195w214) _) (Nat.ne_of_lt y195w214) _) (Nat.ne_of_lt y195w214) _), (far_one (far_one (far_one c193w220 (Nat.ne_of_lt y195w214) _) (Nat.ne_of_lt y195w214) _) (Nat.ne_of_lt y195w214) _), (Below.setCell (Below.setCell (Below.setCell hl222 zhl216 _) zhl216 _) zhl216 _), (show Below w188.heap.size w188 _ from (Below.setCell (Below.setCell (Below.setCell hl222 zhl216 _) zhl216 _) zhl216 _)).size⟩ | with_reducible exact ⟨(far_one (far_one (far_one c190w220 (Nat.ne_of_lt y194w217) _) (Nat.ne_of_lt y194w217) _) (Nat.ne_of_lt y194w217) _), (far_one (far_one (far_one c191w220 (Nat.ne_of_lt y194w217) _) (Nat.ne_of_lt y194w217) _) (Nat.ne_of_lt y194w217) _), (far_one (far_one (far_one c192w220 (Nat.ne_of_lt y195w217) _) (Nat.ne_of_lt y195w217) _) (Nat.ne_of_lt y195w217) _), (far_one (far_one (far_one c193w220 (Nat.ne_of_lt y195w217) _) (Nat.ne_of_lt y195w217) _) (Nat.ne_of_lt y195w217) _), (Below.setCell (Below.setCell (Below.setCell hl222 zhl219 _) zhl219 _) zhl219 _), (show Below w188.heap.size w188 _ from (Below.setCell (Below.setCell (Below.setCell hl222 zhl219 _) zhl219 _) zhl219 _)).size⟩ | (refine ⟨?_, ?_, ?_, ?_, ?_, ?_⟩ <;> first | assumption | (go_keep; done) | (go_grown; done) | (go_size; done) | (simp; omega))) (first
            | (go_at_call 24; (with_reducible refine (toCircuit_own A0_0 A0_1 c0_0 c0_1 n0_0 n0_1 z0_0 z0_1 _ (ints_on i0_0 low (by first | assumption | exact low_alloc (by assumption) _ | exact (low_alloc (by assumption) _).drew)) L0_0.out (by omega) (ints_on i0_1 low (by first | assumption | exact low_alloc (by assumption) _ | exact (low_alloc (by assumption) _).drew)) L0_1.out (by omega)).mono ?_); rintro e w214 ⟨X211, X212, rfl, o213, hb215⟩; (have hl216 := below_on hb215 (show Below w188.heap.size w188 _ by first | assumption | exact low_alloc (by assumption) _ | exact (low_alloc (by assumption) _).drew)); (have zhl216 := hl216.size); (have y194w214 := Nat.lt_of_lt_of_le y194 zhl216); (have y195w214 := Nat.lt_of_lt_of_le y195 zhl216); (have c190w214 := cell_on c190 hl216); (have c191w214 := cell_on c191 hl216); (have c192w214 := cell_on c192 hl216); (have c193w214 := cell_on c193 hl216); (first | (have hp1 := heap_below hp0 hb215; have hq1 := heap_lt hp1) | (have hp1 := heap_below (heap_alloc_new w188 (.cells #[.int .i64 0, .slice none 0 0, .slice none 0 0] 33)) hb215; have hq1 := heap_lt hp1) | skip))
            | (go_at_call 21; (with_reducible refine (toTape_any a1_0 a1_1 _).mono ?_); rintro e w217 ⟨rfl, hb218⟩; (have hl219 := below_on hb218 (show Below w188.heap.size w188 _ by first | assumption | exact low_alloc (by assumption) _ | exact (low_alloc (by assumption) _).drew)); (have zhl219 := hl219.size); (have y194w217 := Nat.lt_of_lt_of_le y194 zhl219); (have y195w217 := Nat.lt_of_lt_of_le y195 zhl219); (have c190w217 := cell_on c190 hl219); (have c191w217 := cell_on c191 hl219); (have c192w217 := cell_on c192 hl219); (have c193w217 := cell_on c193 hl219); (replace o213 := o213.below (below_up hb218 (by first | exact Below.refl _ _ | exact below_alloc _ _ | exact (below_alloc _ _).drew | exact (Below.refl _ _).drew))); (first | (have hp2 := heap_below hp1 hb218; have hq2 := heap_lt hp2) | (have hp2 := heap_below (heap_alloc_new w214 (.cells #[.int .i64 0, .slice none 0 0, .slice none 0 0] 33)) hb218; have hq2 := heap_lt hp2) | skip))
            | (go_at_call 12; (with_reducible refine (ex_impl_Garble X211 n0_0 n0_0 z0_0 X212 n0_1 n0_1 z0_1 a1_0 a1_1 _ (by first | exact o213.o0.ints | exact Ints.al o213.o0.ints _) L0_0.out (by omega) (by first | exact o213.o1.ints | exact Ints.al o213.o1.ints _) L0_1.out (by omega)).mono ?_); intro e w220 h; (obtain ⟨G200, G203, n201, n204, d202, d205, rfl, o206, hb221⟩ := E.out _ _ _ h); (have hl222 := below_on hb221 (show Below w188.heap.size w188 _ by first | assumption | exact low_alloc (by assumption) _ | exact (low_alloc (by assumption) _).drew)); (have zhl222 := hl222.size); (have yhl222 := hb221.size); (have y194w220 := Nat.lt_of_lt_of_le y194 zhl222); (have y195w220 := Nat.lt_of_lt_of_le y195 zhl222); (have c190w220 := cell_on c190 hl222); (have c191w220 := cell_on c191 hl222); (have c192w220 := cell_on c192 hl222); (have c193w220 := cell_on c193 hl222); (first | (have hp3 := heap_below hp2 hb221; obtain ⟨zc0, zf0⟩ := blk (i := 0) hp3 rfl; obtain ⟨zc1, zf1⟩ := blk (i := 1) hp3 rfl; obtain ⟨zc2, zf2⟩ := blk (i := 2) hp3 rfl) | (have hp3 := heap_below (heap_alloc_new w217 (.cells #[.int .i64 0, .slice none 0 0, .slice none 0 0] 33)) hb221; obtain ⟨zc0, zf0⟩ := blk (i := 0) hp3 rfl; obtain ⟨zc1, zf1⟩ := blk (i := 1) hp3 rfl; obtain ⟨zc2, zf2⟩ := blk (i := 2) hp3 rfl) | skip)))
          all_goals
            go_wp2_with fail
            go_meet
            first
              | exact ⟨_, _, _, _, _, _, _, _, _, rfl, rfl, BxdGarbled.last o206 hl222 (by first | assumption | (simp <;> omega))⟩
              | exact ⟨_, _, _, _, _, _, _, _, _, rfl, rfl, BxdGarbled.early o206 hl222 (by first | assumption | (simp <;> omega)) hp3 (by first | omega | (simp <;> omega)) (by first | omega | (simp <;> omega))⟩
        case rest =>
          clear hp0 r0 r1 r2 c190 c191 c192 c193 y194 y195 r196 r197 r198 r199
          obtain ⟨p207, lo208, hi209, G200, G203, n201, n204, d202, d205, rfl, rfl, hN⟩ := hcut
          obtain ⟨w223, rfl⟩ : ∃ w223 : World, w223 = wc := ⟨_, rfl⟩
          have o206 := hN.own
          have bp207 := hN.box
          have qp207 := hN.at_
          have hb := hN.low
          clear hN
          replace b0 := heap_below b0 hb
          replace b1 := heap_below b1 hb
          replace i0_0 := i0_0.below (hb.mono low.size)
          replace i0_1 := i0_1.below (hb.mono low.size)
          replace o29 := o29.below hb
          replace bp30 := heap_below bp30 hb
          replace bp91 := heap_below bp91 hb
          replace o176 := o176.below hb
          replace low := low.trans (hb.mono low.size)
          have q224 := hb.size
          clear hb
          have hl225 := o206.o1.len1
          obtain rfl : n24 = n201 := by rw [← hl225, L48.out]
          clear hl225
          have hl226 := o206.o2.len1
          obtain rfl : n27 = n204 := by rw [← hl226, L49.out]
          clear hl226
          have c228 := (blk (i := 0) b0 rfl).1
          have c229 := (blk (i := 1) b0 rfl).1
          have c230 := (blk (i := 0) b1 rfl).1
          have c231 := (blk (i := 1) b1 rfl).1
          have c232 := (blk (i := 0) bp30 rfl).1
          have c233 := (blk (i := 1) bp30 rfl).1
          have c234 := (blk (i := 2) bp30 rfl).1
          have c235 := (blk (i := 0) bp91 rfl).1
          have c236 := (blk (i := 1) bp91 rfl).1
          have c237 := (blk (i := 2) bp91 rfl).1
          have c238 := (blk (i := 0) bp207 rfl).1
          have c239 := (blk (i := 1) bp207 rfl).1
          have c240 := (blk (i := 2) bp207 rfl).1
          go_wp2_with fail
          refine (eqGarbled_same G200 G203 d202 d205 G23 G26 d25 d28 n24 n27 R1 R2 R0 w223 o206.o1.ints o29.o1.ints L48.out (by omega) o206.o2.ints o29.o2.ints L49.out (by omega)).mono ?_
          rintro e w227 ⟨rfl, hb⟩
          replace b0 := heap_below b0 hb
          replace b1 := heap_below b1 hb
          replace i0_0 := i0_0.below (hb.mono low.size)
          replace i0_1 := i0_1.below (hb.mono low.size)
          replace o29 := o29.below hb
          replace bp30 := heap_below bp30 hb
          replace bp91 := heap_below bp91 hb
          replace o176 := o176.below hb
          replace o206 := o206.below hb
          replace bp207 := heap_below bp207 hb
          replace low := low.trans (hb.mono low.size)
          have q241 := hb.size
          clear hb
          clear c228 c229 c230 c231 c232 c233 c234 c235 c236 c237 c238 c239 c240
          have c242 := (blk (i := 0) b0 rfl).1
          have c243 := (blk (i := 1) b0 rfl).1
          have c244 := (blk (i := 0) b1 rfl).1
          have c245 := (blk (i := 1) b1 rfl).1
          have c246 := (blk (i := 0) bp30 rfl).1
          have c247 := (blk (i := 1) bp30 rfl).1
          have c248 := (blk (i := 2) bp30 rfl).1
          have c249 := (blk (i := 0) bp91 rfl).1
          have c250 := (blk (i := 1) bp91 rfl).1
          have c251 := (blk (i := 2) bp91 rfl).1
          have c252 := (blk (i := 0) bp207 rfl).1
          have c253 := (blk (i := 1) bp207 rfl).1
          have c254 := (blk (i := 2) bp207 rfl).1
          go_wp2_with fail
          refine (heldGarbled_any (1) G84 G87 d86 d89 n24 n27 R0 w227 o176.o1.ints o176.o2.ints (by omega)).mono ?_
          rintro e w255 ⟨rfl, hb⟩
          replace b0 := heap_below b0 hb
          replace b1 := heap_below b1 hb
          replace i0_0 := i0_0.below (hb.mono low.size)
          replace i0_1 := i0_1.below (hb.mono low.size)
          replace o29 := o29.below hb
          replace bp30 := heap_below bp30 hb
          replace bp91 := heap_below bp91 hb
          replace o176 := o176.below hb
          replace o206 := o206.below hb
          replace bp207 := heap_below bp207 hb
          replace low := low.trans (hb.mono low.size)
          have q256 := hb.size
          clear hb
          clear c242 c243 c244 c245 c246 c247 c248 c249 c250 c251 c252 c253 c254
          have c257 := (blk (i := 0) b0 rfl).1
          have c258 := (blk (i := 1) b0 rfl).1
          have c259 := (blk (i := 0) b1 rfl).1
          have c260 := (blk (i := 1) b1 rfl).1
          have c261 := (blk (i := 0) bp30 rfl).1
          have c262 := (blk (i := 1) bp30 rfl).1
          have c263 := (blk (i := 2) bp30 rfl).1
          have c264 := (blk (i := 0) bp91 rfl).1
          have c265 := (blk (i := 1) bp91 rfl).1
          have c266 := (blk (i := 2) bp91 rfl).1
          have c267 := (blk (i := 0) bp207 rfl).1
          have c268 := (blk (i := 1) bp207 rfl).1
          have c269 := (blk (i := 2) bp207 rfl).1
          go_wp2_with fail
          go_ret
          exact ⟨by first | rfl | simp, low⟩
end Go.Proofs.Ytfpcjgolcbjnjaa

/- The law FnExactGarbledOk: the walk. -/
import Derived.Test.YtfpcjgolcbjnjaaProg
import Derived.Test.YtfpcjgolcbjnjaaB1
import Derived.Test.YtfpcjgolcbjnjaaC1
import Derived.Test.YtfpcjgolcbjnjaaSGarbled
import Derived.Test.YtfpcjgolcbjnjaaGbX
namespace Go.Proofs.Ytfpcjgolcbjnjaa
open Go Go.RowKit
set_option maxRecDepth 100000 in
set_option maxHeartbeats 2000000 in
theorem FnExactGarbledOk_walk (A0_0 : Option Addr) (n0_0 c0_0 : Nat) (z0_0 : List Int) (A0_1 : Option Addr) (n0_1 c0_1 : Nat) (z0_1 : List Int) (a1_0 : Int) (A1_1 : Option Addr) (n1_1 c1_1 : Nat) (z1_1 : List Int) (A1_2 : Option Addr) (n1_2 c1_2 : Nat) (z1_2 : List Int) (w : World) (h0_0 : Ints w A0_0 z0_0) (l0_0 : z0_0.length = n0_0 * 3) (m0_0 : n0_0 ≤ 9223372036854775807) (h0_1 : Ints w A0_1 z0_1) (l0_1 : z0_1.length = n0_1) (m0_1 : n0_1 ≤ 9223372036854775807) (_h1_0 : (Lit.int .i64 a1_0).wf = true) (h1_1 : Ints w A1_1 z1_1) (l1_1 : z1_1.length = n1_1) (m1_1 : n1_1 ≤ 9223372036854775807) (h1_2 : Ints w A1_2 z1_2) (l1_2 : z1_2.length = n1_2) (m1_2 : n1_2 ≤ 9223372036854775807) :
    Calls Try.prog 7 #[.agg #[.slice A0_0 n0_0 c0_0, .slice A0_1 n0_1 c0_1], .agg #[.int .i64 a1_0, .slice A1_1 n1_1 c1_1, .slice A1_2 n1_2 c1_2]] w fun e w' => e = .returned (.bool true) ∧ Below w.heap.size w w' := by
  have low : Below w.heap.size w ((w.alloc (.cells #[.slice A0_0 n0_0 c0_0, .slice A0_1 n0_1 c0_1] 52)).alloc (.cells #[.int .i64 a1_0, .slice A1_1 n1_1 c1_1, .slice A1_2 n1_2 c1_2] 59)) := (low_alloc ((low_alloc (Below.refl _ _) _)) _)
  have L0_0 := Lib.hid l0_0
  have i0_0 := h0_0.bound.below low
  have L0_1 := Lib.hid l0_1
  have i0_1 := h0_1.bound.below low
  have L1_1 := Lib.hid l1_1
  have i1_1 := h1_1.bound.below low
  have L1_2 := Lib.hid l1_2
  have i1_2 := h1_2.bound.below low
  clear h0_0 l0_0 h0_1 l0_1 h1_1 l1_1 h1_2 l1_2
  have b0 := new_at w (.cells #[.slice A0_0 n0_0 c0_0, .slice A0_1 n0_1 c0_1] 52) (w.heap.size) (by simp)
  replace b0 := heap_alloc b0 (.cells #[.int .i64 a1_0, .slice A1_1 n1_1 c1_1, .slice A1_2 n1_2 c1_2] 59)
  have b1 := new_at (w.alloc (.cells #[.slice A0_0 n0_0 c0_0, .slice A0_1 n0_1 c0_1] 52)) (.cells #[.int .i64 a1_0, .slice A1_1 n1_1 c1_1, .slice A1_2 n1_2 c1_2] 59) (w.heap.size + 1) (by simp)
  go_enter Try.func7, Try.ntmps7
  have c1 := (blk (i := 0) b0 rfl).1
  have c2 := (blk (i := 1) b0 rfl).1
  have c3 := (blk (i := 0) b1 rfl).1
  have c4 := (blk (i := 1) b1 rfl).1
  have c5 := (blk (i := 2) b1 rfl).1
  go_wp2_with fail
  generalize hw0 : ((w.alloc (.cells #[.slice A0_0 n0_0 c0_0, .slice A0_1 n0_1 c0_1] 52)).alloc (.cells #[.int .i64 a1_0, .slice A1_1 n1_1 c1_1, .slice A1_2 n1_2 c1_2] 59)) = v0 at *
  clear hw0
  have q0 := low.size
  have q00 := heap_lt b0
  have q01 := heap_lt b1
  clear c1 c2 c3 c4 c5
  have c9 := (blk (i := 0) b0 rfl).1
  have c10 := (blk (i := 1) b0 rfl).1
  have c11 := (blk (i := 0) b1 rfl).1
  have c12 := (blk (i := 1) b1 rfl).1
  have c13 := (blk (i := 2) b1 rfl).1
  go_wp2_with fail
  have s6 := szCircuit_any 1048576 A0_0 A0_1 c0_0 c0_1 n0_0 n0_1 v0 (by omega) m0_0 m0_1
  unfold Sized at s6
  by_cases hn0 : n0_0 + n0_1 ≤ 1048576
  case neg =>
    rw [show szRes 1048576 (n0_0 + n0_1) = -1 by rw [szRes, if_neg hn0]] at s6
    refine s6.mono ?_
    rintro e w8 ⟨rfl, hb⟩
    go_wp2_with fail
    go_ret
    exact ⟨rfl, low.trans (hb.mono low.size)⟩
  rw [show szRes 1048576 (n0_0 + n0_1) = ((1048576 - (n0_0 + n0_1) : Nat) : Int) by rw [szRes, if_pos hn0]] at s6
  have mm0_0 : n0_0 ≤ 1048576 := by omega
  have mm0_1 : n0_1 ≤ 1048576 := by omega
  have zf7 : 1048576 - (n0_0 + n0_1) ≤ 1048576 := by omega
  clear hn0 m0_0 m0_1
  generalize 1048576 - (n0_0 + n0_1) = f7 at *
  refine s6.mono ?_
  rintro e w8 ⟨rfl, hb⟩
  clear s6
  replace b0 := heap_below b0 hb
  replace b1 := heap_below b1 hb
  replace i0_0 := i0_0.below (hb.mono low.size)
  replace i0_1 := i0_1.below (hb.mono low.size)
  replace i1_1 := i1_1.below (hb.mono low.size)
  replace i1_2 := i1_2.below (hb.mono low.size)
  replace low := low.trans (hb.mono low.size)
  have q14 := hb.size
  clear hb
  have yf7 : (0 : Int) ≤ f7 := by omega
  clear c9 c10 c11 c12 c13
  have c18 := (blk (i := 0) b0 rfl).1
  have c19 := (blk (i := 1) b0 rfl).1
  have c20 := (blk (i := 0) b1 rfl).1
  have c21 := (blk (i := 1) b1 rfl).1
  have c22 := (blk (i := 2) b1 rfl).1
  go_wp2_with fail
  have s15 := szGarbled_any f7 A1_1 A1_2 c1_1 c1_2 n1_1 n1_2 a1_0 w8 (by omega) m1_1 m1_2
  unfold Sized at s15
  by_cases hn1 : n1_1 + n1_2 ≤ f7
  case neg =>
    rw [show szRes f7 (n1_1 + n1_2) = -1 by rw [szRes, if_neg hn1]] at s15
    refine s15.mono ?_
    rintro e w17 ⟨rfl, hb⟩
    go_wp2_with fail
    go_ret
    exact ⟨rfl, low.trans (hb.mono low.size)⟩
  rw [show szRes f7 (n1_1 + n1_2) = ((f7 - (n1_1 + n1_2) : Nat) : Int) by rw [szRes, if_pos hn1]] at s15
  have mm1_1 : n1_1 ≤ 1048576 := by omega
  have mm1_2 : n1_2 ≤ 1048576 := by omega
  have zf16 : f7 - (n1_1 + n1_2) ≤ 1048576 := by omega
  clear hn1 m1_1 m1_2
  generalize f7 - (n1_1 + n1_2) = f16 at *
  refine s15.mono ?_
  rintro e w17 ⟨rfl, hb⟩
  clear s15
  replace b0 := heap_below b0 hb
  replace b1 := heap_below b1 hb
  replace i0_0 := i0_0.below (hb.mono low.size)
  replace i0_1 := i0_1.below (hb.mono low.size)
  replace i1_1 := i1_1.below (hb.mono low.size)
  replace i1_2 := i1_2.below (hb.mono low.size)
  replace low := low.trans (hb.mono low.size)
  have q23 := hb.size
  clear hb
  have yf16 : (0 : Int) ≤ f16 := by omega
  obtain ⟨R0, hR0⟩ : ∃ r, decide (gOk z0_0 n0_0 z0_1 a1_0 z1_1 z1_2) = r := ⟨_, rfl⟩
  have E := Lib.hid (show ∀ w e w', Post_bool (decide (gOk z0_0 n0_0 z0_1 a1_0 z1_1 z1_2)) w e w' → Post_bool R0 w e w' from by subst hR0; intro _ _ _ h; exact h)
  clear hR0
  clear c18 c19 c20 c21 c22
  have c24 : w17.cell? ⟨w.heap.size, 0, none⟩ = some (.slice A0_0 n0_0 c0_0) := (blk (i := 0) b0 rfl).1
  have c25 : w17.cell? ⟨w.heap.size, 1, none⟩ = some (.slice A0_1 n0_1 c0_1) := (blk (i := 1) b0 rfl).1
  have c26 : w17.cell? ⟨w.heap.size + 1, 0, none⟩ = some (.int .i64 a1_0) := (blk (i := 0) b1 rfl).1
  have c27 : w17.cell? ⟨w.heap.size + 1, 1, none⟩ = some (.slice A1_1 n1_1 c1_1) := (blk (i := 1) b1 rfl).1
  have c28 : w17.cell? ⟨w.heap.size + 1, 2, none⟩ = some (.slice A1_2 n1_2 c1_2) := (blk (i := 2) b1 rfl).1
  have r0 : Below w17.heap.size w17 w17.drew := (Below.refl _ _).drew
  have r29 := cell_on c24 r0
  have r30 := cell_on c25 r0
  have r31 := cell_on c26 r0
  have r32 := cell_on c27 r0
  have r33 := cell_on c28 r0
  go_upto_region 8 with (fail)
  go_cut [6] (fun s wx => s = .bool R0 ∧ Below w17.heap.size w17 wx)
  case first =>
    go_wp2_with fail
    go_region_held3 (fun w' => w'.cell? ⟨w.heap.size, 0, none⟩ = some (.slice A0_0 n0_0 c0_0) ∧ w'.cell? ⟨w.heap.size, 1, none⟩ = some (.slice A0_1 n0_1 c0_1) ∧ w'.cell? ⟨w.heap.size + 1, 0, none⟩ = some (.int .i64 a1_0) ∧ w'.cell? ⟨w.heap.size + 1, 1, none⟩ = some (.slice A1_1 n1_1 c1_1) ∧ w'.cell? ⟨w.heap.size + 1, 2, none⟩ = some (.slice A1_2 n1_2 c1_2)) (first | with_reducible exact ⟨c24, c25, c26, c27, c28⟩ | with_reducible exact ⟨r29, r30, r31, r32, r33⟩ | with_reducible exact ⟨c24w37, c25w37, c26w37, c27w37, c28w37⟩ | with_reducible exact ⟨c24w43, c25w43, c26w43, c27w43, c28w43⟩ | with_reducible exact ⟨c24w46, c25w46, c26w46, c27w46, c28w46⟩) (first
      | (go_at_call 24; (with_reducible refine (toCircuit_own A0_0 A0_1 c0_0 c0_1 n0_0 n0_1 z0_0 z0_1 _ (ints_on i0_0 low (by first | assumption)) L0_0.out (by omega) (ints_on i0_1 low (by first | assumption)) L0_1.out (by omega)).mono ?_); rintro e w37 ⟨X34, X35, rfl, o36, hb38⟩; (have hl39 := below_on hb38 (show Below w17.heap.size w17 _ by assumption)); (have c24w37 := cell_on c24 hl39); (have c25w37 := cell_on c25 hl39); (have c26w37 := cell_on c26 hl39); (have c27w37 := cell_on c27 hl39); (have c28w37 := cell_on c28 hl39))
      | (go_at_call 32; (with_reducible refine (toGarbled_own A1_1 A1_2 c1_1 c1_2 n1_1 n1_2 z1_1 z1_2 a1_0 _ (ints_on i1_1 low (by first | assumption)) L1_1.out (by omega) (ints_on i1_2 low (by first | assumption)) L1_2.out (by omega)).mono ?_); rintro e w43 ⟨X40, X41, rfl, o42, hb44⟩; (have hl45 := below_on hb44 (show Below w17.heap.size w17 _ by assumption)); (have c24w43 := cell_on c24 hl45); (have c25w43 := cell_on c25 hl45); (have c26w43 := cell_on c26 hl45); (have c27w43 := cell_on c27 hl45); (have c28w43 := cell_on c28 hl45); (replace o36 := o36.below hb44))
      | (go_at_call 31; (with_reducible refine (ex_spec_GarbledOk X34 n0_0 n0_0 z0_0 X35 n0_1 n0_1 z0_1 a1_0 X40 n1_1 n1_1 z1_1 X41 n1_2 n1_2 z1_2 _ (o36.o0.ints) L0_0.out (by omega) (o36.o1.ints) L0_1.out (by omega) (o42.o1.ints) L1_1.out (by omega) (o42.o2.ints) L1_2.out (by omega)).mono ?_); intro e w46 h; (obtain ⟨rfl, hb47⟩ := E.out _ _ _ h); (have hl48 := below_on hb47 (show Below w17.heap.size w17 _ by assumption)); (have c24w46 := cell_on c24 hl48); (have c25w46 := cell_on c25 hl48); (have c26w46 := cell_on c26 hl48); (have c27w46 := cell_on c27 hl48); (have c28w46 := cell_on c28 hl48)))
    all_goals
      go_wp2_with fail
      go_meet
      exact ⟨rfl, hl48⟩
  case rest =>
    clear r0 c24 c25 c26 c27 c28 r29 r30 r31 r32 r33
    obtain ⟨rfl, hb⟩ := hcut
    obtain ⟨w49, rfl⟩ : ∃ w49 : World, w49 = wc := ⟨_, rfl⟩
    replace b0 := heap_below b0 hb
    replace b1 := heap_below b1 hb
    replace i0_0 := i0_0.below (hb.mono low.size)
    replace i0_1 := i0_1.below (hb.mono low.size)
    replace i1_1 := i1_1.below (hb.mono low.size)
    replace i1_2 := i1_2.below (hb.mono low.size)
    replace low := low.trans (hb.mono low.size)
    have q50 := hb.size
    clear hb
    have c54 := (blk (i := 0) b0 rfl).1
    have c55 := (blk (i := 1) b0 rfl).1
    have c56 := (blk (i := 0) b1 rfl).1
    have c57 := (blk (i := 1) b1 rfl).1
    have c58 := (blk (i := 2) b1 rfl).1
    go_wp2_with fail
    refine (toCircuit_own A0_0 A0_1 c0_0 c0_1 n0_0 n0_1 z0_0 z0_1 w49 (i0_0.ints low.size) L0_0.out (by omega) (i0_1.ints low.size) L0_1.out (by omega)).mono ?_
    rintro e w59 ⟨X51, X52, rfl, o53, hb⟩
    replace b0 := heap_below b0 hb
    replace b1 := heap_below b1 hb
    replace i0_0 := i0_0.below (hb.mono low.size)
    replace i0_1 := i0_1.below (hb.mono low.size)
    replace i1_1 := i1_1.below (hb.mono low.size)
    replace i1_2 := i1_2.below (hb.mono low.size)
    replace low := low.trans (hb.mono low.size)
    have q60 := hb.size
    clear hb
    replace b0 := heap_alloc b0 (.cells #[.slice X51 n0_0 n0_0, .slice X52 n0_1 n0_1] 27)
    replace b1 := heap_alloc b1 (.cells #[.slice X51 n0_0 n0_0, .slice X52 n0_1 n0_1] 27)
    replace i0_0 := i0_0.below ((below_alloc _ (.cells #[.slice X51 n0_0 n0_0, .slice X52 n0_1 n0_1] 27)).mono low.size)
    replace i0_1 := i0_1.below ((below_alloc _ (.cells #[.slice X51 n0_0 n0_0, .slice X52 n0_1 n0_1] 27)).mono low.size)
    replace i1_1 := i1_1.below ((below_alloc _ (.cells #[.slice X51 n0_0 n0_0, .slice X52 n0_1 n0_1] 27)).mono low.size)
    replace i1_2 := i1_2.below ((below_alloc _ (.cells #[.slice X51 n0_0 n0_0, .slice X52 n0_1 n0_1] 27)).mono low.size)
    replace o53 := o53.alloc (.cells #[.slice X51 n0_0 n0_0, .slice X52 n0_1 n0_1] 27)
    replace low := low_alloc low (.cells #[.slice X51 n0_0 n0_0, .slice X52 n0_1 n0_1] 27)
    have b61 := heap_alloc_new w59 (.cells #[.slice X51 n0_0 n0_0, .slice X52 n0_1 n0_1] 27)
    have q62 := heap_lt b61
    clear c54 c55 c56 c57 c58
    have c63 := (blk (i := 0) b0 rfl).1
    have c64 := (blk (i := 1) b0 rfl).1
    have c65 := (blk (i := 0) b1 rfl).1
    have c66 := (blk (i := 1) b1 rfl).1
    have c67 := (blk (i := 2) b1 rfl).1
    have c68 := (blk (i := 0) b61 rfl).1
    have c69 := (blk (i := 1) b61 rfl).1
    go_wp2_with fail
    generalize hg : (w59.alloc (.cells #[.slice X51 n0_0 n0_0, .slice X52 n0_1 n0_1] 27)) = w70 at *
    clear hg
    clear c63 c64 c65 c66 c67 c68 c69
    have c74 := (blk (i := 0) b0 rfl).1
    have c75 := (blk (i := 1) b0 rfl).1
    have c76 := (blk (i := 0) b1 rfl).1
    have c77 := (blk (i := 1) b1 rfl).1
    have c78 := (blk (i := 2) b1 rfl).1
    have c79 := (blk (i := 0) b61 rfl).1
    have c80 := (blk (i := 1) b61 rfl).1
    go_wp2_with fail
    refine (toGarbled_own A1_1 A1_2 c1_1 c1_2 n1_1 n1_2 z1_1 z1_2 a1_0 w70 (i1_1.ints low.size) L1_1.out (by omega) (i1_2.ints low.size) L1_2.out (by omega)).mono ?_
    rintro e w81 ⟨X71, X72, rfl, o73, hb⟩
    replace b0 := heap_below b0 hb
    replace b1 := heap_below b1 hb
    replace i0_0 := i0_0.below (hb.mono low.size)
    replace i0_1 := i0_1.below (hb.mono low.size)
    replace i1_1 := i1_1.below (hb.mono low.size)
    replace i1_2 := i1_2.below (hb.mono low.size)
    replace o53 := o53.below hb
    replace b61 := heap_below b61 hb
    replace low := low.trans (hb.mono low.size)
    have q82 := hb.size
    clear hb
    replace b0 := heap_alloc b0 (.cells #[.int .i64 a1_0, .slice X71 n1_1 n1_1, .slice X72 n1_2 n1_2] 33)
    replace b1 := heap_alloc b1 (.cells #[.int .i64 a1_0, .slice X71 n1_1 n1_1, .slice X72 n1_2 n1_2] 33)
    replace i0_0 := i0_0.below ((below_alloc _ (.cells #[.int .i64 a1_0, .slice X71 n1_1 n1_1, .slice X72 n1_2 n1_2] 33)).mono low.size)
    replace i0_1 := i0_1.below ((below_alloc _ (.cells #[.int .i64 a1_0, .slice X71 n1_1 n1_1, .slice X72 n1_2 n1_2] 33)).mono low.size)
    replace i1_1 := i1_1.below ((below_alloc _ (.cells #[.int .i64 a1_0, .slice X71 n1_1 n1_1, .slice X72 n1_2 n1_2] 33)).mono low.size)
    replace i1_2 := i1_2.below ((below_alloc _ (.cells #[.int .i64 a1_0, .slice X71 n1_1 n1_1, .slice X72 n1_2 n1_2] 33)).mono low.size)
    replace o53 := o53.alloc (.cells #[.int .i64 a1_0, .slice X71 n1_1 n1_1, .slice X72 n1_2 n1_2] 33)
    replace b61 := heap_alloc b61 (.cells #[.int .i64 a1_0, .slice X71 n1_1 n1_1, .slice X72 n1_2 n1_2] 33)
    replace o73 := o73.alloc (.cells #[.int .i64 a1_0, .slice X71 n1_1 n1_1, .slice X72 n1_2 n1_2] 33)
    replace low := low_alloc low (.cells #[.int .i64 a1_0, .slice X71 n1_1 n1_1, .slice X72 n1_2 n1_2] 33)
    have b83 := heap_alloc_new w81 (.cells #[.int .i64 a1_0, .slice X71 n1_1 n1_1, .slice X72 n1_2 n1_2] 33)
    have q84 := heap_lt b83
    clear c74 c75 c76 c77 c78 c79 c80
    have c85 := (blk (i := 0) b0 rfl).1
    have c86 := (blk (i := 1) b0 rfl).1
    have c87 := (blk (i := 0) b1 rfl).1
    have c88 := (blk (i := 1) b1 rfl).1
    have c89 := (blk (i := 2) b1 rfl).1
    have c90 := (blk (i := 0) b61 rfl).1
    have c91 := (blk (i := 1) b61 rfl).1
    have c92 := (blk (i := 0) b83 rfl).1
    have c93 := (blk (i := 1) b83 rfl).1
    have c94 := (blk (i := 2) b83 rfl).1
    go_wp2_with fail
    generalize hg : (w81.alloc (.cells #[.int .i64 a1_0, .slice X71 n1_1 n1_1, .slice X72 n1_2 n1_2] 33)) = w95 at *
    clear hg
    clear c85 c86 c87 c88 c89 c90 c91 c92 c93 c94
    have c97 := (blk (i := 0) b0 rfl).1
    have c98 := (blk (i := 1) b0 rfl).1
    have c99 := (blk (i := 0) b1 rfl).1
    have c100 := (blk (i := 1) b1 rfl).1
    have c101 := (blk (i := 2) b1 rfl).1
    have c102 := (blk (i := 0) b61 rfl).1
    have c103 := (blk (i := 1) b61 rfl).1
    have c104 := (blk (i := 0) b83 rfl).1
    have c105 := (blk (i := 1) b83 rfl).1
    have c106 := (blk (i := 2) b83 rfl).1
    go_wp2_with fail
    refine (ex_impl_GarbledOk X51 n0_0 n0_0 z0_0 X52 n0_1 n0_1 z0_1 a1_0 X71 n1_1 n1_1 z1_1 X72 n1_2 n1_2 z1_2 w95 (o53.o0.ints) L0_0.out (by omega) (o53.o1.ints) L0_1.out (by omega) (o73.o1.ints) L1_1.out (by omega) (o73.o2.ints) L1_2.out (by omega)).mono ?_
    intro e w96 h
    obtain ⟨rfl, hb⟩ := E.out _ _ _ h
    clear h
    replace b0 := heap_below b0 hb
    replace b1 := heap_below b1 hb
    replace i0_0 := i0_0.below (hb.mono low.size)
    replace i0_1 := i0_1.below (hb.mono low.size)
    replace i1_1 := i1_1.below (hb.mono low.size)
    replace i1_2 := i1_2.below (hb.mono low.size)
    replace o53 := o53.below hb
    replace b61 := heap_below b61 hb
    replace o73 := o73.below hb
    replace b83 := heap_below b83 hb
    replace low := low.trans (hb.mono low.size)
    have q107 := hb.size
    clear hb
    clear c97 c98 c99 c100 c101 c102 c103 c104 c105 c106
    have c111 := (blk (i := 0) b0 rfl).1
    have c112 := (blk (i := 1) b0 rfl).1
    have c113 := (blk (i := 0) b1 rfl).1
    have c114 := (blk (i := 1) b1 rfl).1
    have c115 := (blk (i := 2) b1 rfl).1
    have c116 := (blk (i := 0) b61 rfl).1
    have c117 := (blk (i := 1) b61 rfl).1
    have c118 := (blk (i := 0) b83 rfl).1
    have c119 := (blk (i := 1) b83 rfl).1
    have c120 := (blk (i := 2) b83 rfl).1
    go_upto_region 14 with (fail)
    go_cut [39] (fun s wx => s = .bool false ∧ Below w96.heap.size w96 wx)
    case first =>
      have lowd := low.drew
      have o53d := o53.drew
      go_wp2_with fail
      go_region_law (first
        | (go_simp; go_at_call 24; (with_reducible refine (toCircuit_own A0_0 A0_1 c0_0 c0_1 n0_0 n0_1 z0_0 z0_1 _ ((ints_drew i0_0 low)) L0_0.out (by omega) ((ints_drew i0_1 low)) L0_1.out (by omega)).mono ?_); rintro e w121 ⟨X108, X109, rfl, o110, hb1⟩; (have ox := o53d.below hb1); (have bx0 := heap_below (w := w96.drew) b61 hb1); (have cx00 := (blk (i := 0) bx0 rfl).1); (have cx01 := (blk (i := 1) bx0 rfl).1))
        | (go_simp; go_at_call 26; (with_reducible refine (eqCircuit_same X51 X52 n0_0 n0_1 X108 X109 n0_0 n0_1 n0_0 n0_1 z0_0 z0_1 _ ox.o0.ints o110.o0.ints L0_0.out (by omega) ox.o1.ints o110.o1.ints L0_1.out (by omega)).mono ?_); rintro e w122 ⟨rfl, hb2⟩))
      all_goals
        have hb := ((Below.refl w96.heap.size w96).drew.trans hb1).trans (hb2.mono (by have := hb1.size; exact this))
        go_wp2_with fail
        go_meet
        exact ⟨rfl, hb⟩
    case rest =>
      clear c111 c112 c113 c114 c115 c116 c117 c118 c119 c120
      obtain ⟨rfl, hb⟩ := hcut
      obtain ⟨w123, rfl⟩ : ∃ w123 : World, w123 = wc := ⟨_, rfl⟩
      replace b0 := heap_below b0 hb
      replace b1 := heap_below b1 hb
      replace i0_0 := i0_0.below (hb.mono low.size)
      replace i0_1 := i0_1.below (hb.mono low.size)
      replace i1_1 := i1_1.below (hb.mono low.size)
      replace i1_2 := i1_2.below (hb.mono low.size)
      replace o53 := o53.below hb
      replace b61 := heap_below b61 hb
      replace o73 := o73.below hb
      replace b83 := heap_below b83 hb
      replace low := low.trans (hb.mono low.size)
      have q124 := hb.size
      clear hb
      have c128 := (blk (i := 0) b0 rfl).1
      have c129 := (blk (i := 1) b0 rfl).1
      have c130 := (blk (i := 0) b1 rfl).1
      have c131 := (blk (i := 1) b1 rfl).1
      have c132 := (blk (i := 2) b1 rfl).1
      have c133 := (blk (i := 0) b61 rfl).1
      have c134 := (blk (i := 1) b61 rfl).1
      have c135 := (blk (i := 0) b83 rfl).1
      have c136 := (blk (i := 1) b83 rfl).1
      have c137 := (blk (i := 2) b83 rfl).1
      go_upto_region 16 with (fail)
      go_cut [44] (fun s wx => s = .bool false ∧ Below w123.heap.size w123 wx)
      case first =>
        have lowd := low.drew
        have o73d := o73.drew
        go_wp2_with fail
        go_region_law (first
          | (go_simp; go_at_call 32; (with_reducible refine (toGarbled_own A1_1 A1_2 c1_1 c1_2 n1_1 n1_2 z1_1 z1_2 a1_0 _ ((ints_drew i1_1 low)) L1_1.out (by omega) ((ints_drew i1_2 low)) L1_2.out (by omega)).mono ?_); rintro e w138 ⟨X125, X126, rfl, o127, hb1⟩; (have ox := o73d.below hb1); (have bx0 := heap_below (w := w123.drew) b83 hb1); (have cx00 := (blk (i := 0) bx0 rfl).1); (have cx01 := (blk (i := 1) bx0 rfl).1); (have cx02 := (blk (i := 2) bx0 rfl).1))
          | (go_simp; go_at_call 25; (with_reducible refine (eqGarbled_same X71 X72 n1_1 n1_2 X125 X126 n1_1 n1_2 n1_1 n1_2 z1_1 z1_2 a1_0 _ ox.o1.ints o127.o1.ints L1_1.out (by omega) ox.o2.ints o127.o2.ints L1_2.out (by omega)).mono ?_); rintro e w139 ⟨rfl, hb2⟩))
        all_goals
          have hb := ((Below.refl w123.heap.size w123).drew.trans hb1).trans (hb2.mono (by have := hb1.size; exact this))
          go_wp2_with fail
          go_meet
          exact ⟨rfl, hb⟩
      case rest =>
        clear c128 c129 c130 c131 c132 c133 c134 c135 c136 c137
        obtain ⟨rfl, hb⟩ := hcut
        obtain ⟨w140, rfl⟩ : ∃ w140 : World, w140 = wc := ⟨_, rfl⟩
        replace b0 := heap_below b0 hb
        replace b1 := heap_below b1 hb
        replace i0_0 := i0_0.below (hb.mono low.size)
        replace i0_1 := i0_1.below (hb.mono low.size)
        replace i1_1 := i1_1.below (hb.mono low.size)
        replace i1_2 := i1_2.below (hb.mono low.size)
        replace o53 := o53.below hb
        replace b61 := heap_below b61 hb
        replace o73 := o73.below hb
        replace b83 := heap_below b83 hb
        replace low := low.trans (hb.mono low.size)
        have q141 := hb.size
        clear hb
        have c142 := (blk (i := 0) b0 rfl).1
        have c143 := (blk (i := 1) b0 rfl).1
        have c144 := (blk (i := 0) b1 rfl).1
        have c145 := (blk (i := 1) b1 rfl).1
        have c146 := (blk (i := 2) b1 rfl).1
        have c147 := (blk (i := 0) b61 rfl).1
        have c148 := (blk (i := 1) b61 rfl).1
        have c149 := (blk (i := 0) b83 rfl).1
        have c150 := (blk (i := 1) b83 rfl).1
        have c151 := (blk (i := 2) b83 rfl).1
        go_wp2_with fail
        go_ret
        exact ⟨by first | rfl | simp, low⟩
end Go.Proofs.Ytfpcjgolcbjnjaa

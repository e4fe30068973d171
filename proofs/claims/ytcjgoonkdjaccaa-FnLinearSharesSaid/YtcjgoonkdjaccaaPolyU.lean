/- The law FnLinearShares. -/
import Derived.Test.YtcjgoonkdjaccaaProg
import Derived.Test.YtcjgoonkdjaccaaPolyO
namespace Go.Proofs.Ytcjgoonkdjaccaa
open Go Go.RowKit
set_option maxHeartbeats 4000000 in
set_option maxRecDepth 100000 in
theorem FnLinearShares_walk (A : Option Addr) (n c : Nat) (w : World) (hb : Bytes w.heap.size w A n) (hm : n ≤ 9223372036854775807) :
    Calls Try.prog 6 #[.slice A n c] w fun e w' => e = .returned (.bool true) ∧ Below w.heap.size w w' := by
  by_cases hn : 1048576 < n
  · go_enter Try.func6, Try.ntmps6
    go_wp2_with fail
    refine (big_any A n c w true (by simpa using hn) hm).mono ?_
    rintro e w1 ⟨rfl, rfl⟩
    go_wp2_with fail
    go_ret
    exact ⟨rfl, Below.refl _ _⟩
  · have hn' : n ≤ 1048576 := by omega
    go_enter Try.func6, Try.ntmps6
    go_wp2_with fail
    refine (big_any A n c w false (by simpa using hn') hm).mono ?_
    rintro e w1 ⟨rfl, rfl⟩
    go_wp2_with fail
    refine (DrawPlaces_any A n c w hb (by omega)).mono ?_
    rintro e w1 ⟨g, cap, qs, rfl, hl, hpl, hown, low⟩
    have hi := Ints.of_own hown
    have i1 := (hi.below ((Below.refl _ _).alloc (Nat.le_refl _) (.cells #[.int .i64 7, .int .i64 11, .int .i64 13, .int .i64 97] 3)))
    replace low := low.alloc low.size (.cells #[.int .i64 7, .int .i64 11, .int .i64 13, .int .i64 97] 3)
    have b5 := heap_alloc_new w1 (.cells #[.int .i64 7, .int .i64 11, .int .i64 13, .int .i64 97] 3)
    obtain ⟨_, _, e0, _, c0⟩ := i1.at_ (j := 0) (by omega)
    injection e0 with e0
    injection e0 with e00 e01
    subst e00 e01
    obtain ⟨_, _, e0, _, c1⟩ := i1.at_ (j := 1) (by omega)
    injection e0 with e0
    injection e0 with e00 e01
    subst e00 e01
    obtain ⟨_, _, e0, _, c2⟩ := i1.at_ (j := 2) (by omega)
    injection e0 with e0
    injection e0 with e00 e01
    subst e00 e01
    obtain ⟨_, _, e0, _, c3⟩ := i1.at_ (j := 3) (by omega)
    injection e0 with e0
    injection e0 with e00 e01
    subst e00 e01
    obtain ⟨_, _, e0, _, c4⟩ := i1.at_ (j := 4) (by omega)
    injection e0 with e0
    injection e0 with e00 e01
    subst e00 e01
    have x0 := hpl.at_ (j := 0) (by omega)
    have x1 := hpl.at_ (j := 1) (by omega)
    have x2 := hpl.at_ (j := 2) (by omega)
    have x3 := hpl.at_ (j := 3) (by omega)
    have x4 := hpl.at_ (j := 4) (by omega)
    generalize hq0 : qs.getD 0 0 = q0 at c0 x0
    generalize hq1 : qs.getD 1 0 = q1 at c1 x1
    generalize hq2 : qs.getD 2 0 = q2 at c2 x2
    generalize hq3 : qs.getD 3 0 = q3 at c3 x3
    generalize hq4 : qs.getD 4 0 = q4 at c4 x4
    simp only [Nat.zero_add] at c0 c1 c2 c3 c4
    obtain ⟨x00, x01⟩ := x0
    obtain ⟨x10, x11⟩ := x1
    obtain ⟨x20, x21⟩ := x2
    obtain ⟨x30, x31⟩ := x3
    obtain ⟨x40, x41⟩ := x4
    obtain ⟨z, hz⟩ : ∃ z : Nat, (z : Int) = q0 % 4 := ⟨(q0 % 4).toNat, by omega⟩
    obtain ⟨p, hp, hc⟩ : ∃ p : Int, pr7 p ∧ (w1.alloc (.cells #[.int .i64 7, .int .i64 11, .int .i64 13, .int .i64 97] 3)).cell? ⟨w1.heap.size, z, none⟩ = some (.int .i64 p) := by
      have : z = 0 ∨ z = 1 ∨ z = 2 ∨ z = 3 := by omega
      rcases this with rfl | rfl | rfl | rfl
      · exact ⟨7, by unfold pr7; omega, (blk (i := 0) b5 rfl).1⟩
      · exact ⟨11, by unfold pr7; omega, (blk (i := 1) b5 rfl).1⟩
      · exact ⟨13, by unfold pr7; omega, (blk (i := 2) b5 rfl).1⟩
      · exact ⟨97, by unfold pr7; omega, (blk (i := 3) b5 rfl).1⟩
    have z3 : (z : Int) < 4 := by omega
    have hr : q0 % 4 = (z : Int) := hz.symm
    have hple := hp.le
    have hpp := Lib.hid hp.isP
    obtain ⟨p0, p1⟩ := hple
    have pne : ¬ p = 0 := by omega
    clear hown hi b5 hz hp
    have HbW := Lib.hid (hb.more low low.size)
    have hn2 : n ≤ 2000000 := by omega
    obtain ⟨N, hN⟩ : ∃ N : Nat, 2 + q1 % 4 = (N : Int) := ⟨(2 + q1 % 4).toNat, by omega⟩
    have hN1 : 1 ≤ N ∧ N ≤ 5 := by omega
    have hNp : (N : Int) < p := by omega
    have Nne : ¬ (N : Int) = 0 := by omega
    have hKr : 0 ≤ q2 % (N : Int) ∧ q2 % (N : Int) < N := ⟨Int.emod_nonneg _ Nne, Int.emod_lt_of_pos _ (by omega)⟩
    obtain ⟨K, hK⟩ : ∃ K : Nat, q2 % (N : Int) = (K : Int) := ⟨(q2 % (N : Int)).toNat, by omega⟩
    have hKN : K < N := by omega
    have ex : isEl p (q3 % p) := isEl_mod hpp.out _
    have ey : isEl p (q4 % p) := isEl_mod hpp.out _
    obtain ⟨x, hx⟩ : ∃ x, q3 % p = x := ⟨_, rfl⟩
    obtain ⟨y, hy4⟩ : ∃ y, q4 % p = y := ⟨_, rfl⟩
    have t2 : q2.tmod (N : Int) = (K : Int) := by rw [Int.tmod_eq_emod_of_nonneg x20, hK]
    have t3 : q3.tmod p = x := by rw [Int.tmod_eq_emod_of_nonneg x30, hx]
    have t4 : q4.tmod p = y := by rw [Int.tmod_eq_emod_of_nonneg x40, hy4]
    have Hx := Lib.hid hx
    have Hy4 := Lib.hid hy4
    rw [hx] at ex
    rw [hy4] at ey
    have glt := World.block_lt_of_cell? _ _ c4
    clear hx hy4 hKr hK i1 hb hl hpl
    go_wp2_with fail
    generalize hW : w1.alloc (.cells #[.int .i64 7, .int .i64 11, .int .i64 13, .int .i64 97] 3) = W at *
    have r0 : Below W.heap.size W W.drew := (Below.refl _ _).drew
    have r1 : Below W.heap.size W (W.alloc (.cells #[.int .i64 0, .int .i64 0] 27)).drew := ((Below.refl _ _).alloc (Nat.le_refl _) _).drew
    have r2 := r1.size
    have r3 := (r1.cell (p := ⟨g, 3, none⟩) glt).trans c3
    have hnew : (W.alloc (.cells #[.int .i64 0, .int .i64 0] 27)).drew.heap[W.heap.size]? = some (.cells #[.int .i64 0, .int .i64 0] 27 (0, 0)) := heap_alloc_new W _
    have gltW : g < W.heap.size := glt
    clear hW c0 c1 c2 hc
    go_upto_region 7 with (fail)
    go_cut [7, 8] (fun s7 s8 wx => ∃ (s a : Int) (g1 e1 G : Nat), s7 = .slice (some ⟨g1, 0, none⟩) N e1 ∧ s8 = .pointer (some ⟨G, 0, none⟩) ∧ (a < 50 ∧ Dealt W wx p x N K s a (a + K) g1 e1 G))
    case first =>
      go_wp2_with fail
      go_region_held3 (fun w' => w'.cell? ⟨g, 3, none⟩ = some (.int .i64 q3) ∧ Below W.heap.size W w' ∧ W.heap.size ≤ w'.heap.size) (first | (refine ⟨?_, ?_, ?_⟩ <;> first | assumption | (exact far_cell (by assumption) (lt_ne (by assumption)) _ _) | (exact set_below (by assumption) (by assumption) _ _) | (exact set_below (by assumption) (Nat.le_refl _) _ _) | (go_keep; done) | (go_grown; done) | (go_size; done) | (simp; omega)) | (refine ⟨?_, ?_⟩ <;> first | assumption | (exact far_cell (by assumption) (lt_ne (by assumption)) _ _) | (exact set_below (by assumption) (by assumption) _ _) | (exact set_below (by assumption) (Nat.le_refl _) _ _) | (go_keep; done) | (go_grown; done) | (go_size; done) | (simp; omega))) (first
        | (go_at_call 15; (with_reducible refine (DrawTape_keep A n c W _ HbW.out hn2 ⟨g, 3, none⟩ (.int .i64 q3) ?_ ?_).mono ?_); assumption; assumption; rintro e w5 ⟨s, a, rfl, hts, ha, hk3, hkl, hks, hbel⟩; have glt5 : g < w5.heap.size := Nat.lt_of_lt_of_le glt hks; (try (have hx := heap_below hnew hbel)))
        | (go_at_call 14; (with_reducible refine (SharePoly_keep p x N K s a ex hN1 hNp hKN hts (by omega) W _ ⟨g, 3, none⟩ (.int .i64 q3) ?_ ?_).mono ?_); (first | assumption | exact cell_old _ hk3); (first | assumption | exact hkl.alloc hks _); rintro e w6 ⟨g1, e1, rfl, ho6, hm3, hml, hms, hbel6⟩; (first | (have hy := heap_below hx hbel6; obtain ⟨z0, z1, z2, z3⟩ := box2 hy) | (have hy := heap_below (heap_alloc_new w5 (.cells #[.int .i64 0, .int .i64 0] 27)) hbel6; obtain ⟨z0, z1, z2, z3⟩ := box2 hy) | skip)))
      all_goals
        go_wp2_with fail
        go_meet
        first
          | exact ⟨s, a, g1, e1, _, rfl, rfl, ha, Dealt.last hts ho6 hml⟩
          | exact ⟨s, a, g1, e1, _, rfl, rfl, ha, Dealt.early hts ho6 hml hy (by simp) hks⟩
          | exact ⟨s, a, g1, e1, _, rfl, rfl, ha, Dealt.early hts ho6 hml hy (by have := hbel.size; simp at this; omega) (Nat.le_refl _)⟩
    case rest =>
      obtain ⟨s, a, g1, e1, G, rfl, rfl, ha50, hd⟩ := hcut
      obtain ⟨wb, rfl⟩ : ∃ wb : World, wb = wc := ⟨_, rfl⟩
      have glt2 : g < wb.heap.size := Nat.lt_of_lt_of_le glt hd.low.size
      have d3 := (hd.low.cell (p := ⟨g, 3, none⟩) glt).trans c3
      have d4 := (hd.low.cell (p := ⟨g, 4, none⟩) glt).trans c4
      have low2 := low.trans (hd.low.mono low.size)
      have is1 := Lib.hid hd.ints
      have hcap := hd.cap
      have bG := hd.box
      have Glt := heap_lt bG
      obtain ⟨u0, u1, _, _⟩ := box2 bG
      have hts := hd.tape
      have hts2 : isTape s (a + K) ∧ a + K ≤ 900000 := ⟨⟨hts.1, by have := hts.2.1; omega, by omega⟩, by omega⟩
      have s0 : Below wb.heap.size wb wb.drew := (Below.refl _ _).drew
      have s1 : Below wb.heap.size wb (wb.alloc (.cells #[.int .i64 0, .int .i64 0] 27)).drew := ((Below.refl _ _).alloc (Nat.le_refl _) _).drew
      have s2 := s1.size
      have s3 := (s1.cell (p := ⟨g, 4, none⟩) glt2).trans d4
      have s4 := (s1.cell (p := ⟨G, 0, none⟩) Glt).trans u0
      have s5 := (s1.cell (p := ⟨G, 1, none⟩) Glt).trans u1
      have hnew2 : (wb.alloc (.cells #[.int .i64 0, .int .i64 0] 27)).drew.heap[wb.heap.size]? = some (.cells #[.int .i64 0, .int .i64 0] 27 (0, 0)) := heap_alloc_new wb _
      clear hd r0 r1 r2 r3 hnew bG
      go_upto_region 8 with (fail)
      go_cut [9, 10] (fun s9 s10 wx => ∃ (g2 e2 G2 : Nat), s9 = .slice (some ⟨g2, 0, none⟩) N e2 ∧ s10 = .pointer (some ⟨G2, 0, none⟩) ∧ Dealt wb wx p y N K s (a + K) (a + K + K) g2 e2 G2)
      case first =>
        go_wp2_with fail
        go_region_held3 (fun w' => w'.cell? ⟨g, 4, none⟩ = some (.int .i64 q4) ∧ w'.cell? ⟨G, 0, none⟩ = some (.int .i64 s) ∧ w'.cell? ⟨G, 1, none⟩ = some (.int .i64 (a + K)) ∧ Below wb.heap.size wb w' ∧ wb.heap.size ≤ w'.heap.size) (first | (refine ⟨?_, ?_, ?_, ?_, ?_⟩ <;> first | assumption | (exact far_cell (by assumption) (lt_ne (by assumption)) _ _) | (exact set_below (by assumption) (by assumption) _ _) | (exact set_below (by assumption) (Nat.le_refl _) _ _) | (go_keep; done) | (go_grown; done) | (go_size; done) | (simp; omega)) | (refine ⟨?_, ?_, ?_, ?_⟩ <;> first | assumption | (exact far_cell (by assumption) (lt_ne (by assumption)) _ _) | (exact set_below (by assumption) (by assumption) _ _) | (exact set_below (by assumption) (Nat.le_refl _) _ _) | (go_keep; done) | (go_grown; done) | (go_size; done) | (simp; omega))) (first
          | (go_at_call 14; (with_reducible refine (SharePoly_keep3 p y N K s (a + K) ey hN1 hNp hKN hts2.1 hts2.2 wb _ ⟨g, 4, none⟩ ⟨G, 0, none⟩ ⟨G, 1, none⟩ (.int .i64 q4) (.int .i64 s) (.int .i64 (a + K)) ?_ ?_ ?_ ?_).mono ?_); assumption; assumption; assumption; assumption; rintro e w6 ⟨g2, e2, rfl, ho6, hm3, hm4, hm5, hml, hms, hbel6⟩; (try (have hy := heap_below hnew2 hbel6; obtain ⟨z0, z1, z2, z3⟩ := box2 hy))))
        all_goals
          go_wp2_with fail
          go_meet
          first
            | exact ⟨g2, e2, _, rfl, rfl, Dealt.last hts2.1 ho6 hml⟩
            | exact ⟨g2, e2, _, rfl, rfl, Dealt.early hts2.1 ho6 hml hy (by simp) (Nat.le_refl _)⟩
      case rest =>
        obtain ⟨g2, e2, G2, rfl, rfl, hd2⟩ := hcut
        have glt3 : g < wc.heap.size := Nat.lt_of_lt_of_le glt2 hd2.low.size
        replace d3 := (hd2.low.cell (p := ⟨g, 3, none⟩) glt2).trans d3
        replace d4 := (hd2.low.cell (p := ⟨g, 4, none⟩) glt2).trans d4
        replace low2 := low2.trans (hd2.low.mono low2.size)
        have i1 := (is1.out.below hd2.low).ints hd2.low.size
        have i2 : Ints wc (some ⟨g2, 0, none⟩) (shN p (polyS p y s (a + K) K) N) := hd2.ints
        have L1 := Lib.hid (shN_length p (polyS p x s a K) N)
        have L2 := Lib.hid (shN_length p (polyS p y s (a + K) K) N)
        have hadd := lin_add hpp.out (polyS p x s a K) (polyS p y s (a + K) K) N
        have hzero : evalZ (addP (polyS p x s a K) (polyS p y s (a + K) K)) 0 % p = (q3 + q4) % p := by rw [← Hx.out, ← Hy4.out]; exact lin_zero K
        have Ho := Lib.hid (lin_open hpp.out hzero (lin_len K) hN1 hNp hKN)
        have Hc := Lib.hid (decide_eq_true (lin_cons (K := K) hpp.out (lin_len (p := p) (x := x) (y := y) (s := s) (a := a) (s' := s) (a' := a + K) K) hN1 hNp hKN))
        have Lz := Lib.hid (shN_length p (addP (polyS p x s a K) (polyS p y s (a + K) K)) N)
        generalize shN p (addP (polyS p x s a K) (polyS p y s (a + K) K)) N = zs at *
        generalize shN p (polyS p x s a K) N = xs at *
        generalize shN p (polyS p y s (a + K) K) N = ys at *
        have Hadd := Lib.hid hadd
        obtain ⟨r, hr6⟩ : ∃ r, (q3 + q4) % p = r := ⟨_, rfl⟩
        have t6 : (q3 + q4).tmod p = r := by rw [Int.tmod_eq_emod_of_nonneg (by omega), hr6]
        have t7 : IntKind.i64.wrap (q3 + q4) = q3 + q4 := by rw [IntKind.wrap_i64]; omega
        rw [hr6] at Ho
        have N5 : (N : Int) ≤ 5 := by omega
        clear hd2 hadd hzero hr6 s0 s1 s2 s3 s4 s5 hnew2 u0 u1 Glt hts hts2 t2 t3 t4 Hx Hy4 hr hN glt2
        go_wp2_with fail
        refine (spec_AddShares p (some ⟨g1, 0, none⟩) (some ⟨g2, 0, none⟩) N e1 N e2 xs ys wc i1 i2 L1.out L2.out (by omega) (by omega)).mono ?_
        intro e w3 h3
        obtain ⟨A3, m3, c3', rfl, hl3, g3⟩ := h3.grow
        rw [Hadd.out] at hl3 g3
        have hm3 : N = m3 := by rw [← hl3, Lz.out]
        subst hm3
        have iz := Ints.of_own g3.own
        replace d3 := (g3.low.cell (p := ⟨g, 3, none⟩) glt3).trans d3
        replace d4 := (g3.low.cell (p := ⟨g, 4, none⟩) glt3).trans d4
        replace glt3 := Nat.lt_of_lt_of_le glt3 g3.low.size
        replace low2 := low2.trans (g3.low.mono low2.size)
        have Iz := Lib.hid iz.bound
        have Gr0 := Lib.hid (Grow.empty (Below.refl w3.heap.size w3))
        have hcz3 : N ≤ c3' := (OwnI.of_own g3.own).cap
        clear h3 g3 hl3 iz i1 i2
        go_wp2_with fail
        go_loopw [12, 13] (fun v i wr => ∃ j : Nat, j ≤ N ∧ i = .int .i64 (j : Int) ∧ Grow w3 wr v j (ptsN 0 j)) (fun _ i _ => N - (intOf i).toNat)
        case atStart => exact ⟨0, Nat.zero_le _, by simp, Gr0.out⟩
        case round =>
          obtain ⟨j, hj, rfl, gr⟩ := hrel
          clear Gr0
          by_cases hlt : j < N
          · have j0 : (0 : Int) ≤ (j : Int) := by omega
            have j1 : (j : Int) < (N : Int) := by omega
            have hz : ((0 + j + 1 : Nat) : Int) = (j : Int) + 1 := by omega
            have Hv := Lib.hid (snoc_vals (z := (j : Int) + 1) (by rw [ptsN_is, hz]) : intVals (ptsN 0 j) ++ _ = intVals (ptsN 0 (j + 1)))
            have g4 := gr.alloc (.cells #[.int .i64 ((j : Int) + 1)] 3)
            clear hz gr
            go_wp2_with (first | (at_builtin; refine app_list (e' := 3) elemInt rfl _ _ rfl w3.heap.size _ j (intVals (ptsN 0 j)) rfl g4.own wr.heap.size 1 1 _ (0, 0) rfl (heap_alloc_new wr _) rfl (oneCell_i64 [_]) (by omega) (by unfold maxLen; omega) (by omega) g4.size (wr.heap.size + 1) (by simp) ?_))
            intro g5 c5 w5 ho5 hg5 _ _
            have Hg := Lib.hid (g4.app ho5 hg5 Hv.out)
            clear ho5 hg5 g4
            go_wp2_with fail
            go_roundw
            case rel => exact ⟨j + 1, by omega, by go_num, Hg.out⟩
            case measure => simp [intOf]; omega
          · obtain rfl : j = N := by omega
            obtain ⟨A5, m5, c5, rfl, hm5⟩ := ownsRow_slice gr.own
            subst hm5
            have hc5 : j ≤ c5 := (OwnI.of_own gr.own).cap
            have ip := Lib.hid (Ints.of_own gr.own).bound
            have lp := Lib.hid (ptsN_length 0 j)
            have low3 := Lib.hid (low2.trans (gr.low.mono low2.size))
            have iz := Lib.hid ((Iz.out.below gr.low).ints gr.size).bound
            have hcz : j ≤ c3' := hcz3
            have f3 := (gr.low.cell (p := ⟨g, 3, none⟩) glt3).trans d3
            have f4 := (gr.low.cell (p := ⟨g, 4, none⟩) glt3).trans d4
            have s0 : Below wr.heap.size wr wr.drew := (Below.refl _ _).drew
            have gltr : g < wr.heap.size := Nat.lt_of_lt_of_le glt3 gr.low.size
            have hj5 : j ≤ 2000000 := by omega
            clear gr low2 d3 d4
            go_wp2_with fail
            go_region_held3 (fun w' => w'.cell? ⟨g, 3, none⟩ = some (.int .i64 q3) ∧ w'.cell? ⟨g, 4, none⟩ = some (.int .i64 q4) ∧ Below wr.heap.size wr w' ∧ wr.heap.size ≤ w'.heap.size) (first | (refine ⟨?_, ?_, ?_, ?_⟩ <;> first | assumption | (exact far_cell (by assumption) (lt_ne (by assumption)) _ _) | (exact set_below (by assumption) (by assumption) _ _) | (exact set_below (by assumption) (Nat.le_refl _) _ _) | (go_keep; done) | (go_grown; done) | (go_size; done) | (simp; omega)) | (refine ⟨?_, ?_, ?_⟩ <;> first | assumption | (exact far_cell (by assumption) (lt_ne (by assumption)) _ _) | (exact set_below (by assumption) (by assumption) _ _) | (exact set_below (by assumption) (Nat.le_refl _) _ _) | (go_keep; done) | (go_grown; done) | (go_size; done) | (simp; omega))) (first
              | (go_at_call 16; (with_reducible refine (OpenPoly_keep p A5 A3 j c5 c3' (ptsN 0 j) zs r Ho.out wr _ ip.out iz.out lp.out Lz.out hj5 hc5 ⟨g, 3, none⟩ ⟨g, 4, none⟩ (.int .i64 q3) (.int .i64 q4) ?_ ?_ ?_).mono ?_); assumption; assumption; assumption; rintro e w6 ⟨rfl, hk3, hk4, hkl, hks⟩)
              | (go_at_call 17; (with_reducible refine (PolyConsistent_keep p A3 j c3' zs K true Hc.out (by omega) wr _ iz.out Lz.out hj5 hcz ⟨g, 3, none⟩ ⟨g, 4, none⟩ (.int .i64 q3) (.int .i64 q4) ?_ ?_ ?_).mono ?_); assumption; assumption; assumption; rintro e w7 ⟨rfl, hk3', hk4', hkl', hks'⟩))
            all_goals
              go_wp2_with fail
              go_ret
              exact ⟨rfl, low3.out.trans ((by assumption : Below wr.heap.size wr _).mono low3.out.size)⟩
end Go.Proofs.Ytcjgoonkdjaccaa

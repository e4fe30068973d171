/- The law FnThreshold. -/
import Derived.Test.YtcjgoonkdjaccaaProg
import Derived.Test.YtcjgoonkdjaccaaPolyO
namespace Go.Proofs.Ytcjgoonkdjaccaa
open Go Go.RowKit
set_option maxHeartbeats 4000000 in
set_option maxRecDepth 100000 in
theorem FnThreshold_walk (A : Option Addr) (n c : Nat) (w : World) (hb : Bytes w.heap.size w A n) (hm : n ≤ 9223372036854775807) :
    Calls Try.prog 3 #[.slice A n c] w fun e w' => e = .returned (.bool true) ∧ Below w.heap.size w w' := by
  by_cases hn : 1048576 < n
  · go_enter Try.func3, Try.ntmps3
    go_wp2_with fail
    refine (big_any A n c w true (by simpa using hn) hm).mono ?_
    rintro e w1 ⟨rfl, rfl⟩
    go_wp2_with fail
    go_ret
    exact ⟨rfl, Below.refl _ _⟩
  · have hn' : n ≤ 1048576 := by omega
    go_enter Try.func3, Try.ntmps3
    go_wp2_with fail
    refine (big_any A n c w false (by simpa using hn') hm).mono ?_
    rintro e w1 ⟨rfl, rfl⟩
    go_wp2_with fail
    refine (DrawPlaces_any A n c w hb (by omega)).mono ?_
    rintro e w1 ⟨g, cap, qs, rfl, hl, hpl, hown, low⟩
    have hi := Ints.of_own hown
    have i1 := (hi.below ((Below.refl _ _).alloc (Nat.le_refl _) (.cells #[.int .i64 7, .int .i64 11, .int .i64 13, .int .i64 97] 3)))
    replace low := low.alloc low.size (.cells #[.int .i64 7, .int .i64 11, .int .i64 13, .int .i64 97] 3)
    have b5 := heap_alloc_new w1 (.cells #[.int .i64 7, .int .i64 11, .int .i64 13, .int .i64 97] 3)
    obtain ⟨_, _, e0, _, c0⟩ := i1.at_ (j := 0) (by omega)
    injection e0 with e0
    injection e0 with e00 e01
    subst e00 e01
    obtain ⟨_, _, e0, _, c1⟩ := i1.at_ (j := 1) (by omega)
    injection e0 with e0
    injection e0 with e00 e01
    subst e00 e01
    obtain ⟨_, _, e0, _, c2⟩ := i1.at_ (j := 2) (by omega)
    injection e0 with e0
    injection e0 with e00 e01
    subst e00 e01
    obtain ⟨_, _, e0, _, c3⟩ := i1.at_ (j := 3) (by omega)
    injection e0 with e0
    injection e0 with e00 e01
    subst e00 e01
    obtain ⟨_, _, e0, _, c4⟩ := i1.at_ (j := 4) (by omega)
    injection e0 with e0
    injection e0 with e00 e01
    subst e00 e01
    have x0 := hpl.at_ (j := 0) (by omega)
    have x1 := hpl.at_ (j := 1) (by omega)
    have x2 := hpl.at_ (j := 2) (by omega)
    have x3 := hpl.at_ (j := 3) (by omega)
    have x4 := hpl.at_ (j := 4) (by omega)
    generalize hq0 : qs.getD 0 0 = q0 at c0 x0
    generalize hq1 : qs.getD 1 0 = q1 at c1 x1
    generalize hq2 : qs.getD 2 0 = q2 at c2 x2
    generalize hq3 : qs.getD 3 0 = q3 at c3 x3
    generalize hq4 : qs.getD 4 0 = q4 at c4 x4
    simp only [Nat.zero_add] at c0 c1 c2 c3 c4
    obtain ⟨x00, x01⟩ := x0
    obtain ⟨x10, x11⟩ := x1
    obtain ⟨x20, x21⟩ := x2
    obtain ⟨x30, x31⟩ := x3
    obtain ⟨x40, x41⟩ := x4
    obtain ⟨z, hz⟩ : ∃ z : Nat, (z : Int) = q0 % 4 := ⟨(q0 % 4).toNat, by omega⟩
    obtain ⟨p, hp, hc⟩ : ∃ p : Int, pr7 p ∧ (w1.alloc (.cells #[.int .i64 7, .int .i64 11, .int .i64 13, .int .i64 97] 3)).cell? ⟨w1.heap.size, z, none⟩ = some (.int .i64 p) := by
      have : z = 0 ∨ z = 1 ∨ z = 2 ∨ z = 3 := by omega
      rcases this with rfl | rfl | rfl | rfl
      · exact ⟨7, by unfold pr7; omega, (blk (i := 0) b5 rfl).1⟩
      · exact ⟨11, by unfold pr7; omega, (blk (i := 1) b5 rfl).1⟩
      · exact ⟨13, by unfold pr7; omega, (blk (i := 2) b5 rfl).1⟩
      · exact ⟨97, by unfold pr7; omega, (blk (i := 3) b5 rfl).1⟩
    have z3 : (z : Int) < 4 := by omega
    have hr : q0 % 4 = (z : Int) := hz.symm
    have hple := hp.le
    have hpp := Lib.hid hp.isP
    obtain ⟨p0, p1⟩ := hple
    have pne : ¬ p = 0 := by omega
    clear hown hi b5 hz hp
    obtain ⟨N, hN⟩ : ∃ N : Nat, 2 + q1 % 4 = (N : Int) := ⟨(2 + q1 % 4).toNat, by omega⟩
    have hN2 : 2 ≤ N ∧ N ≤ 5 := by omega
    have hNp : (N : Int) < p := by omega
    have Nne : ¬ (N : Int) = 0 := by omega
    have hKr : 0 ≤ q2 % (N : Int) ∧ q2 % (N : Int) < N := ⟨Int.emod_nonneg _ Nne, Int.emod_lt_of_pos _ (by omega)⟩
    obtain ⟨K, hK⟩ : ∃ K : Nat, q2 % (N : Int) = (K : Int) := ⟨(q2 % (N : Int)).toNat, by omega⟩
    have hKN : K < N := by omega
    have ex : isEl p (q3 % p) := isEl_mod hpp.out _
    obtain ⟨x, hx⟩ : ∃ x, q3 % p = x := ⟨_, rfl⟩
    have t2 : q2.tmod (N : Int) = (K : Int) := by rw [Int.tmod_eq_emod_of_nonneg x20, hK]
    have t3 : q3.tmod p = x := by rw [Int.tmod_eq_emod_of_nonneg x30, hx]
    rw [hx] at ex
    clear hx hKr hK
    go_wp2_with fail
    refine (DrawTape_any A n c _ (hb.more low low.size) (by omega)).mono ?_
    rintro e w2 ⟨s, a, rfl, hs, ha0, ha1, hb2⟩
    have hts : isTape s a := ⟨hs, ha0, by omega⟩
    have glt := World.block_lt_of_cell? _ _ c4
    have d4 := (hb2.cell (p := ⟨g, 4, none⟩) glt).trans c4
    replace glt := Nat.lt_of_lt_of_le glt hb2.size
    have low2 := low.trans (hb2.mono low.size)
    have fr : 0 ≤ q4 % ((N : Int) - K) ∧ q4 % ((N : Int) - K) < (N : Int) - K := ⟨Int.emod_nonneg _ (by omega), Int.emod_lt_of_pos _ (by omega)⟩
    obtain ⟨f, hf⟩ : ∃ f : Nat, q4 % ((N : Int) - K) = (f : Int) := ⟨(q4 % ((N : Int) - K)).toNat, by omega⟩
    have hfN : f + K + 1 ≤ N := by omega
    have t4 : q4.tmod ((N : Int) - K) = (f : Int) := by rw [Int.tmod_eq_emod_of_nonneg x40, hf]
    have Ho := Lib.hid (thr_open (s := s) (a := a) ex hN2.2 hNp hfN)
    have Hc := Lib.hid (decide_eq_true (thr_cons (s := s) (a := a) (k := K) ex (by omega) hNp hKN (by omega)))
    have Ha := Lib.hid (thr_at ex (by omega))
    clear c0 c1 c2 c3 c4 hb2 low hc t2 t3 fr hf hN hr x00 x01 x10 x11 x20 x21 x30 x31 hq0 hq1 hq2 hq3 hq4 i1 hb hs hpl hl
    go_wp2_with fail
    refine (impl_SharePoly_yes p x N K s a ex (by omega) hNp hKN hts (by omega) w2).mono ?_
    rintro e w3 ⟨A1, m1, e1, rfl, l1, o1, hb3⟩
    obtain rfl : N = m1 := by rw [← l1, shN_length]
    replace low2 := low_alloc (low2.trans (hb3.mono low2.size)) (.cells #[.int .i64 s, .int .i64 (a + K)] 27)
    replace d4 := (hb3.cell (p := ⟨g, 4, none⟩) glt).trans d4
    replace glt := Nat.lt_of_lt_of_le glt hb3.size
    have d5 := ((below_alloc w3 (.cells #[.int .i64 s, .int .i64 (a + K)] 27)).cell (p := ⟨g, 4, none⟩) glt).trans d4
    have oa := (OwnI.of_own o1).alloc (.cells #[.int .i64 s, .int .i64 (a + K)] 27)
    obtain ⟨g1, rfl, _, _⟩ := own_addr o1 (by omega)
    have hcap : N ≤ e1 := oa.cap
    have hel := Lib.hid (shN_el hpp.out (polyS p x s a K) N)
    generalize shN p (polyS p x s a K) N = zs at *
    have l2 := Lib.hid l1
    clear o1 hb3 d4 glt l1
    have NKne : ¬ (N : Int) - (K : Int) = 0 := by omega
    have NKw : ((N : Int) == (N : Int)) = true := by simp
    have K0 : (0 : Int) ≤ (K : Int) := by omega
    have KN1 : (K : Int) < (N : Int) := by omega
    have N5 : (N : Int) ≤ 5 := by omega
    go_wp2_with fail
    have gr0 : Grow (w3.alloc (.cells #[.int .i64 s, .int .i64 (a + K)] 27)) ((w3.alloc (.cells #[.int .i64 s, .int .i64 (a + K)] 27)).alloc (.cells #[] 3)) (.slice (some ⟨w3.heap.size + 1, 0, none⟩) 0 0) 0 [] := by
      simpa using Grow.empty (Below.refl (w3.alloc (.cells #[.int .i64 s, .int .i64 (a + K)] 27)).heap.size (w3.alloc (.cells #[.int .i64 s, .int .i64 (a + K)] 27)))
    have Gr0 := Lib.hid gr0
    have is := oa.ints.bound
    clear gr0 d5 oa hts t4
    generalize hg : w3.alloc (.cells #[.int .i64 s, .int .i64 (a + K)] 27) = w4 at *
    clear hg
    have f0 : (0 : Int) ≤ (f : Int) := by omega
    have f5 : (f : Int) + (K : Int) + 1 ≤ (N : Int) := by omega
    go_loopw [11, 12] (fun v i wr => ∃ j : Nat, j ≤ K + 1 ∧ i = .int .i64 ((f : Int) + (j : Int)) ∧ Grow w4 wr v j (ptsN f j)) (fun _ i _ => f + K + 1 - (intOf i).toNat)
    case atStart => exact ⟨0, Nat.zero_le _, by simp, Gr0.out⟩
    case round =>
      obtain ⟨j, hj, rfl, gr⟩ := hrel
      clear Gr0
      by_cases hlt : j ≤ K
      · have j0 : (0 : Int) ≤ (j : Int) := by omega
        have j1 : (j : Int) ≤ (K : Int) := by omega
        have j2 : (f : Int) + (j : Int) ≤ (f : Int) + (K : Int) := by omega
        have hz : ((f + j + 1 : Nat) : Int) = (f : Int) + (j : Int) + 1 := by omega
        have Hv := Lib.hid (snoc_vals (z := (f : Int) + (j : Int) + 1) (by rw [ptsN_is, hz]) : intVals (ptsN f j) ++ _ = intVals (ptsN f (j + 1)))
        have g4 := gr.alloc (.cells #[.int .i64 ((f : Int) + (j : Int) + 1)] 3)
        have hsz := gr.size
        clear hz gr is
        go_wp2_with (first | (at_builtin; refine app_list (e' := 3) elemInt rfl _ _ rfl w4.heap.size _ j (intVals (ptsN f j)) rfl g4.own wr.heap.size 1 1 _ (0, 0) rfl (heap_alloc_new wr _) rfl (oneCell_i64 [_]) (by omega) (by unfold maxLen; omega) (by omega) g4.size (wr.heap.size + 1) (by simp) ?_))
        intro g5 c5 w5 ho5 hg5 _ _
        have Hg := Lib.hid (g4.app ho5 hg5 Hv.out)
        clear ho5 hg5 g4
        go_wp2_with fail
        go_roundw
        case rel => exact ⟨j + 1, by omega, by go_num, Hg.out⟩
        case measure => simp [intOf]; omega
      · obtain rfl : j = K + 1 := by omega
        have j2 : ¬ (f : Int) + ((K + 1 : Nat) : Int) ≤ (f : Int) + (K : Int) := by omega
        obtain ⟨A5, m5, c5, rfl, hm5⟩ := ownsRow_slice gr.own
        subst hm5
        have hc5 : K + 1 ≤ c5 := (OwnI.of_own gr.own).cap
        have ip := Ints.of_own gr.own
        have lp := Lib.hid (ptsN_length f (K + 1))
        have low3 := low2.trans (gr.low.mono low2.size)
        have is3 := (is.below gr.low).ints gr.size
        have iv := (is3.skip f).cut (K + 1)
        have lv := Lib.hid (show ((zs.drop f).take (K + 1)).length = f + K + 1 - f by rw [List.length_take, List.length_drop, l2.out]; omega)
        clear gr is low2
        rw [Nat.zero_add] at iv
        have e2 : ¬ e1 - f = 0 := by omega
        have e3 : f < e1 := by omega
        have e4 : (f : Int) < (e1 : Int) := by omega
        have e5 : (f : Int) + (K : Int) + 1 ≤ (e1 : Int) := by omega
        go_wp2_with fail
        refine (impl_OpenPoly p A5 _ (K + 1) (f + K + 1 - f) c5 _ (ptsN f (K + 1)) ((zs.drop f).take (K + 1)) x Ho.out wr ip iv lp.out lv.out (by omega) (by omega) hc5).mono ?_
        rintro e w6 ⟨rfl, hb⟩
        replace low3 := low3.trans (hb.mono low3.size)
        replace is3 := is3.below hb
        clear hb ip iv
        go_wp2_with fail
        refine (impl_PolyConsistent p _ N e1 zs K true Hc.out (by omega) w6 is3 l2.out (by omega) hcap).mono ?_
        rintro e w7 ⟨rfl, hb⟩
        replace low3 := low_alloc (low3.trans (hb.mono low3.size)) (.cells #[.int .i64 x] 3)
        have i8 := ints_one w7 x 3
        clear hb is3
        go_wp2_with fail
        refine (impl_PolyAt p _ 1 1 [x] 3 x Ha.out _ i8 rfl (by omega)).mono ?_
        rintro e w8 ⟨rfl, hb⟩
        replace low3 := low3.trans (hb.mono low3.size)
        clear hb i8
        go_wp2_with fail
        go_ret
        exact ⟨rfl, low3⟩
end Go.Proofs.Ytcjgoonkdjaccaa

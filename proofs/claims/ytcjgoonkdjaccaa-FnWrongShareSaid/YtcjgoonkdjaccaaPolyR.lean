/- The law FnWrongShare. -/
import Derived.Test.YtcjgoonkdjaccaaProg
import Derived.Test.YtcjgoonkdjaccaaPolyO
namespace Go.Proofs.Ytcjgoonkdjaccaa
open Go Go.RowKit
set_option maxHeartbeats 4000000 in
set_option maxRecDepth 100000 in
theorem FnWrongShare_walk (A : Option Addr) (n c : Nat) (w : World) (hb : Bytes w.heap.size w A n) (hm : n ≤ 9223372036854775807) :
    Calls Try.prog 5 #[.slice A n c] w fun e w' => e = .returned (.bool true) ∧ Below w.heap.size w w' := by
  by_cases hn : 1048576 < n
  · go_enter Try.func5, Try.ntmps5
    go_wp2_with fail
    refine (big_any A n c w true (by simpa using hn) hm).mono ?_
    rintro e w1 ⟨rfl, rfl⟩
    go_wp2_with fail
    go_ret
    exact ⟨rfl, Below.refl _ _⟩
  · have hn' : n ≤ 1048576 := by omega
    go_enter Try.func5, Try.ntmps5
    go_wp2_with fail
    refine (big_any A n c w false (by simpa using hn') hm).mono ?_
    rintro e w1 ⟨rfl, rfl⟩
    go_wp2_with fail
    refine (DrawPlaces_any A n c w hb (by omega)).mono ?_
    rintro e w1 ⟨g, cap, qs, rfl, hl, hpl, hown, low⟩
    have hi := Ints.of_own hown
    have i1 := (hi.below ((Below.refl _ _).alloc (Nat.le_refl _) (.cells #[.int .i64 7, .int .i64 11, .int .i64 97] 3)))
    replace low := low.alloc low.size (.cells #[.int .i64 7, .int .i64 11, .int .i64 97] 3)
    have b5 := heap_alloc_new w1 (.cells #[.int .i64 7, .int .i64 11, .int .i64 97] 3)
    obtain ⟨_, _, e0, _, c0⟩ := i1.at_ (j := 0) (by omega)
    injection e0 with e0
    injection e0 with e00 e01
    subst e00 e01
    obtain ⟨_, _, e0, _, c1⟩ := i1.at_ (j := 1) (by omega)
    injection e0 with e0
    injection e0 with e00 e01
    subst e00 e01
    obtain ⟨_, _, e0, _, c2⟩ := i1.at_ (j := 2) (by omega)
    injection e0 with e0
    injection e0 with e00 e01
    subst e00 e01
    obtain ⟨_, _, e0, _, c3⟩ := i1.at_ (j := 3) (by omega)
    injection e0 with e0
    injection e0 with e00 e01
    subst e00 e01
    obtain ⟨_, _, e0, _, c4⟩ := i1.at_ (j := 4) (by omega)
    injection e0 with e0
    injection e0 with e00 e01
    subst e00 e01
    obtain ⟨_, _, e0, _, c5⟩ := i1.at_ (j := 5) (by omega)
    injection e0 with e0
    injection e0 with e00 e01
    subst e00 e01
    have x0 := hpl.at_ (j := 0) (by omega)
    have x1 := hpl.at_ (j := 1) (by omega)
    have x2 := hpl.at_ (j := 2) (by omega)
    have x3 := hpl.at_ (j := 3) (by omega)
    have x4 := hpl.at_ (j := 4) (by omega)
    have x5 := hpl.at_ (j := 5) (by omega)
    generalize hq0 : qs.getD 0 0 = q0 at c0 x0
    generalize hq1 : qs.getD 1 0 = q1 at c1 x1
    generalize hq2 : qs.getD 2 0 = q2 at c2 x2
    generalize hq3 : qs.getD 3 0 = q3 at c3 x3
    generalize hq4 : qs.getD 4 0 = q4 at c4 x4
    generalize hq5 : qs.getD 5 0 = q5 at c5 x5
    simp only [Nat.zero_add] at c0 c1 c2 c3 c4 c5
    obtain ⟨x00, x01⟩ := x0
    obtain ⟨x10, x11⟩ := x1
    obtain ⟨x20, x21⟩ := x2
    obtain ⟨x30, x31⟩ := x3
    obtain ⟨x40, x41⟩ := x4
    obtain ⟨x50, x51⟩ := x5
    obtain ⟨z, hz⟩ : ∃ z : Nat, (z : Int) = q0 % 3 := ⟨(q0 % 3).toNat, by omega⟩
    obtain ⟨p, hp, hc⟩ : ∃ p : Int, pr7 p ∧ (w1.alloc (.cells #[.int .i64 7, .int .i64 11, .int .i64 97] 3)).cell? ⟨w1.heap.size, z, none⟩ = some (.int .i64 p) := by
      have : z = 0 ∨ z = 1 ∨ z = 2 := by omega
      rcases this with rfl | rfl | rfl
      · exact ⟨7, by unfold pr7; omega, (blk (i := 0) b5 rfl).1⟩
      · exact ⟨11, by unfold pr7; omega, (blk (i := 1) b5 rfl).1⟩
      · exact ⟨97, by unfold pr7; omega, (blk (i := 2) b5 rfl).1⟩
    have z3 : (z : Int) < 3 := by omega
    have hr : q0 % 3 = (z : Int) := hz.symm
    have hple := hp.le
    have hpp := Lib.hid hp.isP
    obtain ⟨p0, p1⟩ := hple
    have pne : ¬ p = 0 := by omega
    clear hown hi b5 hz hp
    have HbW := Lib.hid (hb.more low low.size)
    have hn2 : n ≤ 2000000 := by omega
    obtain ⟨N, hN⟩ : ∃ N : Nat, 3 + q1 % 3 = (N : Int) := ⟨(3 + q1 % 3).toNat, by omega⟩
    have hN2 : 3 ≤ N ∧ N ≤ 5 := by omega
    have hN1 : 1 ≤ N ∧ N ≤ 5 := by omega
    have hNp : (N : Int) < p := by omega
    have Nne : ¬ (N : Int) = 0 := by omega
    have Nne1 : ¬ (N : Int) - 1 = 0 := by omega
    have hKr : 0 ≤ q2 % ((N : Int) - 1) ∧ q2 % ((N : Int) - 1) < (N : Int) - 1 := ⟨Int.emod_nonneg _ Nne1, Int.emod_lt_of_pos _ (by omega)⟩
    obtain ⟨K, hK⟩ : ∃ K : Nat, q2 % ((N : Int) - 1) = (K : Int) := ⟨(q2 % ((N : Int) - 1)).toNat, by omega⟩
    have hKN : K < N := by omega
    have hKN2 : K + 2 ≤ N := by omega
    have ex : isEl p (q3 % p) := isEl_mod hpp.out _
    obtain ⟨x, hx⟩ : ∃ x, q3 % p = x := ⟨_, rfl⟩
    have t2 : q2.tmod ((N : Int) - 1) = (K : Int) := by rw [Int.tmod_eq_emod_of_nonneg x20, hK]
    have t3 : q3.tmod p = x := by rw [Int.tmod_eq_emod_of_nonneg x30, hx]
    rw [hx] at ex
    have glt := World.block_lt_of_cell? _ _ c4
    clear hx hKr hK i1 hb hl hpl
    go_wp2_with fail
    generalize hW : w1.alloc (.cells #[.int .i64 7, .int .i64 11, .int .i64 97] 3) = W at *
    have r0 : Below W.heap.size W W.drew := (Below.refl _ _).drew
    have r1 : Below W.heap.size W (W.alloc (.cells #[.int .i64 0, .int .i64 0] 27)).drew := ((Below.refl _ _).alloc (Nat.le_refl _) _).drew
    have r2 := r1.size
    have r3 := (r1.cell (p := ⟨g, 3, none⟩) glt).trans c3
    have hnew : (W.alloc (.cells #[.int .i64 0, .int .i64 0] 27)).drew.heap[W.heap.size]? = some (.cells #[.int .i64 0, .int .i64 0] 27 (0, 0)) := heap_alloc_new W _
    have gltW : g < W.heap.size := glt
    clear hW c0 c1 c2 hc
    go_upto_region 7 with (fail)
    go_cut [7, 8] (fun s7 s8 wx => ∃ (s a : Int) (g1 e1 G : Nat), s7 = .slice (some ⟨g1, 0, none⟩) N e1 ∧ s8 = .pointer (some ⟨G, 0, none⟩) ∧ Dealt W wx p x N K s a (a + K) g1 e1 G)
    case first =>
      go_wp2_with fail
      go_region_held3 (fun w' => w'.cell? ⟨g, 3, none⟩ = some (.int .i64 q3) ∧ Below W.heap.size W w' ∧ W.heap.size ≤ w'.heap.size) (first | (refine ⟨?_, ?_, ?_⟩ <;> first | assumption | (exact far_cell (by assumption) (lt_ne (by assumption)) _ _) | (exact set_below (by assumption) (by assumption) _ _) | (exact set_below (by assumption) (Nat.le_refl _) _ _) | (go_keep; done) | (go_grown; done) | (go_size; done) | (simp; omega)) | (refine ⟨?_, ?_⟩ <;> first | assumption | (exact far_cell (by assumption) (lt_ne (by assumption)) _ _) | (exact set_below (by assumption) (by assumption) _ _) | (exact set_below (by assumption) (Nat.le_refl _) _ _) | (go_keep; done) | (go_grown; done) | (go_size; done) | (simp; omega))) (first
        | (go_at_call 15; (with_reducible refine (DrawTape_keep A n c W _ HbW.out hn2 ⟨g, 3, none⟩ (.int .i64 q3) ?_ ?_).mono ?_); assumption; assumption; rintro e w5 ⟨s, a, rfl, hts, ha, hk3, hkl, hks, hbel⟩; have glt5 : g < w5.heap.size := Nat.lt_of_lt_of_le glt hks; (try (have hx := heap_below hnew hbel)))
        | (go_at_call 14; (with_reducible refine (SharePoly_keep p x N K s a ex hN1 hNp hKN hts (by omega) W _ ⟨g, 3, none⟩ (.int .i64 q3) ?_ ?_).mono ?_); (first | assumption | exact cell_old _ hk3); (first | assumption | exact hkl.alloc hks _); rintro e w6 ⟨g1, e1, rfl, ho6, hm3, hml, hms, hbel6⟩; (first | (have hy := heap_below hx hbel6; obtain ⟨z0, z1, z2, z3⟩ := box2 hy) | (have hy := heap_below (heap_alloc_new w5 (.cells #[.int .i64 0, .int .i64 0] 27)) hbel6; obtain ⟨z0, z1, z2, z3⟩ := box2 hy) | skip)))
      all_goals
        go_wp2_with fail
        go_meet
        first
          | exact ⟨s, a, g1, e1, _, rfl, rfl, Dealt.last hts ho6 hml⟩
          | exact ⟨s, a, g1, e1, _, rfl, rfl, Dealt.early hts ho6 hml hy (by simp) hks⟩
          | exact ⟨s, a, g1, e1, _, rfl, rfl, Dealt.early hts ho6 hml hy (by have := hbel.size; simp at this; omega) (Nat.le_refl _)⟩
    case rest =>
      obtain ⟨s, a, g1, e1, G, rfl, rfl, hd⟩ := hcut
      have glt2 : g < wc.heap.size := Nat.lt_of_lt_of_le glt hd.low.size
      have d4 := (hd.low.cell (p := ⟨g, 4, none⟩) glt).trans c4
      have d5 := (hd.low.cell (p := ⟨g, 5, none⟩) glt).trans c5
      have low2 := low.trans (hd.low.mono low.size)
      have is0 : Ints wc (some ⟨g1, 0, none⟩) (shN p (polyS p x s a K) N) := hd.ints
      have hcap := hd.cap
      have lz := Lib.hid (shN_length p (polyS p x s a K) N)
      have hel := Lib.hid (shN_el hpp.out (polyS p x s a K) N)
      have Hc := Lib.hid (decide_eq_true (thr_cons (s := s) (a := a) (k := K) ex hN1 hNp hKN (by omega)))
      have hfr : 0 ≤ q4 % (N : Int) ∧ q4 % (N : Int) < N := ⟨Int.emod_nonneg _ Nne, Int.emod_lt_of_pos _ (by omega)⟩
      obtain ⟨f, hf⟩ : ∃ f : Nat, q4 % (N : Int) = (f : Int) := ⟨(q4 % (N : Int)).toNat, by omega⟩
      have hfN : f < N := by omega
      have t4 : q4.tmod (N : Int) = (f : Int) := by rw [Int.tmod_eq_emod_of_nonneg x40, hf]
      have pne1 : ¬ p - 1 = 0 := by omega
      have hrr : 0 ≤ q5 % (p - 1) ∧ q5 % (p - 1) < p - 1 := ⟨Int.emod_nonneg _ pne1, Int.emod_lt_of_pos _ (by omega)⟩
      obtain ⟨r, hr5⟩ : ∃ r, q5 % (p - 1) = r := ⟨_, rfl⟩
      rw [hr5] at hrr
      have t5 : q5.tmod (p - 1) = r := by rw [Int.tmod_eq_emod_of_nonneg x50, hr5]
      have hve := isEl_at hel.out (show f < (shN p (polyS p x s a K) N).length by rw [lz.out]; exact hfN)
      have hzne := wrong_ne hve.2 hrr
      have hze : isEl p (((shN p (polyS p x s a K) N).getD f 0 + 1 + r) % p) := isEl_mod hpp.out _
      have Hno : Hid (¬ consC p ((shN p (polyS p x s a K) N).set f (((shN p (polyS p x s a K) N).getD f 0 + 1 + r) % p)) K) := wrong_no ex hNp hKN2 hfN hze hzne
      have Hall : Hid (consC p ((shN p (polyS p x s a K) N).set f (((shN p (polyS p x s a K) N).getD f 0 + 1 + r) % p)) ((N : Int) - 1)) := wrong_all hel.out lz.out hN1 hNp hze
      generalize shN p (polyS p x s a K) N = zs at *
      have hv0 := hve.2
      generalize hvv : zs.getD f 0 = v at *
      obtain ⟨zz, hzz⟩ : ∃ zz, (v + 1 + r) % p = zz := ⟨_, rfl⟩
      have tz : (v + 1 + r).tmod p = zz := by rw [Int.tmod_eq_emod_of_nonneg (by omega), hzz]
      rw [hzz] at Hno Hall
      have HN := Lib.hid (decide_eq_false Hno.out)
      have HA := Lib.hid (decide_eq_true Hall.out)
      obtain ⟨v0, v1⟩ := hv0
      obtain ⟨r0', r1'⟩ := hrr
      have Hvv := Lib.hid hvv
      have N5 : (N : Int) ≤ 5 := by omega
      have hNN : ((N : Int) == (N : Int)) = true := by simp
      clear hd c3 c4 c5 low hfr hf hr5 hve hzne hze Hno Hall hvv hzz hnew r0 r1 r2 r3 x00 x01 x10 x11 x20 x21 x30 x31 x40 x41 x50 x51 hq0 hq1 hq2 hq3 hq4 hq5 t2 t3 hr hN
      go_wp2_with fail
      refine (impl_PolyConsistent p _ N e1 zs K true Hc.out (by omega) wc is0 lz.out (by omega) hcap).mono ?_
      rintro e w3 ⟨rfl, hb⟩
      have g0 := Grow.empty (Below.refl w3.heap.size w3)
      have is3 := (is0.below hb).below (below_alloc w3 (.cells #[] 3))
      replace low2 := low2.trans (hb.mono low2.size)
      have hw3 := low2.size
      replace d4 := (hb.cell (p := ⟨g, 4, none⟩) glt2).trans d4
      replace d5 := (hb.cell (p := ⟨g, 5, none⟩) glt2).trans d5
      replace glt2 := Nat.lt_of_lt_of_le glt2 hb.size
      have gs0 := g0.size
      clear hb is0
      go_wp2_with (first | (at_builtin; refine app_ints elemInt rfl _ _ rfl w3.heap.size _ 0 [] rfl g0.own (some ⟨g1, 0, none⟩) N e1 zs rfl is3 lz.out (by unfold maxLen; omega) (by omega) gs0 ?_))
      intro v5 w5 ho5 hg5 _
      have g5 := g0.app ho5 hg5 (ys := zs) rfl
      obtain ⟨A5, m5, c5, rfl, hm5⟩ := ownsRow_slice g5.own
      have hm5' : N = m5 := by omega
      subst hm5'
      obtain ⟨b5, rfl, hb5, _⟩ := g5.addr (by omega)
      obtain ⟨cc, ff⟩ := g5.at_ hfN
      rw [Hvv.out] at cc
      replace low2 := low2.trans (g5.low.mono low2.size)
      replace d4 := (g5.low.cell (p := ⟨g, 4, none⟩) glt2).trans d4
      replace d5 := (g5.low.cell (p := ⟨g, 5, none⟩) glt2).trans d5
      have hcap5 : N ≤ c5 := (OwnI.of_own g5.own).cap
      have gset := g5.set hb5 f zz
      have low3 : Below w.heap.size w (w5.setCell ⟨b5, f, none⟩ (.int .i64 zz)).drew := (low2.setCell (p := ⟨b5, f, none⟩) (by show w.heap.size ≤ b5; omega) _).drew
      have Gs := Lib.hid gset.drew
      have Low3 := Lib.hid low3
      have hf0 : (0 : Int) ≤ (f : Int) := by omega
      have hf1 : (f : Int) < (N : Int) := by omega
      clear ho5 hg5 g0 g5 is3 gset low3 low2 gs0 hm5
      go_wp2_with fail
      go_region
      have ix := Ints.of_own Gs.out.own
      have lx := Lib.hid (show (zs.set f zz).length = N by rw [List.length_set, lz.out])
      have low4 := Low3.out
      go_wp2_with fail
      refine (impl_PolyConsistent p _ N c5 (zs.set f zz) K false HN.out (by omega) _ ix lx.out (by omega) hcap5).mono ?_
      rintro e w6 ⟨rfl, hb⟩
      replace low4 := low4.trans (hb.mono low4.size)
      replace ix := ix.below hb
      clear hb
      go_wp2_with fail
      refine (impl_PolyConsistent p _ N c5 (zs.set f zz) ((N : Int) - 1) true HA.out (by omega) w6 ix lx.out (by omega) hcap5).mono ?_
      rintro e w7 ⟨rfl, hb⟩
      replace low4 := low4.trans (hb.mono low4.size)
      clear hb
      go_wp2_with fail
      go_ret
      exact ⟨rfl, low4⟩
end Go.Proofs.Ytcjgoonkdjaccaa

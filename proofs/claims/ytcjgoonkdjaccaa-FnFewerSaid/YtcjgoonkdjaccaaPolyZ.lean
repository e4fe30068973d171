/- Polynomial shares: the program deals the same shares in new memory; the contracts in the exact laws' words. -/
import Derived.Test.YtcjgoonkdjaccaaProg
import Derived.Test.YtcjgoonkdjaccaaPolyW
import Derived.Test.YtcjgoonkdjaccaaPolyQ
import Derived.Test.YtcjgoonkdjaccaaTapeX
namespace Go.Proofs.Ytcjgoonkdjaccaa
open Go Go.RowKit
theorem Listed.toPost {w w' : World} {s b : Int} {zs : List Int} {e : Ending} (h : Listed w s b zs e w') : Post_I_Tape zs s b w e w' := by
  obtain ⟨A, m, c, he, hl, ho, hb⟩ := h
  exact ⟨A, m, c, he, hl, OwnI.of_own ho, hb⟩
set_option maxRecDepth 100000 in
set_option maxHeartbeats 1000000 in
theorem impl_SharePoly_yes (p x : Int) (n k : Nat) (s a : Int) (hx : isEl p x) (hn : 1 ≤ n ∧ n ≤ 5) (hnp : (n : Int) < p) (hk : k < n) (hs : isTape s a) (ha : a ≤ 900000) (w : World) :
    Calls Try.prog 14 #[.int .i64 p, .int .i64 x, .int .i64 n, .int .i64 k, .agg #[.int .i64 s, .int .i64 a]] w (Listed w s (a + k) (shN p (polyS p x s a k) n)) := by
  have hlo := listOk_sp hx hn hk hs ha
  have Htl := Lib.hid (show tlI s a p k = tlN s a p k from (if_pos hlo).trans (by simp))
  have Hta := Lib.hid (show tlaI s a p k = a + k from if_pos hlo)
  have Hcd := Lib.hid (decide_eq_true (show isTape s a ∧ a ≤ 900000 from ⟨hs, ha⟩))
  have Hel := Lib.hid (decide_eq_true hx)
  have Hx := Lib.hid hx
  have hp := hx.range
  have d2 : decide (1 ≤ (n : Int) ∧ (n : Int) ≤ 5) = true := decide_eq_true (by omega)
  have D2 := Lib.hid d2
  have h0 : ¬ p ≤ (n : Int) := by omega
  have h1 : ¬ (n : Int) ≤ (k : Int) := by omega
  have bx := Boxed.start w 27 (.int .i64 s) (.int .i64 a) 27 (.int .i64 0) (.int .i64 0)
  obtain ⟨F, hF⟩ : ∃ F, polyS p x s a k = F := ⟨_, rfl⟩
  have HF := Lib.hid hF
  rw [hF]
  have Hall : Hid (allEl p F) := by rw [← hF]; exact polyS_el hx k
  have HFl : Hid (F.length = k + 1) := by rw [← hF]; exact polyS_length p x s a k
  clear hs hlo hx d2 hF
  obtain ⟨t0, t1, _, _⟩ := box2 bx.arg
  go_enter Try.func14, Try.ntmps14
  go_wp2_with fail
  refine (impl_IsElement p x _).mono ?_
  rintro e w1 ⟨rfl, rfl⟩
  rw [Hel.out]
  go_wp2_with fail
  refine (impl_partiesOk_is n true D2.out _).mono ?_
  rintro e w2 ⟨rfl, rfl⟩
  go_wp2_with fail
  refine (impl_canDeal s a true Hcd.out _).mono ?_
  rintro e w2 ⟨rfl, hb⟩
  replace bx := bx.next hb
  clear hb t0 t1
  obtain ⟨t0, t1, _, _⟩ := box2 bx.arg
  go_wp2_with fail
  have hlt := bx.lt
  refine (impl_TapeList s a p k _).mono ?_
  intro e w3 h3
  obtain ⟨A, m, c, rfl, hm, hown, hb⟩ := h3.of Hta.out Htl.out
  replace bx := bx.next hb
  have hsz3 := hb.size
  have b11 := heap_alloc_new w3 (.cells #[.int .i64 s, .int .i64 (a + k)] 27)
  replace bx := bx.alloc (.cells #[.int .i64 s, .int .i64 (a + k)] 27)
  have oz := ((OwnI.of_own hown).alloc (.cells #[.int .i64 s, .int .i64 (a + k)] 27))
  have hi4 := oz.ints
  have Hm := Lib.hid hm
  have mk : m = k := by rw [← hm, tlN_length]
  subst mk
  clear h3 hb t0 t1 hown hm oz
  have g1 := Grow.one (w := w3.alloc (.cells #[.int .i64 s, .int .i64 (a + m)] 27)) (Below.refl _ _) x
  rw [World.size_alloc] at g1
  replace hi4 := (hi4.bound.below (below_alloc (w3.alloc (.cells #[.int .i64 s, .int .i64 (a + m)] 27)) (.cells #[.int .i64 x] 3))).ints (below_alloc _ (.cells #[.int .i64 x] 3)).size
  have g1o := g1.own
  simp only [World.size_alloc] at g1o
  go_wp2_with (first | (at_builtin; refine app_ints elemInt rfl _ _ rfl (w3.heap.size + 1) _ 1 _ rfl g1o A m c (tlN s a p m) rfl hi4 Hm.out (by unfold maxLen; omega) (by omega) (by simp) ?_))
  intro v5 w5 ho5 hg5 _
  have g5 := g1.app (by rw [World.size_alloc]; exact ho5) hg5 (ys := F) (by rw [← HF.out]; rfl)
  replace bx := bx.next g5.low
  replace b11 := heap_below b11 g5.low
  obtain ⟨A5, m5, c5, rfl, hm5⟩ := ownsRow_slice g5.own
  subst hm5
  have hi5 := Lib.hid (Ints.of_own g5.own).bound
  have hl5 := Lib.hid g5.len
  have hlt5 : w.heap.size + 1 < w5.heap.size := bx.lt
  clear g1 g1o hi4 Hm hg5 ho5 g5 hsz3
  generalize w3.heap.size = p11 at *
  go_wp2_with (first | (refine make_list elemInt rfl _ _ rfl w5.heap.size _ _ n n rfl rfl rfl (by omega) (by unfold maxLen; omega) (Nat.le_refl _) ?_))
  intro w8 ho8 hg8
  have g0 := Lib.hid (Grow.made (Below.refl w5.heap.size w5) hg8 ho8)
  clear ho8 hg8
  go_wp2_with fail
  go_loopw [15, 60] (fun v i wr => ∃ j : Nat, j ≤ n ∧ i = .int .i64 j ∧ Grow w5 wr v j (shN p F j)) (fun _ i _ => n - (intOf i).toNat)
  case atStart => exact ⟨0, Nat.zero_le _, rfl, g0.out⟩
  case round =>
    obtain ⟨j, hj, rfl, gr⟩ := hrel
    clear g0
    by_cases hjt : j < n
    · have hij := (hi5.out.below gr.low).ints gr.size
      obtain ⟨z, hz⟩ : ∃ z, atI p F ((j : Int) + 1) = z := ⟨_, rfl⟩
      have Hv := Lib.hid (snoc_vals (shN_is p F j z hz))
      have Hz := Lib.hid hz
      have hel : isEl p ((j : Int) + 1) := ⟨Hx.out.1, by omega, by omega⟩
      have j0 : (0 : Int) ≤ j := by omega
      have j1 : (j : Int) < n := by omega
      have hm6 : 1 + m ≤ 2000000 := by omega
      have Hz2 := Lib.hid ((polyI_yes Hall.out.2 hel).trans hz)
      clear hz
      go_wp2_with fail
      refine (impl_PolyAt p A5 (1 + m) c5 F ((j : Int) + 1) z Hz2.out wr hij hl5.out hm6).mono ?_
      rintro e w6 ⟨rfl, hb⟩
      have g4 := (gr.next hb).alloc (.cells #[.int .i64 z] 3)
      clear hij gr hb
      go_wp2_with (first | (at_builtin; refine app_list (e' := 3) elemInt rfl _ _ rfl w5.heap.size _ j (intVals (shN p F j)) rfl g4.own w6.heap.size 1 1 _ (0, 0) rfl (heap_alloc_new w6 _) rfl (oneCell_i64 [_]) (by omega) (by unfold maxLen; omega) (by omega) g4.size (w6.heap.size + 1) (by simp) ?_))
      intro g6 c6 w7 ho6 hg6 _ _
      have Hg := Lib.hid (g4.app ho6 hg6 Hv.out)
      clear ho6 hg6 g4
      go_wp2_with fail
      go_roundw
      case rel => exact ⟨j + 1, by omega, by go_num, Hg.out⟩
      case measure => simp [intOf]; omega
    · obtain rfl : j = n := by omega
      replace bx := bx.next gr.low
      replace b11 := heap_below b11 gr.low
      obtain ⟨u0, u1, _, _⟩ := box2 b11
      obtain ⟨r0, r1, r2, r3⟩ := box2 bx.res
      obtain ⟨A7, m7, c7, rfl, rfl⟩ := ownsRow_slice gr.own
      have hz := (bx.set (.int .i64 s) (.int .i64 (a + m))).drew
      have ho7 := own_mono (ownsRow_setCell_below (ownsRow_setCell_below gr.own (a := ⟨w.heap.size + 1, 0, none⟩) hlt5 (.int .i64 s)) (a := ⟨w.heap.size + 1, 1, none⟩) hlt5 (.int .i64 (a + m))) (by omega : w.heap.size ≤ w5.heap.size)
      have Ho := Lib.hid ho7
      clear gr ho7 b11 hi5
      go_wp2_with fail
      go_region
      go_wp2_with fail
      (try simp only [Exit.inBlock, Exit.then])
      refine bodyPost_ret (results_tmp_cell_row (P := Try.prog) rfl _ _ _ (w.heap.size + 1) 27 _ (0, 0) _ rfl rfl hz.res Try.underlying27 rfl (by kernel_rfl)) rfl ?_
      exact ⟨_, _, _, rfl, shN_length _ _ _, Ho.out, hz.low⟩
set_option maxRecDepth 100000 in
set_option maxHeartbeats 1000000 in
theorem impl_SharePoly_no (p x n k s a : Int) (h : ¬ spOk p x n k s a) (w : World) :
    Calls Try.prog 14 #[.int .i64 p, .int .i64 x, .int .i64 n, .int .i64 k, .agg #[.int .i64 s, .int .i64 a]] w (Listed w s a []) := by
  have bx := Boxed.start w 27 (.int .i64 s) (.int .i64 a) 27 (.int .i64 0) (.int .i64 0)
  go_enter Try.func14, Try.ntmps14
  go_upto_region 1 with (fail)
  go_cut [44] (fun s44 wx => s44 = .bool true ∧ Boxed w wx 27 (.int .i64 s) (.int .i64 a) 27 (.int .i64 0) (.int .i64 0))
  case first =>
    obtain ⟨t0, t1, _, _⟩ := box2 bx.arg
    by_cases hx : isEl p x
    · have hel := decide_eq_true hx
      have hp := hx.range
      by_cases hn : 1 ≤ n ∧ n ≤ 5
      · have D2 := Lib.hid (decide_eq_true hn)
        by_cases hnp : p ≤ n
        · clear h hx
          go_wp2_with fail
          refine (impl_IsElement p x _).mono ?_
          rintro e w1 ⟨rfl, rfl⟩
          rw [hel]
          go_wp2_with fail
          refine (impl_partiesOk_is n true D2.out _).mono ?_
          rintro e w2 ⟨rfl, rfl⟩
          go_wp2_with fail
          go_meet
          exact ⟨rfl, bx⟩
        · by_cases hk : 0 ≤ k ∧ k < n
          · have Hcd := Lib.hid (decide_eq_false (fun e : isTape s a ∧ a ≤ 900000 => h ⟨hx, ⟨hn.1, by omega⟩, ⟨hk.1, by omega⟩, e⟩))
            have k0 : ¬ k < 0 := by omega
            have k1 : ¬ n ≤ k := by omega
            clear h hx hk
            go_wp2_with fail
            refine (impl_IsElement p x _).mono ?_
            rintro e w1 ⟨rfl, rfl⟩
            rw [hel]
            go_wp2_with fail
            refine (impl_partiesOk_is n true D2.out _).mono ?_
            rintro e w2 ⟨rfl, rfl⟩
            go_wp2_with fail
            refine (impl_canDeal s a false Hcd.out _).mono ?_
            rintro e w2 ⟨rfl, hb⟩
            replace bx := bx.next hb
            clear hb t0 t1
            go_wp2_with fail
            go_meet
            exact ⟨rfl, bx⟩
          · clear h hx
            by_cases k0 : k < 0
            · go_wp2_with fail
              refine (impl_IsElement p x _).mono ?_
              rintro e w1 ⟨rfl, rfl⟩
              rw [hel]
              go_wp2_with fail
              refine (impl_partiesOk_is n true D2.out _).mono ?_
              rintro e w2 ⟨rfl, rfl⟩
              go_wp2_with fail
              go_meet
              exact ⟨rfl, bx⟩
            · have k1 : n ≤ k := by omega
              go_wp2_with fail
              refine (impl_IsElement p x _).mono ?_
              rintro e w1 ⟨rfl, rfl⟩
              rw [hel]
              go_wp2_with fail
              refine (impl_partiesOk_is n true D2.out _).mono ?_
              rintro e w2 ⟨rfl, rfl⟩
              go_wp2_with fail
              go_meet
              exact ⟨rfl, bx⟩
      · have D2 := Lib.hid (decide_eq_false hn)
        clear h hx
        go_wp2_with fail
        refine (impl_IsElement p x _).mono ?_
        rintro e w1 ⟨rfl, rfl⟩
        rw [hel]
        go_wp2_with fail
        refine (impl_partiesOk_is n false D2.out _).mono ?_
        rintro e w2 ⟨rfl, rfl⟩
        go_wp2_with fail
        go_meet
        exact ⟨rfl, bx⟩
    · have hel := decide_eq_false hx
      clear h hx
      go_wp2_with fail
      refine (impl_IsElement p x _).mono ?_
      rintro e w1 ⟨rfl, rfl⟩
      rw [hel]
      go_wp2_with fail
      go_meet
      exact ⟨rfl, bx⟩
  case rest =>
    clear bx
    obtain ⟨rfl, bx⟩ := hcut
    have hz := (bx.set (.int .i64 s) (.int .i64 a)).drew
    obtain ⟨t0, t1, _, _⟩ := box2 bx.arg
    obtain ⟨r0, r1, r2, r3⟩ := box2 bx.res
    clear bx h
    go_wp2_with fail
    go_region
    go_wp2_with fail
    (try simp only [Exit.inBlock, Exit.then])
    refine bodyPost_ret (results_tmp_cell_row (P := Try.prog) rfl _ _ _ (w.heap.size + 1) 27 _ (0, 0) _ rfl rfl hz.res Try.underlying27 rfl (by kernel_rfl)) rfl ?_
    exact Listed.nil_ hz.low
theorem impl_SharePoly (p x n k s a : Int) (w : World) :
    Calls Try.prog 14 #[.int .i64 p, .int .i64 x, .int .i64 n, .int .i64 k, .agg #[.int .i64 s, .int .i64 a]] w (Listed w s (spaI p x n k s a) (spI p x n k s a)) := by
  by_cases h : spOk p x n k s a
  · have e1 : spI p x n k s a = shN p (polyS p x s a k.toNat) n.toNat := if_pos h
    have e2 : spaI p x n k s a = a + k := if_pos h
    rw [e1, e2]
    obtain ⟨n', k', rfl, rfl, hx, hn, hnp, hk, hs, ha⟩ := spOk_nat h
    exact impl_SharePoly_yes p x n' k' s a hx hn hnp hk hs ha w
  · have e1 : spI p x n k s a = [] := if_neg h
    have e2 : spaI p x n k s a = a := if_neg h
    rw [e1, e2]
    exact impl_SharePoly_no p x n k s a h w
theorem ex_impl_SharePoly (p x n k s a : Int) (w : World) : Calls Try.prog 14 #[.int .i64 p, .int .i64 x, .int .i64 n, .int .i64 k, .agg #[.int .i64 s, .int .i64 a]] w (Post_I_Tape (spI p x n k s a) s (spaI p x n k s a) w) :=
  (impl_SharePoly p x n k s a w).mono fun _ _ h => h.toPost
theorem ex_spec_SharePoly (p x n k s a : Int) (w : World) : Calls Try.prog 24 #[.int .i64 p, .int .i64 x, .int .i64 n, .int .i64 k, .agg #[.int .i64 s, .int .i64 a]] w (Post_I_Tape (spI p x n k s a) s (spaI p x n k s a) w) :=
  (spec_SharePoly p x n k s a w).mono fun _ _ h => h.toPost
theorem ex_impl_PolyAt (p : Int) (A : Option Addr) (k c : Nat) (xs : List Int) (x : Int) (w : World) (hxs : Ints w A xs) (lxs : xs.length = k) (mxs : k ≤ 2000000) : Calls Try.prog 18 #[.int .i64 p, .slice A k c, .int .i64 x] w (Post_int (polyI p xs x) w) :=
  impl_PolyAt p A k c xs x _ rfl w hxs lxs mxs
theorem ex_spec_PolyAt (p : Int) (A : Option Addr) (k c : Nat) (xs : List Int) (x : Int) (w : World) (hxs : Ints w A xs) (lxs : xs.length = k) (mxs : k ≤ 2000000) : Calls Try.prog 21 #[.int .i64 p, .slice A k c, .int .i64 x] w (Post_int (polyI p xs x) w) :=
  (spec_PolyAt p A k c xs x w hxs lxs mxs).mono fun _ _ h => ⟨h.1, by rw [h.2]; exact Below.refl _ _⟩
end Go.Proofs.Ytcjgoonkdjaccaa

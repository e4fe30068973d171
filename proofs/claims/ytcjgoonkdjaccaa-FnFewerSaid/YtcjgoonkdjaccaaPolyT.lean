/- Polynomial shares: the model's test of consistency. -/
import Derived.Test.YtcjgoonkdjaccaaProg
import Derived.Test.YtcjgoonkdjaccaaPolyS
import Derived.Test.YtcjgoonkdjaccaaGrow
namespace Go.Proofs.Ytcjgoonkdjaccaa
open Go Go.RowKit
theorem consC_yes {p k : Int} {sh : List Int} (h : consOk p sh k) (hc : ∀ i, i < sh.length → consM k sh.length ≤ i → thruI p (ptsN 0 (consM k sh.length)) (sh.take (consM k sh.length)) ((i : Int) + 1) = sh.getD i 0) : decide (consC p sh k) = true := decide_eq_true ⟨h, hc⟩
theorem Ints.take {w : World} {A : Option Addr} {zs : List Int} (h : Ints w A zs) (m : Nat) : Ints w A (zs.take m) := fun h0 => by
  rw [List.length_take] at h0
  obtain ⟨b, o, e, hl, hc⟩ := h (by omega)
  refine ⟨b, o, e, hl, fun j hj => ?_⟩
  rw [List.length_take] at hj
  rw [take_at (by omega)]
  exact hc j (by omega)
set_option maxRecDepth 100000 in
set_option maxHeartbeats 1000000 in
theorem spec_PolyConsistent_yes (p : Int) (A : Option Addr) (n c : Nat) (sh : List Int) (q : Int) (hq : q ≤ 9223372036854775807) (w : World) (hx : Ints w A sh) (lx : sh.length = n) (hcn : n ≤ c) (hok : consOk p sh q) :
    Calls Try.prog 30 #[.int .i64 p, .slice A n c, .int .i64 q] w fun e w' => e = .returned (.bool (decide (consC p sh q))) ∧ Below w.heap.size w w' := by
  obtain ⟨h5, hp, ha, hq0⟩ := hok
  have Hok : Hid (consOk p sh q) := ⟨h5, hp, ha, hq0⟩
  rw [lx] at h5 hp
  have Hl := Lib.hid lx
  have Hd5 := Lib.hid (decide_eq_true (show 1 ≤ (n : Int) ∧ (n : Int) ≤ 5 by omega))
  have Hda := Lib.hid (decide_eq_true ha)
  obtain ⟨m, hm⟩ : ∃ m, consM q n = m := ⟨_, rfl⟩
  have hmr := consM_le q n hq0 h5.1
  rw [hm] at hmr
  have Hm := Lib.hid hm
  have hge : ¬ p ≤ (n : Int) := by omega
  clear lx ha
  have g0 := Grow.empty (Below.refl w.heap.size w)
  go_enter Try.func30, Try.ntmps30
  go_wp2_with fail
  refine (l01In_is (n : Int) 1 5 true Hd5.out _).mono ?_
  rintro e w1 ⟨rfl, rfl⟩
  go_wp2_with fail
  refine (l03All_at p A n c sh true Hda.out _ hx Hl.out (by omega)).mono ?_
  rintro e w1 ⟨rfl, rfl⟩
  have hv : (n : Int) ≤ q ∧ m = n ∨ q < n ∧ (m : Int) = q + 1 := by
    rw [← hm]; unfold consM
    by_cases h : (n : Int) ≤ q
    · rw [if_pos h]; exact .inl ⟨h, rfl⟩
    · rw [if_neg h]; exact .inr ⟨by omega, by omega⟩
  clear hm
  go_upto_region 4 with (fail)
  go_cut [8] (fun s8 wx => ∃ v : Int, s8 = .int .i64 v ∧ (q < n → v = m) ∧ w = wx)
  case first =>
    go_wp2_with fail
    all_goals
      go_meet
      exact ⟨_, rfl, fun h => by simp only [wrap64] at *; omega, rfl⟩
  case rest =>
    obtain ⟨v, rfl, hv8, rfl⟩ := hcut
    go_upto_if 38 with (fail)
    go_cut [8] (fun s8 wx => s8 = .int .i64 m ∧ w = wx)
    case first =>
      rcases hv with ⟨h, rfl⟩ | ⟨h, h1⟩
      · go_wp2_with fail
        go_meet
        exact ⟨rfl, rfl⟩
      · obtain rfl := hv8 h
        have h0 : ¬ (n : Int) ≤ q := by omega
        go_wp2_with fail
        go_meet
        exact ⟨by rw [h1], rfl⟩
    case rest =>
      obtain ⟨rfl, rfl⟩ := hcut
      clear hv hv8
      go_wp2_with fail
      have Hg0 := Lib.hid g0
      clear g0
      go_loopw [9, 10] (fun v i wr => ∃ k : Nat, k ≤ m ∧ i = .int .i64 k ∧ Grow w wr v k (ptsN 0 k)) (fun _ i _ => m - (intOf i).toNat)
      case atStart => exact ⟨0, Nat.zero_le _, rfl, Hg0.out⟩
      case round =>
        obtain ⟨k, hk, rfl, gr⟩ := hrel
        clear Hg0
        by_cases hlt : k < m
        · have hk0 : (0 : Int) ≤ k := by omega
          have hk1 : (k : Int) < m := by omega
          have hz : ((0 + k + 1 : Nat) : Int) = (k : Int) + 1 := by omega
          have Hv := Lib.hid (snoc_vals (z := (k : Int) + 1) (by rw [ptsN_is, hz]) : intVals (ptsN 0 k) ++ _ = intVals (ptsN 0 (k + 1)))
          have g4 := gr.alloc (.cells #[.int .i64 ((k : Int) + 1)] 3)
          have hsz := gr.size
          clear hz gr hx
          go_wp2_with (first | (at_builtin; refine app_list (e' := 3) elemInt rfl _ _ rfl w.heap.size _ k (intVals (ptsN 0 k)) rfl g4.own wr.heap.size 1 1 _ (0, 0) rfl (heap_alloc_new wr _) rfl (oneCell_i64 [_]) (by omega) (by unfold maxLen; omega) (by omega) g4.size (wr.heap.size + 1) (by simp) ?_))
          intro g5 c5 w5 ho5 hg5 _ _
          have Hg := Lib.hid (g4.app ho5 hg5 Hv.out)
          clear ho5 hg5 g4
          go_wp2_with fail
          go_roundw
          case rel => exact ⟨k + 1, by omega, by go_num, Hg.out⟩
          case measure => simp [intOf]; omega
        · obtain rfl : k = m := by omega
          obtain ⟨G, k', cG, rfl, rfl⟩ := ownsRow_slice gr.own
          have ip := Ints.of_own gr.own
          have Hlp := Lib.hid (ptsN_length 0 k)
          have ix := (hx.bound.below gr.low).ints gr.size
          have it := Ints.take ix k
          have Hlt := Lib.hid (show (sh.take k).length = k by rw [List.length_take, Hl.out]; omega)
          have low := gr.low
          obtain ⟨b, o, rfl, _, _⟩ := hx.at_ (j := 0) (by rw [Hl.out]; omega)
          clear hx gr
          have hkc : (k : Int) ≤ c := by omega
          go_wp2_with fail
          have Hip := Lib.hid ip.bound
          have Hix := Lib.hid ix.bound
          have Hit := Lib.hid it.bound
          have Hlow := Lib.hid low
          clear ip ix it low
          obtain ⟨wo, rfl⟩ : ∃ wo : World, wo = wr := ⟨_, rfl⟩
          go_loopw [11] (fun i wr => ∃ j : Nat, k ≤ j ∧ j ≤ n ∧ i = .int .i64 j ∧ Hid (∀ i, i < j → k ≤ i → thruI p (ptsN 0 k) (sh.take k) ((i : Int) + 1) = sh.getD i 0) ∧ Below wo.heap.size wo wr) (fun i _ => n - (intOf i).toNat)
          case atStart => exact ⟨k, Nat.le_refl _, by omega, rfl, fun i h1 h2 => by omega, Below.refl _ _⟩
          case round =>
            obtain ⟨j, hkj, hj, rfl, hall, hlow⟩ := hrel
            by_cases hlt : j < n
            · obtain ⟨_, _, e1, _, c0⟩ := (Hix.out.below hlow).at_ (j := j) (by rw [Hl.out]; exact hlt)
              injection e1 with e1
              injection e1 with e2 e3
              subst e2 e3
              obtain ⟨t, ht⟩ : ∃ t, thruI p (ptsN 0 k) (sh.take k) ((j : Int) + 1) = t := ⟨_, rfl⟩
              have Ht := Lib.hid ht
              have Hno : Hid (t ≠ sh.getD j 0 → decide (consC p sh q) = false) := fun e => decide_eq_false (fun hc => by
                have := hc.2 j (by rw [Hl.out]; exact hlt) (by rw [Hl.out, Hm.out]; exact hkj)
                rw [Hl.out, Hm.out, Ht.out] at this
                exact e this)
              have Hnx : Hid (t = sh.getD j 0 → ∀ i, i < j + 1 → k ≤ i → thruI p (ptsN 0 k) (sh.take k) ((i : Int) + 1) = sh.getD i 0) := fun e i h1 h2 => by
                rcases Nat.lt_or_ge i j with h | h
                · exact hall.out i h h2
                · obtain rfl : i = j := by omega
                  rw [Ht.out, e]
              clear ht hall
              generalize sh.getD j 0 = y at c0 Hno Hnx
              have j0 : (0 : Int) ≤ j := by omega
              have j1 : (j : Int) < n := by omega
              have Hlow2 := Lib.hid hlow
              have Hsz := Lib.hid hlow.size
              have hip := (Hip.out.below Hlow2.out).ints Hsz.out
              have hit := (Hit.out.below Hlow2.out).ints Hsz.out
              by_cases hty : t = y
              · subst hty
                go_wp2_with fail
                go_quiet (first | (go_at_call 60; refine spec_l07Through_q p _ _ k _ _ (ptsN 0 k) (sh.take k) _ t Ht.out _ _ hip hit Hlp.out Hlt.out (by omega)))
                go_wp2_with fail
                go_roundw
                case rel => exact ⟨j + 1, by omega, by omega, by go_num, Hnx.out (by simp), hlow.trans (below_drewN (Below.refl _ _) _)⟩
                case measure => simp [intOf]; omega
              · have hbeq : (t == y) = false := beq_eq_false_iff_ne.2 hty
                go_wp2_with fail
                go_quiet (first | (go_at_call 60; refine spec_l07Through_q p _ _ k _ _ (ptsN 0 k) (sh.take k) _ t Ht.out _ _ hip hit Hlp.out Hlt.out (by omega)))
                go_wp2_with fail
                go_ret
                exact ⟨ret_bool (Hno.out hty).symm, Hlow.out.trans ((below_drewN hlow _).mono Hlow.out.size)⟩
            · obtain rfl : j = n := by omega
              have Hy := Lib.hid (consC_yes Hok.out (fun i h1 h2 => by rw [Hl.out] at h1 h2 ⊢; rw [Hm.out] at h2 ⊢; exact hall.out i h1 h2))
              go_wp2_with fail
              go_ret
              exact ⟨ret_bool Hy.out.symm, Hlow.out.trans (hlow.mono Hlow.out.size)⟩
theorem consC_no {p k : Int} {sh : List Int} (h : ¬ consOk p sh k) : decide (consC p sh k) = false := decide_eq_false (fun e => h e.1)
theorem spec_PolyConsistent (p : Int) (A : Option Addr) (n c : Nat) (sh : List Int) (q : Int) (r : Bool) (hr : decide (consC p sh q) = r) (hq : q ≤ 9223372036854775807) (w : World) (hx : Ints w A sh) (lx : sh.length = n) (mx : n ≤ 2000000) (hcn : n ≤ c) :
    Calls Try.prog 30 #[.int .i64 p, .slice A n c, .int .i64 q] w fun e w' => e = .returned (.bool r) ∧ Below w.heap.size w w' := by
  subst hr
  by_cases h5 : 1 ≤ (n : Int) ∧ (n : Int) ≤ 5
  · have Hd5 := Lib.hid (decide_eq_true h5)
    by_cases hnp : (n : Int) < p
    · by_cases ha : allEl p sh
      · by_cases hq0 : 0 ≤ q
        · exact spec_PolyConsistent_yes p A n c sh q hq w hx lx hcn ⟨by omega, by rw [lx]; exact hnp, ha, hq0⟩
        · rw [consC_no (fun e => hq0 e.2.2.2)]
          have Hda := Lib.hid (decide_eq_true ha)
          have h0 : ¬ p ≤ (n : Int) := by omega
          have h1 : q < 0 := by omega
          clear ha
          go_enter Try.func30, Try.ntmps30
          go_wp2_with fail
          refine (l01In_is (n : Int) 1 5 true Hd5.out _).mono ?_
          rintro e w1 ⟨rfl, rfl⟩
          go_wp2_with fail
          refine (l03All_at p A n c sh true Hda.out _ hx lx (by omega)).mono ?_
          rintro e w1 ⟨rfl, rfl⟩
          go_wp2_with fail
          go_ret
          exact ⟨rfl, Below.refl _ _⟩
      · rw [consC_no (fun e => ha e.2.2.1)]
        have Hda := Lib.hid (decide_eq_false ha)
        have h0 : ¬ p ≤ (n : Int) := by omega
        clear ha
        go_enter Try.func30, Try.ntmps30
        go_wp2_with fail
        refine (l01In_is (n : Int) 1 5 true Hd5.out _).mono ?_
        rintro e w1 ⟨rfl, rfl⟩
        go_wp2_with fail
        refine (l03All_at p A n c sh false Hda.out _ hx lx (by omega)).mono ?_
        rintro e w1 ⟨rfl, rfl⟩
        go_wp2_with fail
        go_ret
        exact ⟨rfl, Below.refl _ _⟩
    · rw [consC_no (fun e => hnp (by have := e.2.1; rw [lx] at this; exact this))]
      have h0 : p ≤ (n : Int) := by omega
      go_enter Try.func30, Try.ntmps30
      go_wp2_with fail
      refine (l01In_is (n : Int) 1 5 true Hd5.out _).mono ?_
      rintro e w1 ⟨rfl, rfl⟩
      go_wp2_with fail
      go_ret
      exact ⟨rfl, Below.refl _ _⟩
  · rw [consC_no (fun e => h5 (by have := e.1; rw [lx] at this; omega))]
    have Hd5 := Lib.hid (decide_eq_false h5)
    go_enter Try.func30, Try.ntmps30
    go_wp2_with fail
    refine (l01In_is (n : Int) 1 5 false Hd5.out _).mono ?_
    rintro e w1 ⟨rfl, rfl⟩
    go_wp2_with fail
    go_ret
    exact ⟨rfl, Below.refl _ _⟩
end Go.Proofs.Ytcjgoonkdjaccaa

/- Sums of shares: the program and the model return the same lists in new memory. -/
import Derived.Test.YtcjgoonkdjaccaaProg
import Derived.Test.YtcjgoonkdjaccaaShareS
import Derived.Test.YtcjgoonkdjaccaaGrow
namespace Go.Proofs.Ytcjgoonkdjaccaa
open Go Go.RowKit
theorem spec_FAdd_is (p a b z : Int) (h : faddI p a b = z) (w : World) :
    Calls Try.prog 53 #[.int .i64 p, .int .i64 a, .int .i64 b] w fun e w' => e = .returned (.int .i64 z) ∧ w = w' := by
  subst h; exact spec_FAdd p a b w
theorem spec_FMul_is (p a b z : Int) (h : fmulI p a b = z) (w : World) :
    Calls Try.prog 85 #[.int .i64 p, .int .i64 a, .int .i64 b] w fun e w' => e = .returned (.int .i64 z) ∧ w = w' := by
  subst h; exact spec_FMul p a b w
set_option maxRecDepth 100000 in
set_option maxHeartbeats 400000 in
theorem spec_AddShares (p : Int) (A B : Option Addr) (n c m d : Nat) (xs ys : List Int) (w : World) (hx : Ints w A xs) (hy : Ints w B ys) (lx : xs.length = n) (ly : ys.length = m) (mx : n ≤ 2000000) (my : m ≤ 2000000) :
    Calls Try.prog 20 #[.int .i64 p, .slice A n c, .slice B m d] w (MadeI (addL p xs ys) w) := by
  have g0 := Grow.empty (Below.refl w.heap.size w)
  have k0 : Below w.heap.size w (w.alloc (.cells #[] 3)) := g0.low
  have Hg0 := Lib.hid g0
  clear g0
  by_cases hnm : m = n
  · subst hnm
    have LX := Lib.hid lx
    have LY := Lib.hid ly
    by_cases ha : allEl p xs
    · by_cases hb : allEl p ys
      · have hok : addL p xs ys = addN p xs ys m := by unfold addL; rw [if_pos ⟨by rw [lx, ly], ha, hb⟩, lx]
        rw [hok]
        have Hda := Lib.hid (decide_eq_true ha)
        have Hdb := Lib.hid (decide_eq_true hb)
        clear hok lx ly ha hb
        go_enter Try.func20, Try.ntmps20
        go_wp2_with fail
        refine (l03All_at p A m c xs true Hda.out _ (hx.below k0) LX.out (by omega)).mono ?_
        rintro e w1 ⟨rfl, rfl⟩
        go_wp2_with fail
        refine (l03All_at p B m d ys true Hdb.out _ (hy.below k0) LY.out (by omega)).mono ?_
        rintro e w2 ⟨rfl, rfl⟩
        go_wp2_with fail
        go_loopw [7, 8] (fun v i wr => ∃ k : Nat, k ≤ m ∧ i = .int .i64 k ∧ Grow w wr v k (addN p xs ys k)) (fun _ i _ => m - (intOf i).toNat)
        case atStart => exact ⟨0, Nat.zero_le _, rfl, Hg0.out⟩
        case round =>
          obtain ⟨k, hk, rfl, gr⟩ := hrel
          clear Hg0 k0
          by_cases hlt : k < m
          · obtain ⟨p0, q0, rfl, _, c0⟩ := (hx.bound.below gr.low).at_ (j := k) (by rw [LX.out]; exact hlt)
            obtain ⟨p1, q1, rfl, _, c1⟩ := (hy.bound.below gr.low).at_ (j := k) (by rw [LY.out]; exact hlt)
            obtain ⟨z, hz⟩ : ∃ z, faddI p (xs.getD k 0) (ys.getD k 0) = z := ⟨_, rfl⟩
            have Hv := Lib.hid (snoc_vals (addN_is p xs ys k z hz))
            have Hz := Lib.hid hz
            clear hz
            generalize xs.getD k 0 = vx at c0 Hz
            generalize ys.getD k 0 = vy at c1 Hz
            have hk0 : (0 : Int) ≤ k := by omega
            have hk1 : (k : Int) < m := by omega
            have g4 := (gr.alloc (.cells #[.int .i64 z] 3)).drew
            clear hx hy gr
            go_wp2_with fail
            go_region_law (first | (refine app_step (e' := 3) elemInt (by rfl) _ _ (by rfl) w.heap.size _ k (intVals (addN p xs ys k)) (by rfl) g4.own wr.heap.size 1 1 _ (0, 0) (by rfl) (heap_alloc_new wr _) (by rfl) (oneCell_i64 [_]) (by omega) (by unfold maxLen; omega) (by omega) g4.size (wr.heap.size + 1) (by simp) ?_; intro g5 c5 w5 ho5 hg5 _ _) | (go_simp; go_at_call 53; (with_reducible refine (spec_FAdd_is p vx vy z Hz.out _).mono ?_); rintro e w' ⟨rfl, rfl⟩))
            all_goals
              have Hg := Lib.hid (g4.app ho5 hg5 Hv.out)
              clear ho5 hg5 g4
              go_wp2_with fail
              go_roundw
              case rel => exact ⟨k + 1, by omega, by go_num, Hg.out⟩
              case measure => simp [intOf]; omega
          · obtain rfl : k = m := by omega
            go_wp2_with fail
            go_ret
            exact gr.done
      · have hok : addL p xs ys = [] := by unfold addL; rw [if_neg (fun e => hb e.2.2)]
        rw [hok]
        have Hda := Lib.hid (decide_eq_true ha)
        have Hdb := Lib.hid (decide_eq_false hb)
        clear hok lx ly ha hb
        go_enter Try.func20, Try.ntmps20
        go_wp2_with fail
        refine (l03All_at p A m c xs true Hda.out _ (hx.below k0) LX.out (by omega)).mono ?_
        rintro e w1 ⟨rfl, rfl⟩
        go_wp2_with fail
        refine (l03All_at p B m d ys false Hdb.out _ (hy.below k0) LY.out (by omega)).mono ?_
        rintro e w2 ⟨rfl, rfl⟩
        go_wp2_with fail
        go_ret
        exact Hg0.out.done
    · have hok : addL p xs ys = [] := by unfold addL; rw [if_neg (fun e => ha e.2.1)]
      rw [hok]
      have Hda := Lib.hid (decide_eq_false ha)
      clear hok lx ly ha
      go_enter Try.func20, Try.ntmps20
      go_wp2_with fail
      refine (l03All_at p A m c xs false Hda.out _ (hx.below k0) LX.out (by omega)).mono ?_
      rintro e w1 ⟨rfl, rfl⟩
      go_wp2_with fail
      go_ret
      exact Hg0.out.done
  · have hok : addL p xs ys = [] := by unfold addL; rw [if_neg (fun e => hnm (by rw [← lx, ← ly, e.1]))]
    rw [hok]
    have hne : ((n : Int) == (m : Int)) = false := beq_eq_false_iff_ne.2 (by omega)
    clear hok lx ly
    go_enter Try.func20, Try.ntmps20
    go_wp2_with fail
    go_ret
    exact Hg0.out.done
end Go.Proofs.Ytcjgoonkdjaccaa

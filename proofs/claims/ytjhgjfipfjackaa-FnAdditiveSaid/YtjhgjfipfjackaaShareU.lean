/- Multiples of shares, and a constant added: the program and the model return the same lists in new memory. -/
import Derived.Test.YtjhgjfipfjackaaProg
import Derived.Test.YtjhgjfipfjackaaShareV
import Derived.WalkSpells
import Derived.Test.YtjhgjfipfjackaaPost
namespace Go.Proofs.Ytjhgjfipfjackaa
open Go Go.RowKit
theorem ints_one (w : World) (k : Int) (T : TypeId) : Ints (w.alloc (.cells #[.int .i64 k] T)) (some ⟨w.heap.size, 0, none⟩) [k] := fun _ =>
  ⟨_, _, rfl, by simp, fun j hj => by
    have : j = 0 := by simpa using hj
    subst this
    exact (blk (i := 0) (heap_alloc_new w (.cells #[.int .i64 k] T)) rfl).1⟩
set_option maxHeartbeats 400000 in
theorem impl_ScaleShares (p q : Int) (A : Option Addr) (n c : Nat) (xs : List Int) (w : World) (hx : Ints w A xs) (lx : xs.length = n) (mx : n ≤ 2000000) :
    Calls Try.prog 18 #[.int .i64 p, .slice A n c, .int .i64 q] w (MadeI (sclL p q xs) w) := by
  have LX := Lib.hid lx
  have k0 := below_alloc w (.cells #[.int .i64 q] 3)
  have i0 := ints_one w q 3
  by_cases hq : isEl p q
  · have Hdq := Lib.hid (decide_eq_true (fsum_one.2 hq))
    by_cases ha : allEl p xs
    · have hok : sclL p q xs = sclN p q xs n := by unfold sclL; rw [if_pos ⟨hq, ha⟩, lx]
      rw [hok]
      have Hda := Lib.hid (decide_eq_true ha)
      clear hok lx ha hq
      go_enter Try.func18, Try.ntmps18
      go_wp2_with fail
      refine (impl_allElements p _ 1 1 [q] true Hdq.out _ i0 rfl (by omega)).mono ?_
      rintro e w1 ⟨rfl, hb⟩
      have k1 := k0.trans (hb.mono k0.size)
      clear hb k0 i0
      go_wp2_with fail
      refine (impl_allElements p A n c xs true Hda.out w1 (hx.below k1) LX.out (by omega)).mono ?_
      rintro e w2 ⟨rfl, hb⟩
      have k2 := k1.trans (hb.mono k1.size)
      clear hb k1
      go_wp2_with (first | (refine make_list elemInt rfl _ _ rfl w.heap.size _ _ n n rfl rfl rfl (by omega) (by unfold maxLen; omega) k2.size ?_))
      intro w3 hown3 hg3
      have Hg := Lib.hid (Grow.made k2 hg3 hown3)
      clear hown3 hg3 k2
      go_wp2_with fail
      go_loopw [7, 26] (fun v i wr => ∃ k : Nat, k ≤ n ∧ i = .int .i64 k ∧ Grow w wr v k (sclN p q xs k)) (fun _ i _ => n - (intOf i).toNat)
      case atStart => exact ⟨0, Nat.zero_le _, rfl, Hg.out⟩
      case round =>
        obtain ⟨k, hk, rfl, gr⟩ := hrel
        clear Hg
        by_cases hlt : k < n
        · obtain ⟨p0, q0, rfl, _, c0⟩ := (hx.bound.below gr.low).at_ (j := k) (by rw [LX.out]; exact hlt)
          obtain ⟨z, hz⟩ : ∃ z, fmulI p (xs.getD k 0) q = z := ⟨_, rfl⟩
          have Hv := Lib.hid (snoc_vals (sclN_is p q xs k z hz))
          have Hz := Lib.hid hz
          clear hz
          generalize xs.getD k 0 = vx at c0 Hz
          have hk0 : (0 : Int) ≤ k := by omega
          have hk1 : (k : Int) < n := by omega
          clear hx
          go_wp2_with fail
          refine (impl_FMul p vx q wr).mono ?_
          rintro e w4 ⟨rfl, hb⟩
          rw [Hz.out]
          have g4 := (gr.next hb).alloc (.cells #[.int .i64 z] 3)
          clear hb c0 gr
          go_wp2_with (first | (at_builtin; refine app_list (e' := 3) elemInt rfl _ _ rfl w.heap.size _ k (intVals (sclN p q xs k)) rfl g4.own w4.heap.size 1 1 _ (0, 0) rfl (heap_alloc_new w4 _) rfl (oneCell_i64 [_]) (by omega) (by unfold maxLen; omega) (by omega) g4.size (w4.heap.size + 1) (by simp) ?_))
          intro g5 c5 w5 ho5 hg5 _ _
          have Hg := Lib.hid (g4.app ho5 hg5 Hv.out)
          clear ho5 hg5 g4
          go_wp2_with fail
          go_roundw
          case rel => exact ⟨k + 1, by omega, by go_num, Hg.out⟩
          case measure => simp [intOf]; omega
        · obtain rfl : k = n := by omega
          go_wp2_with fail
          go_ret
          exact gr.done
    · have hok : sclL p q xs = [] := by unfold sclL; rw [if_neg (fun e => ha e.2)]
      rw [hok]
      have Hda := Lib.hid (decide_eq_false ha)
      clear hok lx ha hq
      go_enter Try.func18, Try.ntmps18
      go_wp2_with fail
      refine (impl_allElements p _ 1 1 [q] true Hdq.out _ i0 rfl (by omega)).mono ?_
      rintro e w1 ⟨rfl, hb⟩
      have k1 := k0.trans (hb.mono k0.size)
      clear hb k0 i0
      go_wp2_with fail
      refine (impl_allElements p A n c xs false Hda.out w1 (hx.below k1) LX.out (by omega)).mono ?_
      rintro e w2 ⟨rfl, hb⟩
      go_wp2_with fail
      go_ret
      exact MadeI.nil_ (k1.trans (hb.mono k1.size))
  · have Hdq := Lib.hid (decide_eq_false (fun e => hq (fsum_one.1 e)))
    have hok : sclL p q xs = [] := by unfold sclL; rw [if_neg (fun e => hq e.1)]
    rw [hok]
    clear hok lx hq
    go_enter Try.func18, Try.ntmps18
    go_wp2_with fail
    refine (impl_allElements p _ 1 1 [q] false Hdq.out _ i0 rfl (by omega)).mono ?_
    rintro e w1 ⟨rfl, hb⟩
    have k1 := k0.trans (hb.mono k0.size)
    go_wp2_with fail
    go_ret
    exact MadeI.nil_ k1
set_option maxHeartbeats 400000 in
theorem spec_ScaleShares (p q : Int) (A : Option Addr) (n c : Nat) (xs : List Int) (w : World) (hx : Ints w A xs) (lx : xs.length = n) (mx : n ≤ 2000000) :
    Calls Try.prog 30 #[.int .i64 p, .slice A n c, .int .i64 q] w (MadeI (sclL p q xs) w) := by
  have g0 := Grow.empty (Below.refl w.heap.size w)
  have Hg0 := Lib.hid g0
  have LX := Lib.hid lx
  clear g0
  by_cases hok : sclOk p q xs
  · have hs : sclL p q xs = sclN p q xs n := by unfold sclL; rw [if_pos hok, lx]
    rw [hs]
    have Hda := Lib.hid (decide_eq_true hok.2)
    have Hdq := Lib.hid (decide_eq_true hok.1)
    clear hok lx hs
    go_enter Try.func30, Try.ntmps30
    go_wp2_with fail
    go_loopw [7, 8] (fun v i wr => ∃ k : Nat, k ≤ n ∧ i = .int .i64 k ∧ Grow w wr v k (sclN p q xs k)) (fun _ i _ => n - (intOf i).toNat)
    case atStart => exact ⟨0, Nat.zero_le _, rfl, Hg0.out⟩
    case round =>
      obtain ⟨k, hk, rfl, gr⟩ := hrel
      clear Hg0
      by_cases hlt : k < n
      · obtain ⟨p0, q0, rfl, _, c0⟩ := (hx.bound.below gr.low).at_ (j := k) (by rw [LX.out]; exact hlt)
        obtain ⟨z, hz⟩ : ∃ z, fmulI p (xs.getD k 0) q = z := ⟨_, rfl⟩
        have Hv := Lib.hid (snoc_vals (sclN_is p q xs k z hz))
        have Hz := Lib.hid hz
        clear hz
        generalize xs.getD k 0 = vx at c0 Hz
        have hk0 : (0 : Int) ≤ k := by omega
        have hk1 : (k : Int) < n := by omega
        have hi := hx.bound.below gr.low
        have hi2 := hi.ints gr.size
        clear hx hi
        go_wp2_with fail
        refine (l03All_at p _ n c xs true Hda.out _ hi2 LX.out (by omega)).mono ?_
        rintro e w1 ⟨rfl, rfl⟩
        go_wp2_with fail
        refine (spec_IsElement_at p q true Hdq.out _).mono ?_
        rintro e w1 ⟨rfl, rfl⟩
        go_wp2_with fail
        refine (spec_FMul_is p vx q z Hz.out _).mono ?_
        rintro e w1 ⟨rfl, rfl⟩
        have g4 := gr.alloc (.cells #[.int .i64 z] 3)
        clear c0 gr hi2
        go_wp2_with (first | (at_builtin; refine app_list (e' := 3) elemInt rfl _ _ rfl w.heap.size _ k (intVals (sclN p q xs k)) rfl g4.own wr.heap.size 1 1 _ (0, 0) rfl (heap_alloc_new wr _) rfl (oneCell_i64 [_]) (by omega) (by unfold maxLen; omega) (by omega) g4.size (wr.heap.size + 1) (by simp) ?_))
        intro g5 c5 w5 ho5 hg5 _ _
        have Hg := Lib.hid (g4.app ho5 hg5 Hv.out)
        clear ho5 hg5 g4
        go_wp2_with fail
        go_roundw
        case rel => exact ⟨k + 1, by omega, by go_num, Hg.out⟩
        case measure => simp [intOf]; omega
      · obtain rfl : k = n := by omega
        go_wp2_with fail
        go_ret
        exact gr.done
  · have hs : sclL p q xs = [] := by unfold sclL; rw [if_neg hok]
    rw [hs]
    have i0 := hx.bound.below Hg0.out.low
    have i1 := i0.ints Hg0.out.size
    clear hs i0
    by_cases hn : 0 < n
    · have hn1 : (0 : Int) < n := by omega
      by_cases ha : allEl p xs
      · have Hda := Lib.hid (decide_eq_true ha)
        have Hdq := Lib.hid (decide_eq_false (fun e => hok ⟨e, ha⟩))
        clear hok lx ha
        go_enter Try.func30, Try.ntmps30
        go_wp2_with fail
        go_loopw [7, 8] (fun v i wr => i = .int .i64 0 ∧ v = .slice (some ⟨w.heap.size, 0, none⟩) 0 0 ∧ wr = w.alloc (.cells #[] 3)) (fun _ _ _ => 0)
        case atStart => exact ⟨rfl, rfl, rfl⟩
        case round =>
          obtain ⟨rfl, rfl, rfl⟩ := hrel
          go_wp2_with fail
          refine (l03All_at p A n c xs true Hda.out _ i1 LX.out (by omega)).mono ?_
          rintro e w1 ⟨rfl, rfl⟩
          go_wp2_with fail
          refine (spec_IsElement_at p q false Hdq.out _).mono ?_
          rintro e w1 ⟨rfl, rfl⟩
          go_wp2_with fail
          go_ret
          exact Hg0.out.done
      · have Hda := Lib.hid (decide_eq_false ha)
        clear hok lx ha
        go_enter Try.func30, Try.ntmps30
        go_wp2_with fail
        go_loopw [7, 8] (fun v i wr => i = .int .i64 0 ∧ v = .slice (some ⟨w.heap.size, 0, none⟩) 0 0 ∧ wr = w.alloc (.cells #[] 3)) (fun _ _ _ => 0)
        case atStart => exact ⟨rfl, rfl, rfl⟩
        case round =>
          obtain ⟨rfl, rfl, rfl⟩ := hrel
          go_wp2_with fail
          refine (l03All_at p A n c xs false Hda.out _ i1 LX.out (by omega)).mono ?_
          rintro e w1 ⟨rfl, rfl⟩
          go_wp2_with fail
          go_ret
          exact Hg0.out.done
    · have hn0 : decide ((0 : Int) < n) = false := decide_eq_false (by omega)
      clear hok lx
      go_enter Try.func30, Try.ntmps30
      go_wp2_with fail
      go_loopw [7, 8] (fun v i wr => i = .int .i64 0 ∧ v = .slice (some ⟨w.heap.size, 0, none⟩) 0 0 ∧ wr = w.alloc (.cells #[] 3)) (fun _ _ _ => 0)
      case atStart => exact ⟨rfl, rfl, rfl⟩
      case round =>
        obtain ⟨rfl, rfl, rfl⟩ := hrel
        go_wp2_with fail
        go_ret
        exact Hg0.out.done
theorem impl_Clone (A : Option Addr) (n c : Nat) (xs : List Int) (w : World) (hx : Ints w A xs) (lx : xs.length = n) (h0 : 0 < n) (mx : n ≤ 2000000) :
    Calls Try.prog 46 #[.slice A n c] w (MadeI xs w) := by
  have g0 := Grow.empty (Below.refl w.heap.size w)
  have i0 := hx.bound.below g0.low
  have i1 := i0.ints g0.size
  obtain ⟨b, o, rfl, _, _⟩ := hx.at_ (j := 0) (by omega)
  have LX := Lib.hid lx
  clear lx i0 hx
  have hnil := Lib.run_eql_slice_nil (P := Try.prog) w 28 3 (some ⟨b, o, none⟩) n c 0 0 Try.underlying28
  go_enter Try.func46, Try.ntmps46
  go_wp2_with (first | (at_builtin; refine app_ints elemInt rfl _ _ rfl w.heap.size _ 0 [] rfl g0.own (some ⟨b, o, none⟩) n c xs rfl i1 LX.out (by unfold maxLen; omega) (by omega) g0.size ?_))
  intro v5 w5 ho5 hg5 _
  have Hg := Lib.hid (g0.app ho5 hg5 (ys := xs) rfl)
  clear ho5 hg5 g0 i1
  go_wp2_with fail
  go_ret
  exact Hg.out.done
end Go.Proofs.Ytjhgjfipfjackaa

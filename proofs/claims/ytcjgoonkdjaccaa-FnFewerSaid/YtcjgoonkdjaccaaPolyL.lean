/- Polynomial shares: the program's test of consistency: the whole. -/
import Derived.Test.YtcjgoonkdjaccaaProg
import Derived.Test.YtcjgoonkdjaccaaPolyK
import Derived.Test.YtcjgoonkdjaccaaPolyT
namespace Go.Proofs.Ytcjgoonkdjaccaa
open Go Go.RowKit
set_option maxRecDepth 100000 in
set_option maxHeartbeats 1000000 in
theorem impl_PolyConsistent_yes (p : Int) (A : Option Addr) (n c : Nat) (sh : List Int) (q : Int) (hq : q ≤ 9223372036854775807) (w : World) (hx : Ints w A sh) (lx : sh.length = n) (hcn : n ≤ c) (hok : consOk p sh q) :
    Calls Try.prog 17 #[.int .i64 p, .slice A n c, .int .i64 q] w fun e w' => e = .returned (.bool (decide (consC p sh q))) ∧ Below w.heap.size w w' := by
  have hcd := consC_diff hok
  obtain ⟨h5, hp, ha, hq0⟩ := hok
  rw [lx] at h5 hp hcd
  have Hl := Lib.hid lx
  have Hd5 := Lib.hid (decide_eq_true (show 1 ≤ (n : Int) ∧ (n : Int) ≤ 5 by omega))
  have Hda := Lib.hid (decide_eq_true ha)
  obtain ⟨m, hm⟩ : ∃ m, consM q n = m := ⟨_, rfl⟩
  have hmr := consM_le q n hq0 h5.1
  rw [hm] at hmr hcd
  have Hz : Hid (decide (allZ (diffK p sh m)) = decide (consC p sh q)) := decide_eq_decide.2 hcd.symm
  have hge : ¬ p ≤ (n : Int) := by omega
  have hq1 : ¬ q < 0 := by omega
  have hv : (n : Int) ≤ q ∧ m = n ∨ q < n ∧ (m : Int) = q + 1 := by
    rw [← hm]; unfold consM
    by_cases h : (n : Int) ≤ q
    · rw [if_pos h]; exact .inl ⟨h, rfl⟩
    · rw [if_neg h]; exact .inr ⟨by omega, by omega⟩
  clear lx ha hm hcd
  go_enter Try.func17, Try.ntmps17
  go_wp2_with fail
  refine (impl_partiesOk_is (n : Int) true Hd5.out _).mono ?_
  rintro e w1 ⟨rfl, rfl⟩
  go_wp2_with fail
  refine (impl_allElements p A n c sh true Hda.out _ hx Hl.out (by omega)).mono ?_
  rintro e w1 ⟨rfl, k1⟩
  go_upto_region 5 with (fail)
  go_cut [34, 35] (fun s34 s35 wx => s34 = .int .i64 m ∧ s35 = .int .i64 0 ∧ w1 = wx)
  case first =>
    rcases hv with ⟨h, rfl⟩ | ⟨h, h1⟩
    · have h2 : (m : Int) - 1 ≤ q := by omega
      have h3 : ¬ q < (m : Int) - 1 := by omega
      go_wp2_with fail
      all_goals
        go_meet
        exact ⟨by first | rfl | go_num, rfl, rfl⟩
    · have h2 : q ≤ (n : Int) - 1 := by omega
      go_wp2_with fail
      all_goals
        go_meet
        exact ⟨by rw [h1], rfl, rfl⟩
  case rest =>
    obtain ⟨rfl, rfl, rfl⟩ := hcut
    clear hv
    go_wp2_with fail
    go_loopw [8, 35] (fun v i wr => ∃ (k : Nat) (B : Option Addr) (n' c' : Nat), k ≤ m ∧ i = .int .i64 k ∧ v = .slice B n' c' ∧ Hid ((diffK p sh k).length = n') ∧ n' ≤ c' ∧ IntsB wr.heap.size wr B (diffK p sh k) ∧ Below w.heap.size w wr) (fun _ i _ => m - (intOf i).toNat)
    case atStart => exact ⟨0, A, n, c, Nat.zero_le _, rfl, rfl, Hl.out, hcn, (hx.below k1).bound, k1⟩
    case round =>
      obtain ⟨k, B, n', c', hk, rfl, rfl, hln, hcn', hxB, hlow⟩ := hrel
      clear k1 hx
      have hn' : n' = n - k := by rw [← hln.out, diffK_length, Hl.out]
      by_cases hlt : k < m
      · have Hdl := Lib.hid (show diffL p (diffK p sh k) = diffK p sh (k + 1) from rfl)
        generalize diffK p sh k = zs at hln hxB Hdl
        have n1 : 1 ≤ n' := by omega
        have n2 : n' ≤ 2000000 := by omega
        have hxI : Ints wr B zs := hxB
        have hcall := impl_differences p B n' c' zs wr hxI hln.out n1 n2 hcn'
        have Hc := Lib.hid hcall
        clear hcall hxB hxI hn'
        go_wp2_with fail
        refine Hc.out.mono ?_
        rintro e w2 ⟨B2, n2, c2, rfl, hl2, ho2, hb⟩
        rw [Hdl.out] at hl2 ho2
        have Hl2 := Lib.hid hl2
        have hc2 := ho2.cap
        have hi2 := Lib.hid ho2.ints.bound
        replace hlow := hlow.trans (hb.mono hlow.size)
        clear hb ho2 hl2
        go_wp2_with fail
        go_roundw
        case rel => exact ⟨k + 1, B2, n2, c2, by omega, by go_num, rfl, Hl2.out, hc2, hi2.out, hlow⟩
        case measure => simp [intOf]; omega
      · obtain rfl : k = m := by omega
        have n2 : n' ≤ 2000000 := by omega
        clear hn'
        go_wp2_with fail
        refine (impl_ContainsFunc B n' c' (diffK p sh k) _ Hz.out wr hxB hln.out n2).mono ?_
        rintro e w2 ⟨rfl, rfl⟩
        go_wp2_with fail
        go_ret
        exact ⟨ret_bool (by simp), hlow⟩
theorem impl_PolyConsistent (p : Int) (A : Option Addr) (n c : Nat) (sh : List Int) (q : Int) (r : Bool) (hr : decide (consC p sh q) = r) (hq : q ≤ 9223372036854775807) (w : World) (hx : Ints w A sh) (lx : sh.length = n) (mx : n ≤ 2000000) (hcn : n ≤ c) :
    Calls Try.prog 17 #[.int .i64 p, .slice A n c, .int .i64 q] w fun e w' => e = .returned (.bool r) ∧ Below w.heap.size w w' := by
  subst hr
  by_cases h5 : 1 ≤ (n : Int) ∧ (n : Int) ≤ 5
  · have Hd5 := Lib.hid (decide_eq_true h5)
    by_cases hnp : (n : Int) < p
    · by_cases ha : allEl p sh
      · by_cases hq0 : 0 ≤ q
        · exact impl_PolyConsistent_yes p A n c sh q hq w hx lx hcn ⟨by omega, by rw [lx]; exact hnp, ha, hq0⟩
        · rw [consC_no (fun e => hq0 e.2.2.2)]
          have Hda := Lib.hid (decide_eq_true ha)
          have h0 : ¬ p ≤ (n : Int) := by omega
          have h1 : q < 0 := by omega
          clear ha
          go_enter Try.func17, Try.ntmps17
          go_wp2_with fail
          refine (impl_partiesOk_is (n : Int) true Hd5.out _).mono ?_
          rintro e w1 ⟨rfl, rfl⟩
          go_wp2_with fail
          refine (impl_allElements p A n c sh true Hda.out _ hx lx (by omega)).mono ?_
          rintro e w1 ⟨rfl, k1⟩
          go_wp2_with fail
          go_ret
          exact ⟨rfl, k1⟩
      · rw [consC_no (fun e => ha e.2.2.1)]
        have Hda := Lib.hid (decide_eq_false ha)
        have h0 : ¬ p ≤ (n : Int) := by omega
        clear ha
        go_enter Try.func17, Try.ntmps17
        go_wp2_with fail
        refine (impl_partiesOk_is (n : Int) true Hd5.out _).mono ?_
        rintro e w1 ⟨rfl, rfl⟩
        go_wp2_with fail
        refine (impl_allElements p A n c sh false Hda.out _ hx lx (by omega)).mono ?_
        rintro e w1 ⟨rfl, k1⟩
        go_wp2_with fail
        go_ret
        exact ⟨rfl, k1⟩
    · rw [consC_no (fun e => hnp (by have := e.2.1; rw [lx] at this; exact this))]
      have h0 : p ≤ (n : Int) := by omega
      go_enter Try.func17, Try.ntmps17
      go_wp2_with fail
      refine (impl_partiesOk_is (n : Int) true Hd5.out _).mono ?_
      rintro e w1 ⟨rfl, rfl⟩
      go_wp2_with fail
      go_ret
      exact ⟨rfl, Below.refl _ _⟩
  · rw [consC_no (fun e => h5 (by have := e.1; rw [lx] at this; omega))]
    have Hd5 := Lib.hid (decide_eq_false h5)
    go_enter Try.func17, Try.ntmps17
    go_wp2_with fail
    refine (impl_partiesOk_is (n : Int) false Hd5.out _).mono ?_
    rintro e w1 ⟨rfl, rfl⟩
    go_wp2_with fail
    go_ret
    exact ⟨rfl, Below.refl _ _⟩
end Go.Proofs.Ytcjgoonkdjaccaa

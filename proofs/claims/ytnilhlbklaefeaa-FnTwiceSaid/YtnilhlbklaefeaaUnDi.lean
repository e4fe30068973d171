/- LoopDepth: the program's. No condition. -/
import Derived.Test.YtnilhlbklaefeaaProg
import Derived.Test.YtnilhlbklaefeaaPg8
import Derived.Test.YtnilhlbklaefeaaUnM
namespace Go.Proofs.Ytnilhlbklaefeaa
open Go Go.RowKit
set_option maxRecDepth 100000 in
set_option maxHeartbeats 1000000 in
theorem impl_LoopDepth (A : Option Addr) (n cp : Nat) (ss : List St) (w : World) (hr : Ints w A (flat ss)) (hl : ss.length = n) (hn : n ≤ 2000000) :
    Calls Try.prog 13 #[.slice A n cp] w fun e w' => e = .returned (.int .i64 (depthI ss)) ∧ Below w.heap.size w w' := by
  have c1 := impl_ProgramOk A n cp ss w hr hl hn
  unfold depthI
  by_cases hp : progI ss
  case neg =>
    rw [decide_eq_false hp] at c1
    rw [if_neg hp]
    clear hp hr
    go_enter Try.func13, Try.ntmps13
    go_wp2_with fail
    refine c1.mono ?_
    rintro e w1 ⟨rfl, hb⟩
    go_wp2_with fail
    go_ret
    exact ⟨rfl, hb⟩
  rw [decide_eq_true hp] at c1
  rw [if_pos hp]
  have Hl := Lib.hid hl
  have Hrun : Hid (runD (ss.drop 0) 0 = some 0) := by rw [List.drop_zero]; exact Lib.hid hp.2
  have Hstart : Hid (deepN ss 0 0 = deepN (ss.drop 0) 0 0) := by rw [List.drop_zero]; exact Lib.hid rfl
  clear hl hp
  go_enter Try.func13, Try.ntmps13
  go_wp2_with fail
  refine c1.mono ?_
  rintro e w1 ⟨rfl, hb1⟩
  have hr1 := hr.bound.below hb1
  clear c1
  go_wp2_with fail
  go_loopw [3, 4, 12] (fun dv mv i wr => ∃ (k : Nat) (D M : Int), k ≤ n ∧ i = .int .i64 k ∧ dv = .int .i64 D ∧ mv = .int .i64 M ∧ 0 ≤ D ∧ D ≤ M ∧ M ≤ 3 ∧ Hid (runD (ss.drop k) D = some 0) ∧ Hid (deepN ss 0 0 = deepN (ss.drop k) D M) ∧ Below w.heap.size w wr) (fun _ _ i _ => n - (intOf i).toNat)
  case atStart => exact ⟨0, 0, 0, Nat.zero_le _, rfl, rfl, rfl, by omega, by omega, by omega, Hrun, Hstart, hb1⟩
  case round =>
    obtain ⟨k, D, M, hk, rfl, rfl, rfl, hD0, hDM, hM3, hrun, hdp, hb⟩ := hrel
    clear Hstart Hrun hb1 hr1
    by_cases hlt : k < n
    · rcases hs : ss.getD k s0 with ⟨op, d, a, b, c, m⟩
      obtain ⟨g, o, rfl, hbl, q0, q1, q2, q3, q4, q5⟩ := cell6 (hr.bound.below hb) (by rw [Hl.out]; exact hlt) hs
      have hstep := deepN_step (D := D) (M := M) (by rw [Hl.out]; exact hlt) hs
      obtain ⟨hok, r0, r3, hrn⟩ := run_some (by rw [Hl.out]; exact hlt) hs hrun.out
      have k0 : (0 : Int) ≤ k := by omega
      have k1 : (k : Int) < n := by omega
      have hb2 := low_alloc hb (.cells #[.int .i64 op, .int .i64 d, .int .i64 a, .int .i64 b, .int .i64 c, .int .i64 m] 30)
      clear hs hr hb hok hrun
      by_cases h12 : op = 12
      · rw [show dl op = 1 by unfold dl; rw [if_pos h12]] at *
        by_cases hm : M ≤ D + 1
        · rw [Int.max_eq_right hm] at hstep
          have Hnx : Hid (deepN ss 0 0 = deepN (ss.drop (k + 1)) (D + 1) (D + 1)) := Lib.hid (hdp.out.trans hstep)
          have Hrn := Lib.hid hrn
          clear hstep hdp hrn
          go_wp2_with fail
          go_roundw
          case rel => exact ⟨k + 1, D + 1, D + 1, by omega, by go_num, rfl, by first | rfl | (congr 1; omega), by omega, by omega, by omega, Hrn, Hnx, by subst h12; exact hb2⟩
          case measure => simp [intOf]; omega
        · rw [Int.max_eq_left (by omega)] at hstep
          have Hnx : Hid (deepN ss 0 0 = deepN (ss.drop (k + 1)) (D + 1) M) := Lib.hid (hdp.out.trans hstep)
          have Hrn := Lib.hid hrn
          clear hstep hdp hrn
          go_wp2_with fail
          go_roundw
          case rel => exact ⟨k + 1, D + 1, M, by omega, by go_num, rfl, by first | rfl | (congr 1; omega), by omega, by omega, by omega, Hrn, Hnx, by subst h12; exact hb2⟩
          case measure => simp [intOf]; omega
      by_cases h13 : op = 13
      · rw [show dl op = -1 by unfold dl; rw [if_neg h12, if_pos h13]] at *
        rw [show D + -1 = D - 1 by omega] at *
        rw [Int.max_eq_left (by omega)] at hstep
        have Hnx : Hid (deepN ss 0 0 = deepN (ss.drop (k + 1)) (D - 1) M) := Lib.hid (hdp.out.trans hstep)
        have Hrn := Lib.hid hrn
        clear hstep hdp hrn
        go_wp2_with fail
        go_roundw
        case rel => exact ⟨k + 1, D - 1, M, by omega, by go_num, rfl, rfl, by omega, by omega, by omega, Hrn, Hnx, by subst h13; exact hb2⟩
        case measure => simp [intOf]; omega
      · rw [show dl op = 0 by unfold dl; rw [if_neg h12, if_neg h13]] at *
        rw [Int.add_zero] at *
        rw [Int.max_eq_left (by omega)] at hstep
        have Hnx : Hid (deepN ss 0 0 = deepN (ss.drop (k + 1)) D M) := Lib.hid (hdp.out.trans hstep)
        have Hrn := Lib.hid hrn
        clear hstep hdp hrn
        go_wp2_with fail
        go_roundw
        case rel => exact ⟨k + 1, D, M, by omega, by go_num, rfl, rfl, by omega, by omega, by omega, Hrn, Hnx, hb2⟩
        case measure => simp [intOf]; omega
    · obtain rfl : k = n := by omega
      have hend := deepN_end ss D M
      rw [Hl.out, ← hdp.out] at hend
      have Hr := Lib.hid hend
      clear hend hrun hdp hr
      go_wp2_with fail
      go_ret
      exact ⟨ret_int Hr.out.symm, hb⟩
end Go.Proofs.Ytnilhlbklaefeaa

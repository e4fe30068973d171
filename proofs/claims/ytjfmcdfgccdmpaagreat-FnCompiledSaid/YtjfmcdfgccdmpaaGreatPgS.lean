/- The model's ProgramOk and PartiesOf. No condition. -/
import Derived.Test.YtjfmcdfgccdmpaaGreatProg
import Derived.Test.YtjfmcdfgccdmpaaGreatStmtK
import Derived.Test.YtjfmcdfgccdmpaaGreatB2
namespace Go.Proofs.YtjfmcdfgccdmpaaGreat
open Go Go.RowKit
theorem fin_dec {ss : List St} {n : Nat} {D : Int} (hl : ss.length = n) (hrun : runD ss 0 = some D) : (decide (D = 0) && decide ((n : Int) ≤ 40)) = decide (progI ss) := by
  refine (dec_and ⟨fun h => ?_, fun h => ⟨by omega, by rw [hrun, h.1]⟩⟩).symm
  have h2 := h.2
  rw [hrun] at h2
  injection h2 with h2
  exact ⟨h2, by have := h.1; omega⟩
set_option maxRecDepth 100000 in
set_option maxHeartbeats 3000000 in
theorem spec_ProgramOk (A : Option Addr) (n cp : Nat) (ss : List St) (w : World) (hr : Ints w A (flat ss)) (hl : ss.length = n) (hn : n ≤ 2000000) :
    Calls Tryz.prog 61 #[.slice A n cp] w fun e w' => e = .returned (.bool (decide (progI ss))) ∧ Below w.heap.size w w' := by
  have Hl := Lib.hid hl
  have Hstart : Hid (runD ss 0 = runD (ss.drop 0) 0) := by rw [List.drop_zero]; exact Lib.hid rfl
  clear hl
  go_enter Tryz.func61, Tryz.ntmps61
  go_wp2_with fail
  go_loopw [3, 4] (fun dv i wr => ∃ (k : Nat) (D : Int), k ≤ n ∧ i = .int .i64 k ∧ dv = .int .i64 D ∧ 0 ≤ D ∧ D ≤ 3 ∧ Hid (runD ss 0 = runD (ss.drop k) D) ∧ Below w.heap.size w wr) (fun _ i _ => n - (intOf i).toNat)
  case atStart => exact ⟨0, 0, Nat.zero_le _, rfl, rfl, by omega, by omega, Hstart, Below.refl _ _⟩
  case round =>
    obtain ⟨k, D, hk, rfl, rfl, hD0, hD3, hrun, hb⟩ := hrel
    clear Hstart
    by_cases hlt : k < n
    · rcases hs : ss.getD k s0 with ⟨op, d, a, b, c, m⟩
      have hlk : k < ss.length := by rw [Hl.out]; exact hlt
      have HC := Lib.hid (fun (w2 : World) (h2 : Below w.heap.size w w2) => cell6 (hr.bound.below h2) hlk hs)
      obtain ⟨g, o, rfl, hbl, q0, q1, q2, q3, q4, q5⟩ := HC.out wr hb
      have hstep := runD_step (D := D) hlk hs
      have k0 : (0 : Int) ≤ k := by omega
      have k1 : (k : Int) < n := by omega
      have c1 := spec_StmtOk op d a b c m
      clear hs hr hlk
      by_cases ho : okI op d a b c m
      case neg =>
        rw [if_neg (fun h => ho h.1)] at hstep
        have Hno := Lib.hid (decide_eq_false (p := progI ss) (fun e => by have h := e.2; rw [hrun.out, hstep] at h; cases h))
        rw [decide_eq_false ho] at c1
        clear hstep hrun ho HC
        go_wp2_with fail
        refine (c1 _).mono ?_
        rintro e w2 ⟨rfl, hb2⟩
        have hb3 := hb.trans (hb2.mono hb.size)
        clear hb2 hb q0 q1 q2 q3 q4 q5
        go_wp2_with fail
        go_ret
        exact ⟨ret_bool Hno.out.symm, hb3⟩
      rw [decide_eq_true ho] at c1
      have hdl : (if op = 12 then (1 : Int) else if op = 13 then -1 else 0) = dl op := rfl
      by_cases hr2 : 0 ≤ D + dl op ∧ D + dl op ≤ 3
      · rw [if_pos ⟨ho, hr2.1, hr2.2⟩] at hstep
        have Hnx : Hid (runD ss 0 = runD (ss.drop (k + 1)) (D + dl op)) := Lib.hid (hrun.out.trans hstep)
        have c2 := l01In_is (D + dl op) 0 3 true (decide_eq_true hr2)
        clear hstep hrun ho
        by_cases h12 : op = 12
        · skip
          rw [show dl op = 1 by unfold dl; rw [if_pos h12]] at *
          clear hdl
          subst h12
          go_wp2_with fail
          refine (c1 _).mono ?_
          rintro e w2 ⟨rfl, hb2⟩
          have hb3 := hb.trans (hb2.mono hb.size)
          obtain ⟨g', o', hA, -, r0, -, -, -, -, -⟩ := HC.out w2 hb3
          injection hA with hA
          injection hA with hA1 hA2
          subst hA1 hA2
          clear hb2 hb HC q0 q1 q2 q3 q4 q5
          go_wp2_with fail
          refine (c2 _).mono ?_
          rintro e w3 ⟨rfl, rfl⟩
          go_wp2_with fail
          go_roundw
          case rel => exact ⟨k + 1, D + 1, by omega, by go_num, rfl, by omega, by omega, Hnx, hb3⟩
          case measure => simp [intOf]; omega
        by_cases h13 : op = 13
        · skip
          rw [show dl op = -1 by unfold dl; rw [if_neg h12, if_pos h13]] at *
          rw [show D + -1 = D - 1 by omega] at *
          clear hdl h12
          subst h13
          go_wp2_with fail
          refine (c1 _).mono ?_
          rintro e w2 ⟨rfl, hb2⟩
          have hb3 := hb.trans (hb2.mono hb.size)
          obtain ⟨g', o', hA, -, r0, -, -, -, -, -⟩ := HC.out w2 hb3
          injection hA with hA
          injection hA with hA1 hA2
          subst hA1 hA2
          clear hb2 hb HC q0 q1 q2 q3 q4 q5
          go_wp2_with fail
          refine (c2 _).mono ?_
          rintro e w3 ⟨rfl, rfl⟩
          go_wp2_with fail
          go_roundw
          case rel => exact ⟨k + 1, D - 1, by omega, by go_num, rfl, by omega, by omega, Hnx, hb3⟩
          case measure => simp [intOf]; omega
        · skip
          rw [show dl op = 0 by unfold dl; rw [if_neg h12, if_neg h13]] at *
          rw [Int.add_zero] at *
          clear hdl
          go_wp2_with fail
          refine (c1 _).mono ?_
          rintro e w2 ⟨rfl, hb2⟩
          have hb3 := hb.trans (hb2.mono hb.size)
          obtain ⟨g', o', hA, -, r0, -, -, -, -, -⟩ := HC.out w2 hb3
          injection hA with hA
          injection hA with hA1 hA2
          subst hA1 hA2
          clear hb2 hb HC q0 q1 q2 q3 q4 q5
          go_wp2_with fail
          refine (c2 _).mono ?_
          rintro e w3 ⟨rfl, rfl⟩
          go_wp2_with fail
          go_roundw
          case rel => exact ⟨k + 1, D, by omega, by go_num, rfl, by omega, by omega, Hnx, hb3⟩
          case measure => simp [intOf]; omega
      · rw [if_neg (fun h => hr2 h.2)] at hstep
        have Hno := Lib.hid (decide_eq_false (p := progI ss) (fun e => by have h := e.2; rw [hrun.out, hstep] at h; cases h))
        have c2 := l01In_is (D + dl op) 0 3 false (decide_eq_false hr2)
        clear hstep hrun ho
        by_cases h12 : op = 12
        · skip
          rw [show dl op = 1 by unfold dl; rw [if_pos h12]] at *
          clear hdl
          subst h12
          go_wp2_with fail
          refine (c1 _).mono ?_
          rintro e w2 ⟨rfl, hb2⟩
          have hb3 := hb.trans (hb2.mono hb.size)
          obtain ⟨g', o', hA, -, r0, -, -, -, -, -⟩ := HC.out w2 hb3
          injection hA with hA
          injection hA with hA1 hA2
          subst hA1 hA2
          clear hb2 hb HC q0 q1 q2 q3 q4 q5
          go_wp2_with fail
          refine (c2 _).mono ?_
          rintro e w3 ⟨rfl, rfl⟩
          go_wp2_with fail
          go_ret
          exact ⟨ret_bool Hno.out.symm, hb3⟩
        by_cases h13 : op = 13
        · skip
          rw [show dl op = -1 by unfold dl; rw [if_neg h12, if_pos h13]] at *
          rw [show D + -1 = D - 1 by omega] at *
          clear hdl h12
          subst h13
          go_wp2_with fail
          refine (c1 _).mono ?_
          rintro e w2 ⟨rfl, hb2⟩
          have hb3 := hb.trans (hb2.mono hb.size)
          obtain ⟨g', o', hA, -, r0, -, -, -, -, -⟩ := HC.out w2 hb3
          injection hA with hA
          injection hA with hA1 hA2
          subst hA1 hA2
          clear hb2 hb HC q0 q1 q2 q3 q4 q5
          go_wp2_with fail
          refine (c2 _).mono ?_
          rintro e w3 ⟨rfl, rfl⟩
          go_wp2_with fail
          go_ret
          exact ⟨ret_bool Hno.out.symm, hb3⟩
        · skip
          rw [show dl op = 0 by unfold dl; rw [if_neg h12, if_neg h13]] at *
          rw [Int.add_zero] at *
          exact absurd ⟨hD0, hD3⟩ hr2
    · obtain rfl : k = n := by omega
      have hend := runD_end ss D
      rw [Hl.out, ← hrun.out] at hend
      have Hr := Lib.hid (fin_dec Hl.out hend)
      clear hend hrun hr
      by_cases hD : D = 0
      · have e1 := decide_eq_true hD
        rw [e1] at Hr
        clear e1
        go_wp2_with fail
        go_ret
        exact ⟨ret_bool (by rw [← Hr.out]; simp), hb⟩
      · have e1 := decide_eq_false hD
        rw [e1] at Hr
        clear e1
        go_wp2_with fail
        go_ret
        exact ⟨ret_bool (by rw [← Hr.out]; simp), hb⟩
end Go.Proofs.YtjfmcdfgccdmpaaGreat

/- OutputCount: the program's and the model's. No condition. -/
import Derived.Test.YtklmhkckhdmelaaProg
import Derived.Test.YtklmhkckhdmelaaUnU
namespace Go.Proofs.Ytklmhkckhdmelaa
open Go Go.RowKit
theorem outs_end (l : List St) : outs (l.drop l.length) = 0 := by rw [List.drop_length]; rfl
set_option maxRecDepth 100000 in
set_option maxHeartbeats 1000000 in
theorem impl_OutputCount (A : Option Addr) (n cp : Nat) (ss : List St) (w : World) (hr : Ints w A (flat ss)) (hl : ss.length = n) (hn : n ≤ 2000000) :
    Calls Try.prog 13 #[.slice A n cp] w fun e w' => e = .returned (.int .i64 (outsI ss)) ∧ Below w.heap.size w w' := by
  have c1 := impl_Unroll A n cp ss w hr hl hn
  unfold Post_S_bool at c1
  unfold outsI
  unfold unrV at c1
  by_cases hu : unrI ss
  case neg =>
    rw [if_neg hu, decide_eq_false hu] at c1
    rw [if_neg hu]
    clear hu hr
    go_enter Try.func13, Try.ntmps13
    go_wp2_with fail
    refine c1.mono ?_
    rintro e w1 ⟨B, m, c, rfl, -, -, hb⟩
    go_wp2_with fail
    go_ret
    exact ⟨rfl, hb⟩
  rw [if_pos hu, decide_eq_true hu] at c1
  rw [if_pos hu]
  have hz := hu.2
  generalize unrollL ss = zs at *
  clear hu
  go_enter Try.func13, Try.ntmps13
  go_wp2_with fail
  refine c1.mono ?_
  rintro e w1 ⟨B, m, c, rfl, hm, hown, hb1⟩
  have hi := hown.ints
  have Hm := Lib.hid hm
  have hm120 : m ≤ 120 := by omega
  have Hstart : Hid (outs zs = 0 + outs (zs.drop 0)) := by rw [List.drop_zero, Nat.zero_add]; exact Lib.hid rfl
  clear c1 hown hm hz
  go_wp2_with fail
  go_loopw [5, 17] (fun cv i wr => ∃ (k q : Nat), k ≤ m ∧ i = .int .i64 k ∧ cv = .int .i64 (q : Int) ∧ q ≤ k ∧ Hid (outs zs = q + outs (zs.drop k)) ∧ Below w1.heap.size w1 wr) (fun _ i _ => m - (intOf i).toNat)
  case atStart => exact ⟨0, 0, Nat.zero_le _, rfl, rfl, Nat.le_refl _, Hstart, Below.refl _ _⟩
  case round =>
    obtain ⟨k, q, hk, rfl, rfl, hq, hsum, hb⟩ := hrel
    clear Hstart
    by_cases hlt : k < m
    · rcases hs : zs.getD k s0 with ⟨op, d, a, b, c2, mm⟩
      have hlk : k < zs.length := by rw [Hm.out]; exact hlt
      obtain ⟨g, o, rfl, hbl, q0, q1, q2, q3, q4, q5⟩ := cell6 (hi.bound.below hb) hlk hs
      have hstep := outs_step hlk hs
      have k0 : (0 : Int) ≤ k := by omega
      have k1 : (k : Int) < m := by omega
      clear hs hi hlk
      by_cases h11 : op = 11
      · subst h11
        rw [if_pos rfl] at hstep
        have Hnx : Hid (outs zs = (q + 1) + outs (zs.drop (k + 1))) := Lib.hid (by rw [hsum.out, hstep]; omega)
        have hb2 := low_alloc hb (.cells #[.int .i64 11, .int .i64 d, .int .i64 a, .int .i64 b, .int .i64 c2, .int .i64 mm] 43)
        clear hstep hsum
        go_wp2_with fail
        go_roundw
        case rel => exact ⟨k + 1, q + 1, by omega, by go_num, by go_num, by omega, Hnx, hb2⟩
        case measure => simp [intOf]; omega
      · rw [if_neg h11, Nat.zero_add] at hstep
        have Hnx : Hid (outs zs = q + outs (zs.drop (k + 1))) := Lib.hid (by rw [hsum.out, hstep])
        have hb2 := low_alloc hb (.cells #[.int .i64 op, .int .i64 d, .int .i64 a, .int .i64 b, .int .i64 c2, .int .i64 mm] 43)
        clear hstep hsum
        go_wp2_with fail
        go_roundw
        case rel => exact ⟨k + 1, q, by omega, by go_num, rfl, by omega, Hnx, hb2⟩
        case measure => simp [intOf]; omega
    · obtain rfl : k = m := by omega
      have hend := outs_end zs
      rw [Hm.out] at hend
      have hh := hsum.out
      rw [hend, Nat.add_zero] at hh
      have Hr := Lib.hid (congrArg (fun x : Nat => (x : Int)) hh)
      clear hend hsum hh hi
      go_wp2_with fail
      go_ret
      exact ⟨ret_int Hr.out.symm, hb1.trans (hb.mono hb1.size)⟩
/- The contracts in the exact laws' form. -/
end Go.Proofs.Ytklmhkckhdmelaa

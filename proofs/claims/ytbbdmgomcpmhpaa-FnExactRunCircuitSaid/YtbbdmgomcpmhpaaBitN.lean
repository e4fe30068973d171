/- Tests of any number of bits: the model. No condition. -/
import Derived.Test.YtbbdmgomcpmhpaaProg
import Derived.Test.YtbbdmgomcpmhpaaCirB
namespace Go.Proofs.Ytbbdmgomcpmhpaa
open Go Go.RowKit
set_option maxRecDepth 100000 in
theorem spec_l13BitsN (A : Option Addr) (n c : Nat) (zs : List Int) (r : Bool) (hr : decide (allBit zs) = r) (w : World) (hz : Ints w A zs) (hl : zs.length = n) (hn : n ≤ 1000000000000) :
    Calls Try.prog 67 #[.slice A n c, .int .i64 n] w fun e w' => e = .returned (.bool r) ∧ w = w' := by
  have Hl := Lib.hid hl
  have Hr := Lib.hid hr
  clear hl hr
  go_enter Try.func67, Try.ntmps67
  go_wp2_with fail
  go_loop [5] (fun i => ∃ k : Nat, k ≤ n ∧ i = .int .i64 k ∧ Hid (∀ j, j < k → isBit (zs.getD j 0))) (fun i => n - (intOf i).toNat)
  case atStart => exact ⟨0, Nat.zero_le _, rfl, fun _ h => by omega⟩
  case round =>
    obtain ⟨k, hk, rfl, hne⟩ := hrel
    by_cases hlt : k < n
    · obtain ⟨b, o, rfl, _, c0⟩ := hz.at_ (j := k) (by rw [Hl.out]; exact hlt)
      have Hyes : Hid (¬ isBit (zs.getD k 0) → ¬ allBit zs) := fun e => allBit_no e
      have Hnx : Hid (isBit (zs.getD k 0) → ∀ j, j < k + 1 → isBit (zs.getD j 0)) := fun e j hj => by
        rcases Nat.lt_or_ge j k with h | h
        · exact hne.out j h
        · obtain rfl : j = k := by omega
          exact e
      generalize zs.getD k 0 = y at c0 Hyes Hnx
      have k0 : (0 : Int) ≤ k := by omega
      have k1 : (k : Int) < n := by omega
      clear hz
      by_cases hxy : isBit y
      · have Hn := Lib.hid (Hnx.out hxy)
        have cN := l01In_is y 0 1 true (decide_eq_true hxy) w
        clear Hnx Hyes hxy
        go_wp2_with fail
        refine cN.mono ?_
        rintro e w1 ⟨rfl, rfl⟩
        go_wp2_with fail
        go_round
        case rel => exact ⟨k + 1, by omega, by go_num, Hn.out⟩
        case measure => simp [intOf]; omega
      · have Hy := Lib.hid (Hyes.out hxy)
        have cN := l01In_is y 0 1 false (decide_eq_false hxy) w
        clear Hnx Hyes hxy
        go_wp2_with fail
        refine cN.mono ?_
        rintro e w1 ⟨rfl, rfl⟩
        go_wp2_with fail
        go_ret
        exact ⟨ret_bool (by rw [← Hr.out, decide_eq_false Hy.out]), rfl⟩
    · obtain rfl : k = n := by omega
      have Hno : Hid (allBit zs) := (allBit_dec zs).2 (fun j hj => hne.out j (by rw [← Hl.out]; exact hj))
      go_wp2_with fail
      go_ret
      exact ⟨ret_bool (by rw [← Hr.out, decide_eq_true Hno.out]), rfl⟩
end Go.Proofs.Ytbbdmgomcpmhpaa

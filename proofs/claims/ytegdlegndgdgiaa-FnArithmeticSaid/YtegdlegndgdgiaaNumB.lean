/- NumberOf, the model's: the number that bits say. No condition. -/
import Derived.Test.YtegdlegndgdgiaaProg
import Derived.Test.YtegdlegndgdgiaaCirB
import Derived.Test.YtegdlegndgdgiaaW1
namespace Go.Proofs.Ytegdlegndgdgiaa
open Go Go.RowKit
theorem take_bit {l : List Int} (h : allBit l) (k : Nat) : allBit (l.take k) := fun x hx => h x (List.mem_of_mem_take hx)
theorem numB_take {l : List Int} {k : Nat} (h : k < l.length) : numB (l.take (k + 1)) = numB (l.take k) + 2 ^ k * l.getD k 0 := by
  rw [take_snoc h, numB_snoc, List.length_take, Nat.min_eq_left (by omega)]
theorem pow32 {k : Nat} (h : k ≤ 32) : (2 : Int) ^ k ≤ 4294967296 := by
  have h1 : (2 : Nat) ^ k ≤ 2 ^ 32 := Nat.pow_le_pow_right (by omega) h
  have h2 : ((2 : Nat) ^ k : Nat) ≤ 4294967296 := by simpa using h1
  have h3 : ((2 ^ k : Nat) : Int) = (2 : Int) ^ k := by simp
  omega
set_option maxRecDepth 100000 in
theorem spec_allBits (A : Option Addr) (n c : Nat) (zs : List Int) (r : Bool) (hr : decide (allBit zs) = r) (w : World) (hz : Ints w A zs) (hl : zs.length = n) (hn : n ≤ 1000000000000) :
    Calls Try.prog 63 #[.slice A n c, .int .i64 n] w fun e w' => e = .returned (.bool r) ∧ w = w' := by
  have Hl := Lib.hid hl
  have Hr := Lib.hid hr
  clear hl hr
  go_enter Try.func63, Try.ntmps63
  go_wp2_with fail
  go_loop [5] (fun i => ∃ k : Nat, k ≤ n ∧ i = .int .i64 k ∧ Hid (∀ j, j < k → isBit (zs.getD j 0))) (fun i => n - (intOf i).toNat)
  case atStart => exact ⟨0, Nat.zero_le _, rfl, fun _ h => by omega⟩
  case round =>
    obtain ⟨k, hk, rfl, hne⟩ := hrel
    by_cases hlt : k < n
    · obtain ⟨b, o, rfl, _, c0⟩ := hz.at_ (j := k) (by rw [Hl.out]; exact hlt)
      have Hyes : Hid (¬ isBit (zs.getD k 0) → ¬ allBit zs) := fun e => allBit_no e
      have Hnx : Hid (isBit (zs.getD k 0) → ∀ j, j < k + 1 → isBit (zs.getD j 0)) := fun e j hj => by
        rcases Nat.lt_or_ge j k with h | h
        · exact hne.out j h
        · obtain rfl : j = k := by omega
          exact e
      generalize zs.getD k 0 = y at c0 Hyes Hnx
      have k0 : (0 : Int) ≤ k := by omega
      have k1 : (k : Int) < n := by omega
      clear hz
      by_cases hxy : isBit y
      · have Hn := Lib.hid (Hnx.out hxy)
        have cN := l01In_is y 0 1 true (decide_eq_true hxy) w
        clear Hnx Hyes hxy
        go_wp2_with fail
        refine cN.mono ?_
        rintro e w1 ⟨rfl, rfl⟩
        go_wp2_with fail
        go_round
        case rel => exact ⟨k + 1, by omega, by go_num, Hn.out⟩
        case measure => simp [intOf]; omega
      · have Hy := Lib.hid (Hyes.out hxy)
        have cN := l01In_is y 0 1 false (decide_eq_false hxy) w
        clear Hnx Hyes hxy
        go_wp2_with fail
        refine cN.mono ?_
        rintro e w1 ⟨rfl, rfl⟩
        go_wp2_with fail
        go_ret
        exact ⟨ret_bool (by rw [← Hr.out, decide_eq_false Hy.out]), rfl⟩
    · obtain rfl : k = n := by omega
      have Hno : Hid (allBit zs) := (allBit_dec zs).2 (fun j hj => hne.out j (by rw [← Hl.out]; exact hj))
      have Ht : Hid (r = true) := Hr.out.symm.trans (decide_eq_true Hno.out)
      go_wp2_with fail
      go_ret
      exact ⟨ret_bool (by rw [Ht.out]), rfl⟩
set_option maxRecDepth 100000 in
set_option maxHeartbeats 1000000 in
theorem spec_NumberOf (A : Option Addr) (n c : Nat) (xs : List Int) (w : World) (h : Ints w A xs) (l : xs.length = n) (hn : n ≤ 32) (hb : allBit xs) :
    Calls Try.prog 36 #[.slice A n c] w fun e w' => e = .returned (.int .i64 (numB xs)) ∧ w = w' := by
  have cB := spec_allBits A n c xs true (decide_eq_true hb) w h l (by omega)
  have L := Lib.hid l
  have HB := Lib.hid hb
  clear hb l
  go_enter Try.func36, Try.ntmps36
  go_wp2_with fail
  refine cB.mono ?_
  rintro e w1 ⟨rfl, rfl⟩
  clear cB
  go_wp2_with fail
  go_loop [3, 4] (fun q i => ∃ (k : Nat) (x : Int), k ≤ n ∧ i = .int .i64 k ∧ q = .int .i64 x ∧ Hid (x = numB (xs.take k))) (fun _ i => n - (intOf i).toNat)
  case atStart => exact ⟨0, 0, Nat.zero_le _, rfl, rfl, Lib.hid rfl⟩
  case round =>
    obtain ⟨k, x, hk, rfl, rfl, hx⟩ := hrel
    by_cases hlt : k < n
    · obtain ⟨b, o, rfl, _, q0⟩ := h.at_ (j := k) (by rw [L.out]; exact hlt)
      have k0 : (0 : Int) ≤ k := by omega
      have k1 : (k : Int) < n := by omega
      have hbit := HB.out.at_ k
      have HN := Lib.hid (numB_take (l := xs) (k := k) (by rw [L.out]; exact hlt))
      generalize xs.getD k 0 = y at *
      clear h
      have hr := numB_range (take_bit HB.out k)
      rw [← hx.out, List.length_take, Nat.min_eq_left (by rw [L.out]; omega)] at hr
      have hp := pow32 (k := k) (by omega)
      have HW := Lib.hid (show wrap64 (x + wrap64 (y * 2 ^ k)) = x + 2 ^ k * y from by
        unfold wrap64
        generalize (2 : Int) ^ k = P at *
        rcases hbit.or with rfl | rfl
        · simp; omega
        · rw [Int.one_mul, Int.mul_one]; omega)
      clear hr hp hbit
      go_wp2_with fail
      go_round
      case rel => exact ⟨k + 1, x + 2 ^ k * y, by omega, by go_num, by rw [HW.out], Lib.hid (by rw [HN.out, hx.out])⟩
      case measure => simp [intOf]; omega
    · obtain rfl : k = n := by omega
      rw [List.take_of_length_le (by rw [L.out]; exact Nat.le_refl _)] at hx
      go_wp2_with fail
      go_ret
      exact ⟨ret_int hx.out, rfl⟩
end Go.Proofs.Ytegdlegndgdgiaa

/- FieldOk, IsElement, FAdd, FSub, FMul, FInv and FSum and their models return the same numbers, and write nothing that was there. -/
import Derived.Test.YtcjgoonkdjaccaaProg
import Derived.Test.YtcjgoonkdjaccaaDraw
import Derived.Test.YtcjgoonkdjaccaaFieldM
import Derived.BigRegion
import Derived.Handy
namespace Go.Proofs.Ytcjgoonkdjaccaa
open Go Go.RowKit
theorem isP_dec {x : Int} {b : Bool} (h : b = true ↔ isP x) : b = decide (isP x) := by
  by_cases e : isP x
  · simp [e, h.2 e]
  · have : ¬ b = true := fun k => e (h.1 k)
    simp [e, this]
/-- The square of a divisor that is tried, and the prime's number. -/
theorem sq_small {d : Nat} (h : d ≤ 11) : d * d ≤ 121 := Nat.mul_le_mul h h
theorem no_next {n k : Nat} (h : Hid (∀ e, e < k → 2 ≤ e → n % e ≠ 0)) (hk : ¬ n % k = 0) : Hid (∀ e, e < k + 1 → 2 ≤ e → n % e ≠ 0) := fun e h1 h2 => by
  rcases Nat.lt_or_ge e k with h' | h'
  · exact h.out e h' h2
  · obtain rfl : e = k := by omega
    exact hk
theorem impl_FieldOk (p : Int) (w : World) :
    Calls Try.prog 63 #[.int .i64 p] w fun e w' => e = .returned (.bool (decide (isP p))) ∧ w = w' := by
  by_cases h : p < 2 ∨ 101 < p
  · have hn : decide (isP p) = false := decide_eq_false fun k => by have := k.range; omega
    rw [hn]
    rcases h with h | h
    · go_enter Try.func63, Try.ntmps63
      go_wp2
      all_goals go_ret
      all_goals exact ⟨rfl, rfl⟩
    · go_enter Try.func63, Try.ntmps63
      go_wp2
      all_goals go_ret
      all_goals exact ⟨rfl, rfl⟩
  · obtain ⟨n, rfl⟩ := Int.eq_ofNat_of_zero_le (show 0 ≤ p by omega)
    have hn2 : 2 ≤ n := by omega
    have hn1 : n ≤ 101 := by omega
    clear h
    go_enter Try.func63, Try.ntmps63
    go_wp2_with fail
    go_loop [3] (fun d => ∃ k : Nat, 2 ≤ k ∧ k ≤ 11 ∧ d = .int .i64 k ∧ Hid (∀ e, e < k → 2 ≤ e → n % e ≠ 0)) (fun d => 12 - (intOf d).toNat)
    case atStart => exact ⟨2, by omega, by omega, rfl, fun e h1 h2 => by omega⟩
    case round =>
      obtain ⟨k, hk2, hk1, rfl, hd⟩ := hrel
      have hs := sq_small hk1
      have hs0 : (0 : Int) ≤ (k : Int) * k := by exact_mod_cast Nat.zero_le (k * k)
      have hs1 : (k : Int) * k ≤ 121 := by exact_mod_cast hs
      by_cases hq : (k : Int) * k ≤ n
      · have hq' : k * k ≤ n := by exact_mod_cast hq
        have hk : k < 11 := by
          rcases Nat.lt_or_ge k 11 with h | h
          · exact h
          · have := Nat.mul_le_mul h h
            omega
        by_cases hm : n % k = 0
        · have hn := decide_eq_false (isP_no hk2 hk hq' hm)
          have hm' : (n : Int).tmod k = 0 := by rw [Int.tmod_eq_emod_of_nonneg (by omega)]; omega
          have Hn := Lib.hid hn
          clear hn
          go_wp2_with fail
          go_ret
          exact ⟨ret_bool Hn.out.symm, rfl⟩
        · have hm' : ¬ (n : Int).tmod k = 0 := by rw [Int.tmod_eq_emod_of_nonneg (by omega)]; omega
          go_wp2_with fail
          go_round
          case rel => exact ⟨k + 1, by omega, by omega, by go_num, no_next hd hm⟩
          case measure => simp [intOf]; omega
      · have hq' : n < k * k := by
          rcases Nat.lt_or_ge n (k * k) with h | h
          · exact h
          · exact absurd (by exact_mod_cast h) hq
        have Hn := Lib.hid (decide_eq_true (isP_yes hn2 hn1 hq' hd.out))
        go_wp2_with fail
        go_ret
        exact ⟨ret_bool Hn.out.symm, rfl⟩
theorem spec_FieldOk (p : Int) (w : World) :
    Calls Try.prog 81 #[.int .i64 p] w fun e w' => e = .returned (.bool (decide (isP p))) ∧ w = w' := by
  by_cases h : p < 2 ∨ 101 < p
  · have hn : decide (isP p) = false := decide_eq_false fun k => by have := k.range; omega
    rw [hn]
    go_enter Try.func81, Try.ntmps81
    go_wp2_with fail
    refine (l01In_is p 2 101 false (decide_eq_false (by omega)) w).mono ?_
    rintro e w1 ⟨rfl, rfl⟩
    go_wp2_with fail
    go_ret
    exact ⟨rfl, rfl⟩
  · obtain ⟨n, rfl⟩ := Int.eq_ofNat_of_zero_le (show 0 ≤ p by omega)
    have hn2 : 2 ≤ n := by omega
    have hn1 : n ≤ 101 := by omega
    clear h
    go_enter Try.func81, Try.ntmps81
    go_wp2_with fail
    refine (l01In_is (n : Int) 2 101 true (decide_eq_true (by omega)) w).mono ?_
    rintro e w1 ⟨rfl, rfl⟩
    go_wp2_with fail
    go_loop [3] (fun d => ∃ k : Nat, 2 ≤ k ∧ k ≤ 11 ∧ d = .int .i64 k ∧ Hid (∀ e, e < k → 2 ≤ e → n % e ≠ 0)) (fun d => 12 - (intOf d).toNat)
    case atStart => exact ⟨2, by omega, by omega, rfl, fun e h1 h2 => by omega⟩
    case round =>
      obtain ⟨k, hk2, hk1, rfl, hd⟩ := hrel
      have hs := sq_small hk1
      have hs0 : (0 : Int) ≤ (k : Int) * k := by exact_mod_cast Nat.zero_le (k * k)
      have hs1 : (k : Int) * k ≤ 121 := by exact_mod_cast hs
      by_cases hq : (k : Int) * k ≤ n
      · have hq' : k * k ≤ n := by exact_mod_cast hq
        have hk : k < 11 := by
          rcases Nat.lt_or_ge k 11 with h | h
          · exact h
          · have := Nat.mul_le_mul h h
            omega
        by_cases hm : n % k = 0
        · have hn := decide_eq_false (isP_no hk2 hk hq' hm)
          have hm' : (n : Int).tmod k = 0 := by rw [Int.tmod_eq_emod_of_nonneg (by omega)]; omega
          have Hn := Lib.hid hn
          clear hn
          go_wp2_with fail
          go_ret
          exact ⟨ret_bool Hn.out.symm, rfl⟩
        · have hm' : ¬ (n : Int).tmod k = 0 := by rw [Int.tmod_eq_emod_of_nonneg (by omega)]; omega
          go_wp2_with fail
          go_round
          case rel => exact ⟨k + 1, by omega, by omega, by go_num, no_next hd hm⟩
          case measure => simp [intOf]; omega
      · have hq' : n < k * k := by
          rcases Nat.lt_or_ge n (k * k) with h | h
          · exact h
          · exact absurd (by exact_mod_cast h) hq
        have Hn := Lib.hid (decide_eq_true (isP_yes hn2 hn1 hq' hd.out))
        go_wp2_with fail
        go_ret
        exact ⟨ret_bool Hn.out.symm, rfl⟩
theorem impl_IsElement (p a : Int) (w : World) :
    Calls Try.prog 34 #[.int .i64 p, .int .i64 a] w fun e w' => e = .returned (.bool (decide (isEl p a))) ∧ w = w' := by
  go_enter Try.func34, Try.ntmps34
  go_wp2_with fail
  refine (impl_FieldOk p w).mono ?_
  rintro e w1 ⟨rfl, rfl⟩
  by_cases hp : isP p
  · rw [decide_eq_true hp]
    go_wp2
    all_goals go_ret
    all_goals exact ⟨ret_bool (by simp [isEl, hp]; omega), rfl⟩
  · rw [decide_eq_false hp]
    go_wp2_with fail
    go_ret
    exact ⟨ret_bool (by simp [isEl, hp]), rfl⟩
theorem spec_IsElement (p a : Int) (w : World) :
    Calls Try.prog 54 #[.int .i64 p, .int .i64 a] w fun e w' => e = .returned (.bool (decide (isEl p a))) ∧ w = w' := by
  go_enter Try.func54, Try.ntmps54
  go_wp2_with fail
  refine (spec_FieldOk p w).mono ?_
  rintro e w1 ⟨rfl, rfl⟩
  by_cases hp : isP p
  · rw [decide_eq_true hp]
    have := hp.range
    go_wp2_with fail
    refine (l01In_is a 0 (p - 1) (decide (isEl p a)) (decide_eq_decide.2 (by simp [isEl, hp]; omega)) w).mono ?_
    rintro e w1 ⟨rfl, rfl⟩
    go_wp2_with fail
    go_ret
    exact ⟨rfl, rfl⟩
  · rw [decide_eq_false hp]
    go_wp2_with fail
    go_ret
    exact ⟨ret_bool (by simp [isEl, hp]), rfl⟩
theorem impl_newElement_yes (p a : Int) (h : isEl p a) (w : World) :
    Calls Try.prog 47 #[.int .i64 p, .int .i64 a] w fun e w' => e = .returned (.tuple #[.agg #[.int .i64 p, .int .i64 a], .bool true]) ∧ Below w.heap.size w w' := by
  go_enter Try.func47, Try.ntmps47
  go_wp2_with fail
  refine (impl_IsElement p a _).mono ?_
  rintro e w1 ⟨rfl, rfl⟩
  rw [decide_eq_true h]
  go_wp2_with fail
  go_returns
  exact ⟨rfl, (Below.refl _ _).alloc (Nat.le_refl _) _⟩
theorem impl_newElement_no (p a : Int) (h : ¬ isEl p a) (w : World) :
    Calls Try.prog 47 #[.int .i64 p, .int .i64 a] w fun e w' => e = .returned (.tuple #[.agg #[.int .i64 0, .int .i64 0], .bool false]) ∧ Below w.heap.size w w' := by
  go_enter Try.func47, Try.ntmps47
  go_wp2_with fail
  refine (impl_IsElement p a _).mono ?_
  rintro e w1 ⟨rfl, rfl⟩
  rw [decide_eq_false h]
  go_wp2_with fail
  go_returns
  exact ⟨rfl, (Below.refl _ _).alloc (Nat.le_refl _) _⟩
theorem below3 (w : World) (a b c : Obj) : Below w.heap.size w (((w.alloc a).alloc b).alloc c).drew :=
  ((((Below.refl _ _).alloc (Nat.le_refl _) _).alloc (by simp) _).alloc (by simp; omega) _).drew
theorem impl_plus (p a b : Int) (ha : isEl p a) (hb : isEl p b) (w : World) :
    Calls Try.prog 73 #[.agg #[.int .i64 p, .int .i64 a], .agg #[.int .i64 p, .int .i64 b]] w fun e w' => e = .returned (.agg #[.int .i64 p, .int .i64 ((a + b) % p)]) ∧ Below w.heap.size w w' := by
  have := ha.range
  have := hb.range
  go_enter Try.func73, Try.ntmps73
  go_wp2_with fail
  go_region
  go_wp2_with fail
  go_returns
  exact ⟨rfl, below3 w _ _ _⟩
theorem impl_minus (p a b : Int) (ha : isEl p a) (hb : isEl p b) (w : World) :
    Calls Try.prog 95 #[.agg #[.int .i64 p, .int .i64 a], .agg #[.int .i64 p, .int .i64 b]] w fun e w' => e = .returned (.agg #[.int .i64 p, .int .i64 ((a - b) % p)]) ∧ Below w.heap.size w w' := by
  have := ha.range
  have := hb.range
  go_enter Try.func95, Try.ntmps95
  go_wp2_with fail
  go_region
  go_wp2_with fail
  go_returns
  exact ⟨by simp, below3 w _ _ _⟩
theorem prod_small {p a b : Int} (ha : isEl p a) (hb : isEl p b) : 0 ≤ a * b ∧ a * b ≤ 10000 := by
  obtain ⟨n, m, rfl, rfl, _, _, h3, h4⟩ := ha.nat
  obtain ⟨n', k, e, rfl, _, _, h5, h6⟩ := hb.nat
  have := Nat.mul_le_mul (show m ≤ 100 by omega) (show k ≤ 100 by omega)
  refine ⟨Int.mul_nonneg (Int.natCast_nonneg _) (Int.natCast_nonneg _), ?_⟩
  have h : ((m * k : Nat) : Int) ≤ 10000 := by omega
  rwa [Int.natCast_mul] at h
theorem impl_times (p a b : Int) (ha : isEl p a) (hb : isEl p b) (w : World) :
    Calls Try.prog 74 #[.agg #[.int .i64 p, .int .i64 a], .agg #[.int .i64 p, .int .i64 b]] w fun e w' => e = .returned (.agg #[.int .i64 p, .int .i64 ((a * b) % p)]) ∧ Below w.heap.size w w' := by
  have := ha.range
  obtain ⟨hs0, hs1⟩ := prod_small ha hb
  go_enter Try.func74, Try.ntmps74
  go_wp2_with fail
  go_region
  go_wp2_with fail
  go_returns
  exact ⟨rfl, below3 w _ _ _⟩
end Go.Proofs.Ytcjgoonkdjaccaa

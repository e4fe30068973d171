/- IsWord, XorWords, LowBit, Mix and Keyed and their models return the same numbers, and turn nothing. -/
import Derived.Test.YtfpcjgolcbjnjaaProg
import Derived.Test.YtfpcjgolcbjnjaaB1
namespace Go.Proofs.Ytfpcjgolcbjnjaa
open Go Go.RowKit
theorem word_dec {x : Int} {b : Bool} (h : b = true ↔ isWord x) : b = decide (isWord x) := by
  by_cases e : isWord x
  · simp [e, h.2 e]
  · have : ¬ b = true := fun k => e (h.1 k)
    simp [e, this]
theorem impl_IsWord (x : Int) (w : World) :
    Calls Try.prog 92 #[.int .i64 x] w fun e w' => e = .returned (.bool (decide (isWord x))) ∧ w = w' := by
  go_enter Try.func92, Try.ntmps92
  go_wp2
  all_goals go_ret
  all_goals exact ⟨ret_bool (word_dec (by simp [isWord]; omega)), rfl⟩
theorem impl_IsWord_yes (x : Int) (h : isWord x) (w : World) :
    Calls Try.prog 92 #[.int .i64 x] w fun e w' => e = .returned (.bool true) ∧ w = w' := by
  have := impl_IsWord x w
  rwa [decide_eq_true h] at this
theorem spec_IsWord (x : Int) (w : World) :
    Calls Try.prog 99 #[.int .i64 x] w fun e w' => e = .returned (.bool (decide (isWord x))) ∧ w = w' := by
  go_enter Try.func99, Try.ntmps99
  go_wp2
  all_goals go_ret
  all_goals exact ⟨ret_bool (word_dec (by simp [isWord]; omega)), rfl⟩
def stage (n : Nat) : Nat → Nat
  | 0 => n
  | k + 1 => if k < 2 then prodN (foldN (stage n k)) else foldN (stage n k)
theorem stage_lt (n : Nat) (h : n < 4294967296) : ∀ k, stage n k < 4294967296 := by
  intro k
  induction k with
  | zero => rw [stage]; exact h
  | succ k ih =>
    rw [stage]
    split
    · exact prodN_lt _
    · exact foldN_lt _ ih
theorem stage_next (n k : Nat) (hk : k < 2) : stage n (k + 1) = prodN (foldN (stage n k)) := by
  rw [stage, if_pos hk]
theorem stage_last (n k : Nat) (hk : ¬ k < 2) : stage n (k + 1) = foldN (stage n k) := by
  rw [stage, if_neg hk]
theorem stage_two (n : Nat) : foldN (stage n (0 + 1 + 1)) = mixN n := by
  rw [stage_next n (0 + 1) (by decide), stage_next n 0 (by decide), stage, mixN]
theorem stage_three (n : Nat) : stage n (2 + 1) = mixN n := by
  rw [stage_last n 2 (by decide)]
  exact stage_two n
theorem fold_spell (a : Nat) (h : a < 4294967296) : bits .xor .i64 (a : Int) ((a : Int) / 65536) = (foldN a : Int) := by
  have e : ((a : Int) / 65536) = ((a / 65536 : Nat) : Int) := by omega
  rw [e, i64_xor_nat _ _ (by omega) (by omega)]
  rfl
theorem prod_spell (a : Nat) (h : a < 4294967296) : (wrap64 ((a : Int) * 73244475)).tmod 4294967296 = (prodN a : Int) := by
  have e : wrap64 ((a : Int) * 73244475) = (a : Int) * 73244475 := by unfold wrap64; omega
  rw [e, Int.tmod_eq_emod_of_nonneg (by omega)]
  unfold prodN
  omega
theorem prod_spell' (a : Nat) (h : a < 4294967296) : bits .and .i64 (wrap64 ((a : Int) * 73244475)) 4294967295 = (prodN a : Int) := by
  have e : wrap64 ((a : Int) * 73244475) = (a : Int) * 73244475 := by unfold wrap64; omega
  rw [e, i64_and_mask32]
  unfold prodN
  omega
theorem impl_Mix (x : Int) (w : World) :
    Calls Try.prog 113 #[.int .i64 x] w fun e w' => e = .returned (.int .i64 (mixI x)) ∧ w = w' := by
  by_cases h : isWord x
  · obtain ⟨n, rfl, hn⟩ := word_nat h
    go_enter Try.func113, Try.ntmps113
    go_wp2_with fail
    refine (impl_IsWord _ w).mono ?_
    rintro e w1 ⟨rfl, rfl⟩
    rw [decide_eq_true h]
    go_wp2_with fail
    go_loop [0, 7] (fun x i => ∃ k : Nat, k ≤ 3 ∧ i = .int .i64 k ∧ x = .int .i64 (stage n k)) (fun _ i => 3 - (intOf i).toNat)
    case atStart => exact ⟨0, by omega, rfl, rfl⟩
    case round =>
      obtain ⟨k, hk, rfl, rfl⟩ := hrel
      have hs := stage_lt n hn k
      by_cases h3 : k = 3
      · subst h3
        go_wp2_with fail
        go_ret
        exact ⟨ret_int (by rw [stage_three]; simp [mixI, h]), rfl⟩
      · by_cases h2 : k = 2
        · subst h2
          go_wp2_with fail
          go_round
          case rel => exact ⟨3, by omega, rfl, by rw [fold_spell _ hs]; rw [stage_last n 2 (by decide)]⟩
          case measure => simp [intOf]
        · go_wp2_with fail
          go_round
          case rel => exact ⟨k + 1, by omega, rfl, by rw [fold_spell _ hs, prod_spell _ (foldN_lt _ hs), stage_next n k (by omega)]⟩
          case measure => simp [intOf]; omega
  · go_enter Try.func113, Try.ntmps113
    go_wp2_with fail
    refine (impl_IsWord _ w).mono ?_
    rintro e w1 ⟨rfl, rfl⟩
    rw [decide_eq_false h]
    go_wp2_with fail
    go_ret
    exact ⟨ret_int (by simp [mixI, h]), rfl⟩
theorem impl_Mix_is (x r : Int) (h : mixI x = r) (w : World) :
    Calls Try.prog 113 #[.int .i64 x] w fun e w' => e = .returned (.int .i64 r) ∧ w = w' := by
  subst h; exact impl_Mix x w
theorem spec_Mix (x : Int) (w : World) :
    Calls Try.prog 115 #[.int .i64 x] w fun e w' => e = .returned (.int .i64 (mixI x)) ∧ w = w' := by
  by_cases h : isWord x
  · obtain ⟨n, rfl, hn⟩ := word_nat h
    go_enter Try.func115, Try.ntmps115
    go_wp2_with fail
    refine (spec_IsWord _ w).mono ?_
    rintro e w1 ⟨rfl, rfl⟩
    rw [decide_eq_true h]
    go_wp2_with fail
    go_loop [0, 3] (fun x i => ∃ k : Nat, k ≤ 2 ∧ i = .int .i64 k ∧ x = .int .i64 (stage n k)) (fun _ i => 2 - (intOf i).toNat)
    case atStart => exact ⟨0, by omega, rfl, rfl⟩
    case round =>
      obtain ⟨k, hk, rfl, rfl⟩ := hrel
      have hs := stage_lt n hn k
      by_cases h2 : k = 2
      · subst h2
        go_wp2_with fail
        go_ret
        exact ⟨ret_int (by rw [fold_spell _ hs, stage_two]; simp [mixI, h]), rfl⟩
      · go_wp2_with fail
        go_round
        case rel => exact ⟨k + 1, by omega, rfl, by rw [fold_spell _ hs, prod_spell' _ (foldN_lt _ hs), stage_next n k (by omega)]⟩
        case measure => simp [intOf]; omega
  · go_enter Try.func115, Try.ntmps115
    go_wp2_with fail
    refine (spec_IsWord _ w).mono ?_
    rintro e w1 ⟨rfl, rfl⟩
    rw [decide_eq_false h]
    go_wp2_with fail
    go_ret
    exact ⟨ret_int (by simp [mixI, h]), rfl⟩
theorem impl_XorWords (a b : Int) (w : World) :
    Calls Try.prog 114 #[.int .i64 a, .int .i64 b] w fun e w' => e = .returned (.int .i64 (xorI a b)) ∧ w = w' := by
  go_enter Try.func114, Try.ntmps114
  go_wp2_with fail
  refine (impl_IsWord _ w).mono ?_
  rintro e w1 ⟨rfl, rfl⟩
  by_cases ha : isWord a
  · rw [decide_eq_true ha]
    go_wp2_with fail
    refine (impl_IsWord _ w).mono ?_
    rintro e w1 ⟨rfl, rfl⟩
    by_cases hb : isWord b
    · rw [decide_eq_true hb]
      obtain ⟨a, rfl, ka⟩ := word_nat ha
      obtain ⟨b, rfl, kb⟩ := word_nat hb
      go_wp2_with fail
      go_ret
      exact ⟨ret_int (by rw [xorI_nat a b ka kb, i64_xor_nat _ _ (by omega) (by omega)]), rfl⟩
    · rw [decide_eq_false hb]
      go_wp2_with fail
      go_ret
      exact ⟨ret_int (by simp [xorI, hb]), rfl⟩
  · rw [decide_eq_false ha]
    go_wp2_with fail
    go_ret
    exact ⟨ret_int (by simp [xorI, ha]), rfl⟩
theorem impl_XorWords_is (a b r : Int) (h : xorI a b = r) (w : World) :
    Calls Try.prog 114 #[.int .i64 a, .int .i64 b] w fun e w' => e = .returned (.int .i64 r) ∧ w = w' := by
  subst h; exact impl_XorWords a b w
def lowI (x : Int) : Int := if isWord x then x % 2 else 0
theorem impl_Keyed (k a b : Int) (w : World) :
    Calls Try.prog 98 #[.int .i64 k, .int .i64 a, .int .i64 b] w fun e w' => e = .returned (.int .i64 (keyedI k a b)) ∧ w = w' := by
  go_enter Try.func98, Try.ntmps98
  go_wp2_with fail
  refine (impl_IsWord _ w).mono ?_
  rintro e w1 ⟨rfl, rfl⟩
  by_cases hk : isWord k
  · rw [decide_eq_true hk]
    go_wp2_with fail
    refine (impl_IsWord _ w).mono ?_
    rintro e w1 ⟨rfl, rfl⟩
    by_cases ha : isWord a
    · rw [decide_eq_true ha]
      go_wp2_with fail
      refine (impl_IsWord _ w).mono ?_
      rintro e w1 ⟨rfl, rfl⟩
      by_cases hb : isWord b
      · rw [decide_eq_true hb]
        go_wp2_with fail
        refine (impl_Mix _ w).mono ?_
        rintro e w1 ⟨rfl, rfl⟩
        go_wp2_with fail
        refine (impl_XorWords _ _ w).mono ?_
        rintro e w1 ⟨rfl, rfl⟩
        go_wp2_with fail
        refine (impl_Mix _ w).mono ?_
        rintro e w1 ⟨rfl, rfl⟩
        go_wp2_with fail
        refine (impl_XorWords _ _ w).mono ?_
        rintro e w1 ⟨rfl, rfl⟩
        go_wp2_with fail
        refine (impl_Mix _ w).mono ?_
        rintro e w1 ⟨rfl, rfl⟩
        go_wp2_with fail
        go_ret
        exact ⟨ret_int (by simp [keyedI, hk, ha, hb]), rfl⟩
      · rw [decide_eq_false hb]
        go_wp2_with fail
        go_ret
        exact ⟨ret_int (by simp [keyedI, hb]), rfl⟩
    · rw [decide_eq_false ha]
      go_wp2_with fail
      go_ret
      exact ⟨ret_int (by simp [keyedI, ha]), rfl⟩
  · rw [decide_eq_false hk]
    go_wp2_with fail
    go_ret
    exact ⟨ret_int (by simp [keyedI, hk]), rfl⟩
theorem impl_Keyed_is (k a b r : Int) (h : keyedI k a b = r) (w : World) :
    Calls Try.prog 98 #[.int .i64 k, .int .i64 a, .int .i64 b] w fun e w' => e = .returned (.int .i64 r) ∧ w = w' := by
  subst h; exact impl_Keyed k a b w
theorem spec_Mix_at (x y : Int) (h : x = y) (w : World) :
    Calls Try.prog 115 #[.int .i64 x] w fun e w' => e = .returned (.int .i64 (mixI y)) ∧ w = w' := by
  subst h; exact spec_Mix x w
theorem spec_Keyed (k a b : Int) (w : World) :
    Calls Try.prog 101 #[.int .i64 k, .int .i64 a, .int .i64 b] w fun e w' => e = .returned (.int .i64 (keyedI k a b)) ∧ w = w' := by
  go_enter Try.func101, Try.ntmps101
  go_wp2_with fail
  refine (spec_IsWord _ w).mono ?_
  rintro e w1 ⟨rfl, rfl⟩
  by_cases hk : isWord k
  · rw [decide_eq_true hk]
    go_wp2_with fail
    refine (spec_IsWord _ w).mono ?_
    rintro e w1 ⟨rfl, rfl⟩
    by_cases ha : isWord a
    · rw [decide_eq_true ha]
      go_wp2_with fail
      refine (spec_IsWord _ w).mono ?_
      rintro e w1 ⟨rfl, rfl⟩
      by_cases hb : isWord b
      · rw [decide_eq_true hb]
        go_wp2_with fail
        refine (spec_Mix _ w).mono ?_
        rintro e w1 ⟨rfl, rfl⟩
        go_wp2_with fail
        refine (spec_Mix_at _ _ (xorI_bits (mixI_word k) ha) w).mono ?_
        rintro e w1 ⟨rfl, rfl⟩
        go_wp2_with fail
        refine (spec_Mix_at _ _ (xorI_bits (mixI_word _) hb) w).mono ?_
        rintro e w1 ⟨rfl, rfl⟩
        go_wp2_with fail
        go_ret
        exact ⟨ret_int (by simp [keyedI, hk, ha, hb]), rfl⟩
      · rw [decide_eq_false hb]
        go_wp2_with fail
        go_ret
        exact ⟨ret_int (by simp [keyedI, hb]), rfl⟩
    · rw [decide_eq_false ha]
      go_wp2_with fail
      go_ret
      exact ⟨ret_int (by simp [keyedI, ha]), rfl⟩
  · rw [decide_eq_false hk]
    go_wp2_with fail
    go_ret
    exact ⟨ret_int (by simp [keyedI, hk]), rfl⟩

end Go.Proofs.Ytfpcjgolcbjnjaa

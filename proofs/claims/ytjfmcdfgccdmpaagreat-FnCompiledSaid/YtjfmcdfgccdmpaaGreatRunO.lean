/- Interpretation: the operations, the program's and the model's; the first state. No condition. -/
import Derived.Test.YtjfmcdfgccdmpaaGreatProg
import Derived.Test.YtjfmcdfgccdmpaaGreatR1
import Derived.Test.YtjfmcdfgccdmpaaGreatSState
import Derived.Laws.EntriesVeiled
namespace Go.Proofs.YtjfmcdfgccdmpaaGreat
open Go Go.RowKit
theorem four_mul {a b : Int} (ha : 0 ≤ a ∧ a ≤ 15) (hb : 0 ≤ b ∧ b ≤ 15) : 0 ≤ a * b ∧ a * b ≤ 225 := by
  refine ⟨Int.mul_nonneg ha.1 hb.1, ?_⟩
  have h1 : a * b ≤ 15 * b := Int.mul_le_mul_of_nonneg_right ha.2 hb.1
  omega
theorem operI_3 {a b : Int} (ha : 0 ≤ a ∧ a ≤ 15) (hb : 0 ≤ b ∧ b ≤ 15) : operI 3 a b = bits .and .i64 (a + b) 15 := by rw [operI_in ha hb]; rfl
theorem operI_4 {a b : Int} (ha : 0 ≤ a ∧ a ≤ 15) (hb : 0 ≤ b ∧ b ≤ 15) : operI 4 a b = bits .and .i64 (a - b) 15 := by rw [operI_in ha hb]; rfl
theorem operI_5 {a b : Int} (ha : 0 ≤ a ∧ a ≤ 15) (hb : 0 ≤ b ∧ b ≤ 15) : operI 5 a b = bits .and .i64 (a * b) 15 := by rw [operI_in ha hb]; rfl
theorem operI_6 {a b : Int} (ha : 0 ≤ a ∧ a ≤ 15) (hb : 0 ≤ b ∧ b ≤ 15) : operI 6 a b = bits .and .i64 a b := by rw [operI_in ha hb]; rfl
theorem operI_7 {a b : Int} (ha : 0 ≤ a ∧ a ≤ 15) (hb : 0 ≤ b ∧ b ≤ 15) : operI 7 a b = bits .xor .i64 a b := by rw [operI_in ha hb]; rfl
theorem operI_8 {a b : Int} (ha : 0 ≤ a ∧ a ≤ 15) (hb : 0 ≤ b ∧ b ≤ 15) : operI 8 a b = (if a < b then 1 else 0) := by rw [operI_in ha hb]; rfl
theorem operI_9 {a b : Int} (ha : 0 ≤ a ∧ a ≤ 15) (hb : 0 ≤ b ∧ b ≤ 15) : operI 9 a b = (if a = b then 1 else 0) := by rw [operI_in ha hb]; rfl
theorem operI_else {op a b : Int} (h : ¬ (3 ≤ op ∧ op ≤ 9)) : operI op a b = -1 := by
  unfold operI
  split
  · rw [if_neg (by omega), if_neg (by omega), if_neg (by omega), if_neg (by omega), if_neg (by omega), if_neg (by omega), if_neg (by omega)]
  · rfl
theorem operI_out {op a b : Int} (h : ¬ (in4 a ∧ in4 b)) : operI op a b = -1 := if_neg h
theorem spec_l12If (b : Bool) (w : World) : Calls Tryz.prog 66 #[.bool b] w fun e w' => e = .returned (.int .i64 (if b = true then 1 else 0)) ∧ w = w' := by
  cases b
  · go_enter Tryz.func66, Tryz.ntmps66
    go_wp2_with fail
    go_ret
    exact ⟨rfl, rfl⟩
  · go_enter Tryz.func66, Tryz.ntmps66
    go_wp2_with fail
    go_ret
    exact ⟨rfl, rfl⟩
theorem if_dec (p : Prop) [Decidable p] : (if decide p = true then (1 : Int) else 0) = if p then 1 else 0 := by
  by_cases h : p <;> simp [h]
theorem spec_Operate (op a b : Int) (w : World) : Calls Tryz.prog 44 #[.int .i64 op, .int .i64 a, .int .i64 b] w fun e w' => e = .returned (.int .i64 (operI op a b)) ∧ w = w' := by
  by_cases ha : in4 a
  case neg =>
    rw [operI_out (fun h => ha h.1)]
    have k1 := l01In_is a 0 15 false (decide_eq_false ha) w
    clear ha
    go_enter Tryz.func44, Tryz.ntmps44
    go_wp2_with fail
    refine k1.mono ?_
    rintro e w1 ⟨rfl, rfl⟩
    go_wp2_with fail
    go_ret
    exact ⟨rfl, rfl⟩
  have k1 := l01In_is a 0 15 true (decide_eq_true ha) w
  by_cases hb : in4 b
  case neg =>
    rw [operI_out (fun h => hb h.2)]
    have k2 := l01In_is b 0 15 false (decide_eq_false hb) w
    clear ha hb
    go_enter Tryz.func44, Tryz.ntmps44
    go_wp2_with fail
    refine k1.mono ?_
    rintro e w1 ⟨rfl, rfl⟩
    go_wp2_with fail
    refine k2.mono ?_
    rintro e w1 ⟨rfl, rfl⟩
    go_wp2_with fail
    go_ret
    exact ⟨rfl, rfl⟩
  have k2 := l01In_is b 0 15 true (decide_eq_true hb) w
  have hm := four_mul ha hb
  obtain ⟨m0, m1⟩ := hm
  have a0 : 0 ≤ a := ha.1
  have a1 : a ≤ 15 := ha.2
  have b0 : 0 ≤ b := hb.1
  have b1 : b ≤ 15 := hb.2
  by_cases h3 : op = 3
  · subst h3
    rw [operI_3 ha hb]
    clear ha hb
    go_enter Tryz.func44, Tryz.ntmps44
    go_wp2_with fail
    refine k1.mono ?_
    rintro e w1 ⟨rfl, rfl⟩
    go_wp2_with fail
    refine k2.mono ?_
    rintro e w1 ⟨rfl, rfl⟩
    go_wp2_with fail
    go_ret
    exact ⟨rfl, rfl⟩
  by_cases h4 : op = 4
  · subst h4
    rw [operI_4 ha hb]
    clear ha hb
    go_enter Tryz.func44, Tryz.ntmps44
    go_wp2_with fail
    refine k1.mono ?_
    rintro e w1 ⟨rfl, rfl⟩
    go_wp2_with fail
    refine k2.mono ?_
    rintro e w1 ⟨rfl, rfl⟩
    go_wp2_with fail
    go_ret
    exact ⟨rfl, rfl⟩
  by_cases h5 : op = 5
  · subst h5
    rw [operI_5 ha hb]
    clear ha hb
    go_enter Tryz.func44, Tryz.ntmps44
    go_wp2_with fail
    refine k1.mono ?_
    rintro e w1 ⟨rfl, rfl⟩
    go_wp2_with fail
    refine k2.mono ?_
    rintro e w1 ⟨rfl, rfl⟩
    go_wp2_with fail
    go_ret
    exact ⟨rfl, rfl⟩
  by_cases h6 : op = 6
  · subst h6
    rw [operI_6 ha hb]
    clear ha hb
    go_enter Tryz.func44, Tryz.ntmps44
    go_wp2_with fail
    refine k1.mono ?_
    rintro e w1 ⟨rfl, rfl⟩
    go_wp2_with fail
    refine k2.mono ?_
    rintro e w1 ⟨rfl, rfl⟩
    go_wp2_with fail
    go_ret
    exact ⟨rfl, rfl⟩
  by_cases h7 : op = 7
  · subst h7
    rw [operI_7 ha hb]
    clear ha hb
    go_enter Tryz.func44, Tryz.ntmps44
    go_wp2_with fail
    refine k1.mono ?_
    rintro e w1 ⟨rfl, rfl⟩
    go_wp2_with fail
    refine k2.mono ?_
    rintro e w1 ⟨rfl, rfl⟩
    go_wp2_with fail
    go_ret
    exact ⟨rfl, rfl⟩
  by_cases h8 : op = 8
  · subst h8
    rw [operI_8 ha hb]
    clear ha hb
    go_enter Tryz.func44, Tryz.ntmps44
    go_wp2_with fail
    refine k1.mono ?_
    rintro e w1 ⟨rfl, rfl⟩
    go_wp2_with fail
    refine k2.mono ?_
    rintro e w1 ⟨rfl, rfl⟩
    go_wp2_with fail
    refine (spec_l12If _ _).mono ?_
    rintro e w1 ⟨rfl, rfl⟩
    go_wp2_with fail
    all_goals go_ret
    all_goals exact ⟨rfl, rfl⟩
  by_cases h9 : op = 9
  · subst h9
    rw [operI_9 ha hb]
    clear ha hb
    go_enter Tryz.func44, Tryz.ntmps44
    go_wp2_with fail
    refine k1.mono ?_
    rintro e w1 ⟨rfl, rfl⟩
    go_wp2_with fail
    refine k2.mono ?_
    rintro e w1 ⟨rfl, rfl⟩
    go_wp2_with fail
    refine (spec_l12If _ _).mono ?_
    rintro e w1 ⟨rfl, rfl⟩
    go_wp2_with fail
    all_goals go_ret
    all_goals exact ⟨rfl, rfl⟩
  rw [operI_else (by omega)]
  have e3 : (op == 3) = false := beq_eq_false_iff_ne.2 h3
  have e4 : (op == 4) = false := beq_eq_false_iff_ne.2 h4
  have e5 : (op == 5) = false := beq_eq_false_iff_ne.2 h5
  have e6 : (op == 6) = false := beq_eq_false_iff_ne.2 h6
  have e7 : (op == 7) = false := beq_eq_false_iff_ne.2 h7
  have e8 : (op == 8) = false := beq_eq_false_iff_ne.2 h8
  have e9 : (op == 9) = false := beq_eq_false_iff_ne.2 h9
  clear ha hb
  go_enter Tryz.func44, Tryz.ntmps44
  go_wp2_with fail
  refine k1.mono ?_
  rintro e w1 ⟨rfl, rfl⟩
  go_wp2_with fail
  refine k2.mono ?_
  rintro e w1 ⟨rfl, rfl⟩
  go_wp2_with fail
  go_ret
  exact ⟨rfl, rfl⟩
end Go.Proofs.YtjfmcdfgccdmpaaGreat

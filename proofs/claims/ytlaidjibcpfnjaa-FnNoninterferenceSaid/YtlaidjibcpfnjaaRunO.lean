/- Interpretation: the operations, the program's and the model's; the first state. No condition. -/
import Derived.Test.YtlaidjibcpfnjaaProg
import Derived.Test.YtlaidjibcpfnjaaRunB
import Derived.Test.YtlaidjibcpfnjaaSState
import Derived.Laws.EntriesVeiled
namespace Go.Proofs.Ytlaidjibcpfnjaa
open Go Go.RowKit
theorem four_mul {a b : Int} (ha : 0 ≤ a ∧ a ≤ 15) (hb : 0 ≤ b ∧ b ≤ 15) : 0 ≤ a * b ∧ a * b ≤ 225 := by
  refine ⟨Int.mul_nonneg ha.1 hb.1, ?_⟩
  have h1 : a * b ≤ 15 * b := Int.mul_le_mul_of_nonneg_right ha.2 hb.1
  omega
theorem operI_3 {a b : Int} (ha : 0 ≤ a ∧ a ≤ 15) (hb : 0 ≤ b ∧ b ≤ 15) : operI 3 a b = bits .and .i64 (a + b) 15 := by rw [operI_in ha hb]; rfl
theorem operI_4 {a b : Int} (ha : 0 ≤ a ∧ a ≤ 15) (hb : 0 ≤ b ∧ b ≤ 15) : operI 4 a b = bits .and .i64 (a - b) 15 := by rw [operI_in ha hb]; rfl
theorem operI_5 {a b : Int} (ha : 0 ≤ a ∧ a ≤ 15) (hb : 0 ≤ b ∧ b ≤ 15) : operI 5 a b = bits .and .i64 (a * b) 15 := by rw [operI_in ha hb]; rfl
theorem operI_6 {a b : Int} (ha : 0 ≤ a ∧ a ≤ 15) (hb : 0 ≤ b ∧ b ≤ 15) : operI 6 a b = bits .and .i64 a b := by rw [operI_in ha hb]; rfl
theorem operI_7 {a b : Int} (ha : 0 ≤ a ∧ a ≤ 15) (hb : 0 ≤ b ∧ b ≤ 15) : operI 7 a b = bits .xor .i64 a b := by rw [operI_in ha hb]; rfl
theorem operI_8 {a b : Int} (ha : 0 ≤ a ∧ a ≤ 15) (hb : 0 ≤ b ∧ b ≤ 15) : operI 8 a b = (if a < b then 1 else 0) := by rw [operI_in ha hb]; rfl
theorem operI_9 {a b : Int} (ha : 0 ≤ a ∧ a ≤ 15) (hb : 0 ≤ b ∧ b ≤ 15) : operI 9 a b = (if a = b then 1 else 0) := by rw [operI_in ha hb]; rfl
theorem operI_else {op a b : Int} (h : ¬ (3 ≤ op ∧ op ≤ 9)) : operI op a b = -1 := by
  unfold operI
  split
  · rw [if_neg (by omega), if_neg (by omega), if_neg (by omega), if_neg (by omega), if_neg (by omega), if_neg (by omega), if_neg (by omega)]
  · rfl
theorem operI_out {op a b : Int} (h : ¬ (in4 a ∧ in4 b)) : operI op a b = -1 := if_neg h
theorem spec_l12If (b : Bool) (w : World) : Calls Try.prog 78 #[.bool b] w fun e w' => e = .returned (.int .i64 (if b = true then 1 else 0)) ∧ w = w' := by
  cases b
  · go_enter Try.func78, Try.ntmps78
    go_wp2_with fail
    go_ret
    exact ⟨rfl, rfl⟩
  · go_enter Try.func78, Try.ntmps78
    go_wp2_with fail
    go_ret
    exact ⟨rfl, rfl⟩
theorem impl_truth (b : Bool) (w : World) : Calls Try.prog 95 #[.bool b] w fun e w' => e = .returned (.int .i64 (if b = true then 1 else 0)) ∧ w = w' := by
  cases b
  · go_enter Try.func95, Try.ntmps95
    go_wp2_with fail
    go_ret
    exact ⟨rfl, rfl⟩
  · go_enter Try.func95, Try.ntmps95
    go_wp2_with fail
    go_ret
    exact ⟨rfl, rfl⟩
theorem impl_lowBits (n : Int) (w : World) : Calls Try.prog 89 #[.int .i64 n] w fun e w' => e = .returned (.int .i64 (bits .and .i64 n 15)) ∧ w = w' := by
  go_enter Try.func89, Try.ntmps89
  go_wp2_with fail
  go_ret
  exact ⟨rfl, rfl⟩
theorem if_dec (p : Prop) [Decidable p] : (if decide p = true then (1 : Int) else 0) = if p then 1 else 0 := by
  by_cases h : p <;> simp [h]
theorem spec_Operate (op a b : Int) (w : World) : Calls Try.prog 51 #[.int .i64 op, .int .i64 a, .int .i64 b] w fun e w' => e = .returned (.int .i64 (operI op a b)) ∧ w = w' := by
  by_cases ha : in4 a
  case neg =>
    rw [operI_out (fun h => ha h.1)]
    have k1 := l01In_is a 0 15 false (decide_eq_false ha) w
    clear ha
    go_enter Try.func51, Try.ntmps51
    go_wp2_with fail
    refine k1.mono ?_
    rintro e w1 ⟨rfl, rfl⟩
    go_wp2_with fail
    go_ret
    exact ⟨rfl, rfl⟩
  have k1 := l01In_is a 0 15 true (decide_eq_true ha) w
  by_cases hb : in4 b
  case neg =>
    rw [operI_out (fun h => hb h.2)]
    have k2 := l01In_is b 0 15 false (decide_eq_false hb) w
    clear ha hb
    go_enter Try.func51, Try.ntmps51
    go_wp2_with fail
    refine k1.mono ?_
    rintro e w1 ⟨rfl, rfl⟩
    go_wp2_with fail
    refine k2.mono ?_
    rintro e w1 ⟨rfl, rfl⟩
    go_wp2_with fail
    go_ret
    exact ⟨rfl, rfl⟩
  have k2 := l01In_is b 0 15 true (decide_eq_true hb) w
  have hm := four_mul ha hb
  obtain ⟨m0, m1⟩ := hm
  have a0 : 0 ≤ a := ha.1
  have a1 : a ≤ 15 := ha.2
  have b0 : 0 ≤ b := hb.1
  have b1 : b ≤ 15 := hb.2
  by_cases h3 : op = 3
  · subst h3
    rw [operI_3 ha hb]
    clear ha hb
    go_enter Try.func51, Try.ntmps51
    go_wp2_with fail
    refine k1.mono ?_
    rintro e w1 ⟨rfl, rfl⟩
    go_wp2_with fail
    refine k2.mono ?_
    rintro e w1 ⟨rfl, rfl⟩
    go_wp2_with fail
    go_ret
    exact ⟨rfl, rfl⟩
  by_cases h4 : op = 4
  · subst h4
    rw [operI_4 ha hb]
    clear ha hb
    go_enter Try.func51, Try.ntmps51
    go_wp2_with fail
    refine k1.mono ?_
    rintro e w1 ⟨rfl, rfl⟩
    go_wp2_with fail
    refine k2.mono ?_
    rintro e w1 ⟨rfl, rfl⟩
    go_wp2_with fail
    go_ret
    exact ⟨rfl, rfl⟩
  by_cases h5 : op = 5
  · subst h5
    rw [operI_5 ha hb]
    clear ha hb
    go_enter Try.func51, Try.ntmps51
    go_wp2_with fail
    refine k1.mono ?_
    rintro e w1 ⟨rfl, rfl⟩
    go_wp2_with fail
    refine k2.mono ?_
    rintro e w1 ⟨rfl, rfl⟩
    go_wp2_with fail
    go_ret
    exact ⟨rfl, rfl⟩
  by_cases h6 : op = 6
  · subst h6
    rw [operI_6 ha hb]
    clear ha hb
    go_enter Try.func51, Try.ntmps51
    go_wp2_with fail
    refine k1.mono ?_
    rintro e w1 ⟨rfl, rfl⟩
    go_wp2_with fail
    refine k2.mono ?_
    rintro e w1 ⟨rfl, rfl⟩
    go_wp2_with fail
    go_ret
    exact ⟨rfl, rfl⟩
  by_cases h7 : op = 7
  · subst h7
    rw [operI_7 ha hb]
    clear ha hb
    go_enter Try.func51, Try.ntmps51
    go_wp2_with fail
    refine k1.mono ?_
    rintro e w1 ⟨rfl, rfl⟩
    go_wp2_with fail
    refine k2.mono ?_
    rintro e w1 ⟨rfl, rfl⟩
    go_wp2_with fail
    go_ret
    exact ⟨rfl, rfl⟩
  by_cases h8 : op = 8
  · subst h8
    rw [operI_8 ha hb]
    clear ha hb
    go_enter Try.func51, Try.ntmps51
    go_wp2_with fail
    refine k1.mono ?_
    rintro e w1 ⟨rfl, rfl⟩
    go_wp2_with fail
    refine k2.mono ?_
    rintro e w1 ⟨rfl, rfl⟩
    go_wp2_with fail
    refine (spec_l12If _ _).mono ?_
    rintro e w1 ⟨rfl, rfl⟩
    go_wp2_with fail
    all_goals go_ret
    all_goals exact ⟨rfl, rfl⟩
  by_cases h9 : op = 9
  · subst h9
    rw [operI_9 ha hb]
    clear ha hb
    go_enter Try.func51, Try.ntmps51
    go_wp2_with fail
    refine k1.mono ?_
    rintro e w1 ⟨rfl, rfl⟩
    go_wp2_with fail
    refine k2.mono ?_
    rintro e w1 ⟨rfl, rfl⟩
    go_wp2_with fail
    refine (spec_l12If _ _).mono ?_
    rintro e w1 ⟨rfl, rfl⟩
    go_wp2_with fail
    all_goals go_ret
    all_goals exact ⟨rfl, rfl⟩
  rw [operI_else (by omega)]
  have e3 : (op == 3) = false := beq_eq_false_iff_ne.2 h3
  have e4 : (op == 4) = false := beq_eq_false_iff_ne.2 h4
  have e5 : (op == 5) = false := beq_eq_false_iff_ne.2 h5
  have e6 : (op == 6) = false := beq_eq_false_iff_ne.2 h6
  have e7 : (op == 7) = false := beq_eq_false_iff_ne.2 h7
  have e8 : (op == 8) = false := beq_eq_false_iff_ne.2 h8
  have e9 : (op == 9) = false := beq_eq_false_iff_ne.2 h9
  clear ha hb
  go_enter Try.func51, Try.ntmps51
  go_wp2_with fail
  refine k1.mono ?_
  rintro e w1 ⟨rfl, rfl⟩
  go_wp2_with fail
  refine k2.mono ?_
  rintro e w1 ⟨rfl, rfl⟩
  go_wp2_with fail
  go_ret
  exact ⟨rfl, rfl⟩
theorem two_ints (w : World) (a b : Int) : Ints (w.alloc (.cells #[.int .i64 a, .int .i64 b] 3)) (some ⟨w.heap.size, 0, none⟩) [a, b] := fun _ => by
  refine ⟨w.heap.size, 0, rfl, by simp, fun j hj => ?_⟩
  have h := heap_alloc_new w (.cells #[.int .i64 a, .int .i64 b] 3)
  have hj2 : j = 0 ∨ j = 1 := by simp at hj; omega
  rcases hj2 with rfl | rfl
  · exact (blk (i := 0) h rfl).1
  · exact (blk (i := 1) h rfl).1
theorem all4_two (a b : Int) : all4 [a, b] ↔ in4 a ∧ in4 b := by
  constructor
  · intro h
    exact ⟨h a (by simp), h b (by simp)⟩
  · rintro ⟨ha, hb⟩ z hz
    simp at hz
    rcases hz with rfl | rfl
    · exact ha
    · exact hb
theorem impl_op3 (a b : Int) (ha : 0 ≤ a ∧ a ≤ 15) (hb : 0 ≤ b ∧ b ≤ 15) (w : World) : Calls Try.prog 88 #[.int .i64 a, .int .i64 b] w fun e w' => e = .returned (.int .i64 (bits .and .i64 (a + b) 15)) ∧ w = w' := by
  have hm := four_mul ha hb
  obtain ⟨m0, m1⟩ := hm
  obtain ⟨a0, a1⟩ := ha
  obtain ⟨b0, b1⟩ := hb
  go_enter Try.func88, Try.ntmps88
  go_wp2_with fail
  refine (impl_lowBits _ w).mono ?_
  rintro e w1 ⟨rfl, rfl⟩
  go_wp2_with fail
  all_goals go_ret
  all_goals exact ⟨rfl, rfl⟩
theorem impl_op4 (a b : Int) (ha : 0 ≤ a ∧ a ≤ 15) (hb : 0 ≤ b ∧ b ≤ 15) (w : World) : Calls Try.prog 90 #[.int .i64 a, .int .i64 b] w fun e w' => e = .returned (.int .i64 (bits .and .i64 (a - b) 15)) ∧ w = w' := by
  have hm := four_mul ha hb
  obtain ⟨m0, m1⟩ := hm
  obtain ⟨a0, a1⟩ := ha
  obtain ⟨b0, b1⟩ := hb
  go_enter Try.func90, Try.ntmps90
  go_wp2_with fail
  refine (impl_lowBits _ w).mono ?_
  rintro e w1 ⟨rfl, rfl⟩
  go_wp2_with fail
  all_goals go_ret
  all_goals exact ⟨rfl, rfl⟩
theorem impl_op5 (a b : Int) (ha : 0 ≤ a ∧ a ≤ 15) (hb : 0 ≤ b ∧ b ≤ 15) (w : World) : Calls Try.prog 91 #[.int .i64 a, .int .i64 b] w fun e w' => e = .returned (.int .i64 (bits .and .i64 (a * b) 15)) ∧ w = w' := by
  have hm := four_mul ha hb
  obtain ⟨m0, m1⟩ := hm
  obtain ⟨a0, a1⟩ := ha
  obtain ⟨b0, b1⟩ := hb
  go_enter Try.func91, Try.ntmps91
  go_wp2_with fail
  refine (impl_lowBits _ w).mono ?_
  rintro e w1 ⟨rfl, rfl⟩
  go_wp2_with fail
  all_goals go_ret
  all_goals exact ⟨rfl, rfl⟩
theorem impl_op6 (a b : Int) (ha : 0 ≤ a ∧ a ≤ 15) (hb : 0 ≤ b ∧ b ≤ 15) (w : World) : Calls Try.prog 92 #[.int .i64 a, .int .i64 b] w fun e w' => e = .returned (.int .i64 (bits .and .i64 a b)) ∧ w = w' := by
  have hm := four_mul ha hb
  obtain ⟨m0, m1⟩ := hm
  obtain ⟨a0, a1⟩ := ha
  obtain ⟨b0, b1⟩ := hb
  go_enter Try.func92, Try.ntmps92
  go_wp2_with fail
  all_goals go_ret
  all_goals exact ⟨rfl, rfl⟩
theorem impl_op7 (a b : Int) (ha : 0 ≤ a ∧ a ≤ 15) (hb : 0 ≤ b ∧ b ≤ 15) (w : World) : Calls Try.prog 93 #[.int .i64 a, .int .i64 b] w fun e w' => e = .returned (.int .i64 (bits .xor .i64 a b)) ∧ w = w' := by
  have hm := four_mul ha hb
  obtain ⟨m0, m1⟩ := hm
  obtain ⟨a0, a1⟩ := ha
  obtain ⟨b0, b1⟩ := hb
  go_enter Try.func93, Try.ntmps93
  go_wp2_with fail
  all_goals go_ret
  all_goals exact ⟨rfl, rfl⟩
theorem impl_op8 (a b : Int) (ha : 0 ≤ a ∧ a ≤ 15) (hb : 0 ≤ b ∧ b ≤ 15) (w : World) : Calls Try.prog 94 #[.int .i64 a, .int .i64 b] w fun e w' => e = .returned (.int .i64 ((if a < b then 1 else 0))) ∧ w = w' := by
  have hm := four_mul ha hb
  obtain ⟨m0, m1⟩ := hm
  obtain ⟨a0, a1⟩ := ha
  obtain ⟨b0, b1⟩ := hb
  go_enter Try.func94, Try.ntmps94
  go_wp2_with fail
  refine (impl_truth _ w).mono ?_
  rintro e w1 ⟨rfl, rfl⟩
  go_wp2_with fail
  all_goals go_ret
  all_goals exact ⟨rfl, rfl⟩
theorem impl_op9 (a b : Int) (ha : 0 ≤ a ∧ a ≤ 15) (hb : 0 ≤ b ∧ b ≤ 15) (w : World) : Calls Try.prog 96 #[.int .i64 a, .int .i64 b] w fun e w' => e = .returned (.int .i64 ((if a = b then 1 else 0))) ∧ w = w' := by
  have hm := four_mul ha hb
  obtain ⟨m0, m1⟩ := hm
  obtain ⟨a0, a1⟩ := ha
  obtain ⟨b0, b1⟩ := hb
  go_enter Try.func96, Try.ntmps96
  go_wp2_with fail
  refine (impl_truth _ w).mono ?_
  rintro e w1 ⟨rfl, rfl⟩
  go_wp2_with fail
  all_goals go_ret
  all_goals exact ⟨rfl, rfl⟩
theorem impl_operations (w : World) : Calls Try.prog 63 #[] w fun e w' => e = .returned (.agg #[.nilFunc, .nilFunc, .nilFunc, .func (.func 88) #[] #[], .func (.func 90) #[] #[], .func (.func 91) #[] #[], .func (.func 92) #[] #[], .func (.func 93) #[] #[], .func (.func 94) #[] #[], .func (.func 96) #[] #[]]) ∧ Below w.heap.size w w' := by
  go_enter Try.func63, Try.ntmps63
  go_wp2_with fail
  refine bodyPost_ret (results_cell_row (P := Try.prog) rfl _ _ w.heap.size 87 _ (0, 0) _ rfl (heap_alloc_new w _) Try.underlying87 rfl (by kernel_rfl)) rfl ?_
  exact ⟨rfl, below_alloc w _⟩
theorem ops_at3 (w : World) : (Instr.index 87 (.agg #[.nilFunc, .nilFunc, .nilFunc, .func (.func 88) #[] #[], .func (.func 90) #[] #[], .func (.func 91) #[] #[], .func (.func 92) #[] #[], .func (.func 93) #[] #[], .func (.func 94) #[] #[], .func (.func 96) #[] #[]]) (.int .i64 3)).run Try.prog w = .ok (.func (.func 88) #[] #[]) w := by kernel_rfl
theorem ops_at4 (w : World) : (Instr.index 87 (.agg #[.nilFunc, .nilFunc, .nilFunc, .func (.func 88) #[] #[], .func (.func 90) #[] #[], .func (.func 91) #[] #[], .func (.func 92) #[] #[], .func (.func 93) #[] #[], .func (.func 94) #[] #[], .func (.func 96) #[] #[]]) (.int .i64 4)).run Try.prog w = .ok (.func (.func 90) #[] #[]) w := by kernel_rfl
theorem ops_at5 (w : World) : (Instr.index 87 (.agg #[.nilFunc, .nilFunc, .nilFunc, .func (.func 88) #[] #[], .func (.func 90) #[] #[], .func (.func 91) #[] #[], .func (.func 92) #[] #[], .func (.func 93) #[] #[], .func (.func 94) #[] #[], .func (.func 96) #[] #[]]) (.int .i64 5)).run Try.prog w = .ok (.func (.func 91) #[] #[]) w := by kernel_rfl
theorem ops_at6 (w : World) : (Instr.index 87 (.agg #[.nilFunc, .nilFunc, .nilFunc, .func (.func 88) #[] #[], .func (.func 90) #[] #[], .func (.func 91) #[] #[], .func (.func 92) #[] #[], .func (.func 93) #[] #[], .func (.func 94) #[] #[], .func (.func 96) #[] #[]]) (.int .i64 6)).run Try.prog w = .ok (.func (.func 92) #[] #[]) w := by kernel_rfl
theorem ops_at7 (w : World) : (Instr.index 87 (.agg #[.nilFunc, .nilFunc, .nilFunc, .func (.func 88) #[] #[], .func (.func 90) #[] #[], .func (.func 91) #[] #[], .func (.func 92) #[] #[], .func (.func 93) #[] #[], .func (.func 94) #[] #[], .func (.func 96) #[] #[]]) (.int .i64 7)).run Try.prog w = .ok (.func (.func 93) #[] #[]) w := by kernel_rfl
theorem ops_at8 (w : World) : (Instr.index 87 (.agg #[.nilFunc, .nilFunc, .nilFunc, .func (.func 88) #[] #[], .func (.func 90) #[] #[], .func (.func 91) #[] #[], .func (.func 92) #[] #[], .func (.func 93) #[] #[], .func (.func 94) #[] #[], .func (.func 96) #[] #[]]) (.int .i64 8)).run Try.prog w = .ok (.func (.func 94) #[] #[]) w := by kernel_rfl
theorem ops_at9 (w : World) : (Instr.index 87 (.agg #[.nilFunc, .nilFunc, .nilFunc, .func (.func 88) #[] #[], .func (.func 90) #[] #[], .func (.func 91) #[] #[], .func (.func 92) #[] #[], .func (.func 93) #[] #[], .func (.func 94) #[] #[], .func (.func 96) #[] #[]]) (.int .i64 9)).run Try.prog w = .ok (.func (.func 96) #[] #[]) w := by kernel_rfl

set_option maxRecDepth 100000 in
theorem impl_Operate_3 (a b : Int) (ha : 0 ≤ a ∧ a ≤ 15) (hb : 0 ≤ b ∧ b ≤ 15) (w : World) : Calls Try.prog 20 #[.int .i64 3, .int .i64 a, .int .i64 b] w (Post_int (operI 3 a b) w) := by
  have cR := impl_inRange 3 3 9 (by omega) w
  rw [decide_eq_true (show (3 : Int) ≤ 3 ∧ (3 : Int) ≤ 9 by omega)] at cR
  have low := below_alloc w (.cells #[.int .i64 a, .int .i64 b] 3)
  have k1 := impl_allRegValues (some ⟨w.heap.size, 0, none⟩) 2 2 [a, b] true (decide_eq_true ((all4_two a b).2 ⟨ha, hb⟩)) _ (two_ints w a b) rfl (by omega)
  have k3 := impl_op3 a b ha hb
  have k4 := ops_at3
  rw [← operI_3 ha hb] at k3
  generalize operI 3 a b = z at *
  go_enter Try.func20, Try.ntmps20
  go_wp2_with fail
  refine cR.mono ?_
  rintro e w1 ⟨rfl, rfl⟩
  go_wp2_with fail
  refine k1.mono ?_
  rintro e w1 ⟨rfl, rfl⟩
  go_wp2_with fail
  refine (impl_operations _).mono ?_
  rintro e w2 ⟨rfl, hb2⟩
  replace low := low.trans (hb2.mono low.size)
  clear hb2
  go_wp2_with fail
  refine (k3 w2).mono ?_
  rintro e w3 ⟨rfl, rfl⟩
  go_wp2_with fail
  go_ret
  exact ⟨rfl, low⟩
set_option maxRecDepth 100000 in
theorem impl_Operate_4 (a b : Int) (ha : 0 ≤ a ∧ a ≤ 15) (hb : 0 ≤ b ∧ b ≤ 15) (w : World) : Calls Try.prog 20 #[.int .i64 4, .int .i64 a, .int .i64 b] w (Post_int (operI 4 a b) w) := by
  have cR := impl_inRange 4 3 9 (by omega) w
  rw [decide_eq_true (show (3 : Int) ≤ 4 ∧ (4 : Int) ≤ 9 by omega)] at cR
  have low := below_alloc w (.cells #[.int .i64 a, .int .i64 b] 3)
  have k1 := impl_allRegValues (some ⟨w.heap.size, 0, none⟩) 2 2 [a, b] true (decide_eq_true ((all4_two a b).2 ⟨ha, hb⟩)) _ (two_ints w a b) rfl (by omega)
  have k3 := impl_op4 a b ha hb
  have k4 := ops_at4
  rw [← operI_4 ha hb] at k3
  generalize operI 4 a b = z at *
  go_enter Try.func20, Try.ntmps20
  go_wp2_with fail
  refine cR.mono ?_
  rintro e w1 ⟨rfl, rfl⟩
  go_wp2_with fail
  refine k1.mono ?_
  rintro e w1 ⟨rfl, rfl⟩
  go_wp2_with fail
  refine (impl_operations _).mono ?_
  rintro e w2 ⟨rfl, hb2⟩
  replace low := low.trans (hb2.mono low.size)
  clear hb2
  go_wp2_with fail
  refine (k3 w2).mono ?_
  rintro e w3 ⟨rfl, rfl⟩
  go_wp2_with fail
  go_ret
  exact ⟨rfl, low⟩
set_option maxRecDepth 100000 in
theorem impl_Operate_5 (a b : Int) (ha : 0 ≤ a ∧ a ≤ 15) (hb : 0 ≤ b ∧ b ≤ 15) (w : World) : Calls Try.prog 20 #[.int .i64 5, .int .i64 a, .int .i64 b] w (Post_int (operI 5 a b) w) := by
  have cR := impl_inRange 5 3 9 (by omega) w
  rw [decide_eq_true (show (3 : Int) ≤ 5 ∧ (5 : Int) ≤ 9 by omega)] at cR
  have low := below_alloc w (.cells #[.int .i64 a, .int .i64 b] 3)
  have k1 := impl_allRegValues (some ⟨w.heap.size, 0, none⟩) 2 2 [a, b] true (decide_eq_true ((all4_two a b).2 ⟨ha, hb⟩)) _ (two_ints w a b) rfl (by omega)
  have k3 := impl_op5 a b ha hb
  have k4 := ops_at5
  rw [← operI_5 ha hb] at k3
  generalize operI 5 a b = z at *
  go_enter Try.func20, Try.ntmps20
  go_wp2_with fail
  refine cR.mono ?_
  rintro e w1 ⟨rfl, rfl⟩
  go_wp2_with fail
  refine k1.mono ?_
  rintro e w1 ⟨rfl, rfl⟩
  go_wp2_with fail
  refine (impl_operations _).mono ?_
  rintro e w2 ⟨rfl, hb2⟩
  replace low := low.trans (hb2.mono low.size)
  clear hb2
  go_wp2_with fail
  refine (k3 w2).mono ?_
  rintro e w3 ⟨rfl, rfl⟩
  go_wp2_with fail
  go_ret
  exact ⟨rfl, low⟩
set_option maxRecDepth 100000 in
theorem impl_Operate_6 (a b : Int) (ha : 0 ≤ a ∧ a ≤ 15) (hb : 0 ≤ b ∧ b ≤ 15) (w : World) : Calls Try.prog 20 #[.int .i64 6, .int .i64 a, .int .i64 b] w (Post_int (operI 6 a b) w) := by
  have cR := impl_inRange 6 3 9 (by omega) w
  rw [decide_eq_true (show (3 : Int) ≤ 6 ∧ (6 : Int) ≤ 9 by omega)] at cR
  have low := below_alloc w (.cells #[.int .i64 a, .int .i64 b] 3)
  have k1 := impl_allRegValues (some ⟨w.heap.size, 0, none⟩) 2 2 [a, b] true (decide_eq_true ((all4_two a b).2 ⟨ha, hb⟩)) _ (two_ints w a b) rfl (by omega)
  have k3 := impl_op6 a b ha hb
  have k4 := ops_at6
  rw [← operI_6 ha hb] at k3
  generalize operI 6 a b = z at *
  go_enter Try.func20, Try.ntmps20
  go_wp2_with fail
  refine cR.mono ?_
  rintro e w1 ⟨rfl, rfl⟩
  go_wp2_with fail
  refine k1.mono ?_
  rintro e w1 ⟨rfl, rfl⟩
  go_wp2_with fail
  refine (impl_operations _).mono ?_
  rintro e w2 ⟨rfl, hb2⟩
  replace low := low.trans (hb2.mono low.size)
  clear hb2
  go_wp2_with fail
  refine (k3 w2).mono ?_
  rintro e w3 ⟨rfl, rfl⟩
  go_wp2_with fail
  go_ret
  exact ⟨rfl, low⟩
set_option maxRecDepth 100000 in
theorem impl_Operate_7 (a b : Int) (ha : 0 ≤ a ∧ a ≤ 15) (hb : 0 ≤ b ∧ b ≤ 15) (w : World) : Calls Try.prog 20 #[.int .i64 7, .int .i64 a, .int .i64 b] w (Post_int (operI 7 a b) w) := by
  have cR := impl_inRange 7 3 9 (by omega) w
  rw [decide_eq_true (show (3 : Int) ≤ 7 ∧ (7 : Int) ≤ 9 by omega)] at cR
  have low := below_alloc w (.cells #[.int .i64 a, .int .i64 b] 3)
  have k1 := impl_allRegValues (some ⟨w.heap.size, 0, none⟩) 2 2 [a, b] true (decide_eq_true ((all4_two a b).2 ⟨ha, hb⟩)) _ (two_ints w a b) rfl (by omega)
  have k3 := impl_op7 a b ha hb
  have k4 := ops_at7
  rw [← operI_7 ha hb] at k3
  generalize operI 7 a b = z at *
  go_enter Try.func20, Try.ntmps20
  go_wp2_with fail
  refine cR.mono ?_
  rintro e w1 ⟨rfl, rfl⟩
  go_wp2_with fail
  refine k1.mono ?_
  rintro e w1 ⟨rfl, rfl⟩
  go_wp2_with fail
  refine (impl_operations _).mono ?_
  rintro e w2 ⟨rfl, hb2⟩
  replace low := low.trans (hb2.mono low.size)
  clear hb2
  go_wp2_with fail
  refine (k3 w2).mono ?_
  rintro e w3 ⟨rfl, rfl⟩
  go_wp2_with fail
  go_ret
  exact ⟨rfl, low⟩
set_option maxRecDepth 100000 in
theorem impl_Operate_8 (a b : Int) (ha : 0 ≤ a ∧ a ≤ 15) (hb : 0 ≤ b ∧ b ≤ 15) (w : World) : Calls Try.prog 20 #[.int .i64 8, .int .i64 a, .int .i64 b] w (Post_int (operI 8 a b) w) := by
  have cR := impl_inRange 8 3 9 (by omega) w
  rw [decide_eq_true (show (3 : Int) ≤ 8 ∧ (8 : Int) ≤ 9 by omega)] at cR
  have low := below_alloc w (.cells #[.int .i64 a, .int .i64 b] 3)
  have k1 := impl_allRegValues (some ⟨w.heap.size, 0, none⟩) 2 2 [a, b] true (decide_eq_true ((all4_two a b).2 ⟨ha, hb⟩)) _ (two_ints w a b) rfl (by omega)
  have k3 := impl_op8 a b ha hb
  have k4 := ops_at8
  rw [← operI_8 ha hb] at k3
  generalize operI 8 a b = z at *
  go_enter Try.func20, Try.ntmps20
  go_wp2_with fail
  refine cR.mono ?_
  rintro e w1 ⟨rfl, rfl⟩
  go_wp2_with fail
  refine k1.mono ?_
  rintro e w1 ⟨rfl, rfl⟩
  go_wp2_with fail
  refine (impl_operations _).mono ?_
  rintro e w2 ⟨rfl, hb2⟩
  replace low := low.trans (hb2.mono low.size)
  clear hb2
  go_wp2_with fail
  refine (k3 w2).mono ?_
  rintro e w3 ⟨rfl, rfl⟩
  go_wp2_with fail
  go_ret
  exact ⟨rfl, low⟩
set_option maxRecDepth 100000 in
theorem impl_Operate_9 (a b : Int) (ha : 0 ≤ a ∧ a ≤ 15) (hb : 0 ≤ b ∧ b ≤ 15) (w : World) : Calls Try.prog 20 #[.int .i64 9, .int .i64 a, .int .i64 b] w (Post_int (operI 9 a b) w) := by
  have cR := impl_inRange 9 3 9 (by omega) w
  rw [decide_eq_true (show (3 : Int) ≤ 9 ∧ (9 : Int) ≤ 9 by omega)] at cR
  have low := below_alloc w (.cells #[.int .i64 a, .int .i64 b] 3)
  have k1 := impl_allRegValues (some ⟨w.heap.size, 0, none⟩) 2 2 [a, b] true (decide_eq_true ((all4_two a b).2 ⟨ha, hb⟩)) _ (two_ints w a b) rfl (by omega)
  have k3 := impl_op9 a b ha hb
  have k4 := ops_at9
  rw [← operI_9 ha hb] at k3
  generalize operI 9 a b = z at *
  go_enter Try.func20, Try.ntmps20
  go_wp2_with fail
  refine cR.mono ?_
  rintro e w1 ⟨rfl, rfl⟩
  go_wp2_with fail
  refine k1.mono ?_
  rintro e w1 ⟨rfl, rfl⟩
  go_wp2_with fail
  refine (impl_operations _).mono ?_
  rintro e w2 ⟨rfl, hb2⟩
  replace low := low.trans (hb2.mono low.size)
  clear hb2
  go_wp2_with fail
  refine (k3 w2).mono ?_
  rintro e w3 ⟨rfl, rfl⟩
  go_wp2_with fail
  go_ret
  exact ⟨rfl, low⟩
theorem impl_Operate (op a b : Int) (w : World) : Calls Try.prog 20 #[.int .i64 op, .int .i64 a, .int .i64 b] w (Post_int (operI op a b) w) := by
  by_cases ho : 3 ≤ op ∧ op ≤ 9
  case neg =>
    have cR := impl_inRange op 3 9 (by omega) w
    rw [operI_else ho]
    rw [decide_eq_false ho] at cR
    clear ho
    go_enter Try.func20, Try.ntmps20
    go_wp2_with fail
    refine cR.mono ?_
    rintro e w1 ⟨rfl, rfl⟩
    go_wp2_with fail
    go_ret
    exact ⟨rfl, Below.refl _ _⟩
  by_cases hab : in4 a ∧ in4 b
  case neg =>
    have cR := impl_inRange op 3 9 (by omega) w
    rw [decide_eq_true ho] at cR
    rw [operI_out hab]
    have low := below_alloc w (.cells #[.int .i64 a, .int .i64 b] 3)
    have k1 := impl_allRegValues (some ⟨w.heap.size, 0, none⟩) 2 2 [a, b] false (decide_eq_false (fun h => hab ((all4_two a b).1 h))) _ (two_ints w a b) rfl (by omega)
    clear ho hab
    go_enter Try.func20, Try.ntmps20
    go_wp2_with fail
    refine cR.mono ?_
    rintro e w1 ⟨rfl, rfl⟩
    go_wp2_with fail
    refine k1.mono ?_
    rintro e w1 ⟨rfl, rfl⟩
    go_wp2_with fail
    go_ret
    exact ⟨rfl, low⟩
  obtain ⟨ha, hb⟩ := hab
  have h7 : op = 3 ∨ op = 4 ∨ op = 5 ∨ op = 6 ∨ op = 7 ∨ op = 8 ∨ op = 9 := by omega
  rcases h7 with rfl | rfl | rfl | rfl | rfl | rfl | rfl
  · exact impl_Operate_3 a b ha hb w
  · exact impl_Operate_4 a b ha hb w
  · exact impl_Operate_5 a b ha hb w
  · exact impl_Operate_6 a b ha hb w
  · exact impl_Operate_7 a b ha hb w
  · exact impl_Operate_8 a b ha hb w
  · exact impl_Operate_9 a b ha hb w
end Go.Proofs.Ytlaidjibcpfnjaa

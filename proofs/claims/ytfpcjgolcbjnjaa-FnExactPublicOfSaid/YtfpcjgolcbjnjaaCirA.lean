/- Boolean circuits: GateOk, the program's and the model's. No condition. -/
import Derived.Test.YtfpcjgolcbjnjaaProg
import Derived.Test.YtfpcjgolcbjnjaaCirM
import Derived.Test.YtfpcjgolcbjnjaaRng
import Derived.Test.YtfpcjgolcbjnjaaB1
namespace Go.Proofs.Ytfpcjgolcbjnjaa
open Go Go.RowKit
theorem g_1 {a b n : Int} : gateOk 1 a b n ↔ (0 ≤ a ∧ a ≤ 79) ∧ b = 0 := by unfold gateOk; omega
theorem g_2 {a b n : Int} : gateOk 2 a b n ↔ (0 ≤ a ∧ a ≤ 1) ∧ b = 0 := by unfold gateOk; omega
theorem g_3 {a b n : Int} : gateOk 3 a b n ↔ (0 ≤ a ∧ a < n) ∧ (0 ≤ b ∧ b < n) := by unfold gateOk; omega
theorem g_4 {a b n : Int} : gateOk 4 a b n ↔ (0 ≤ a ∧ a < n) ∧ (0 ≤ b ∧ b < n) := by unfold gateOk; omega
theorem g_5 {a b n : Int} : gateOk 5 a b n ↔ (0 ≤ a ∧ a < n) ∧ b = 0 := by unfold gateOk; omega
theorem g_no {k a b n : Int} (h1 : ¬ k = 1) (h2 : ¬ k = 2) (h3 : ¬ k = 3) (h4 : ¬ k = 4) (h5 : ¬ k = 5) : decide (gateOk k a b n) = false := decide_eq_false (by unfold gateOk; omega)
theorem impl_isWire (a n : Int) (r : Bool) (hr : decide (0 ≤ a ∧ a < n) = r) (w : World) :
    Calls Try.prog 82 #[.int .i64 a, .int .i64 n] w fun e w' => e = .returned (.bool r) ∧ w = w' := by
  subst hr
  go_enter Try.func82, Try.ntmps82
  go_wp2
  all_goals go_ret
  all_goals exact ⟨ret_bool (by simp; omega), rfl⟩
theorem impl_notBit (a : Int) (r : Bool) (hr : decide (isBit a) = r) (w : World) :
    Calls Try.prog 54 #[.int .i64 a] w fun e w' => e = .returned (.bool (!r)) ∧ w = w' := by
  have cR := impl_inRange a 0 1 (by omega)
  rw [show decide (0 ≤ a ∧ a ≤ 1) = r from hr] at cR
  clear hr
  go_enter Try.func54, Try.ntmps54
  go_wp2_with fail
  refine (cR w).mono ?_
  rintro e w1 ⟨rfl, rfl⟩
  go_wp2_with fail
  go_ret
  exact ⟨rfl, rfl⟩
set_option maxRecDepth 100000 in
set_option maxHeartbeats 1000000 in
theorem impl_GateOk (k a b n : Int) (r : Bool) (hr : decide (gateOk k a b n) = r) (w : World) :
    Calls Try.prog 81 #[.agg #[.int .i64 k, .int .i64 a, .int .i64 b], .int .i64 n] w fun e w' => e = .returned (.bool r) ∧ Below w.heap.size w w' := by
  have low := below_alloc w (.cells #[.int .i64 k, .int .i64 a, .int .i64 b] 86)
  by_cases h1 : k = 1
  case pos =>
    subst h1
    by_cases ha : 0 ≤ a
    case neg =>
      obtain rfl : r = false := hr.symm.trans (decide_eq_false (by rw [g_1]; omega))
      have c1 := impl_inRange a 0 79 (by omega)
      rw [show decide (0 ≤ a ∧ a ≤ 79) = false from decide_eq_false (by omega)] at c1
      clear hr
      clear ha
      go_enter Try.func81, Try.ntmps81
      go_wp2_with fail
      refine (c1 _).mono ?_
      rintro e w1 ⟨rfl, rfl⟩
      go_wp2_with fail
      go_ret
      exact ⟨by first | rfl | simp, low⟩
    by_cases hb : a ≤ 79
    case neg =>
      obtain rfl : r = false := hr.symm.trans (decide_eq_false (by rw [g_1]; omega))
      have c1 := impl_inRange a 0 79 (by omega)
      rw [show decide (0 ≤ a ∧ a ≤ 79) = false from decide_eq_false (by omega)] at c1
      clear hr
      clear ha hb
      go_enter Try.func81, Try.ntmps81
      go_wp2_with fail
      refine (c1 _).mono ?_
      rintro e w1 ⟨rfl, rfl⟩
      go_wp2_with fail
      go_ret
      exact ⟨by first | rfl | simp, low⟩
    by_cases hc : b = 0
    case neg =>
      obtain rfl : r = false := hr.symm.trans (decide_eq_false (by rw [g_1]; omega))
      have c1 := impl_inRange a 0 79 (by omega)
      rw [show decide (0 ≤ a ∧ a ≤ 79) = true from decide_eq_true (by omega)] at c1
      have hb0 : (b == 0) = false := beq_eq_false_iff_ne.2 hc
      clear hr
      clear ha hb
      go_enter Try.func81, Try.ntmps81
      go_wp2_with fail
      refine (c1 _).mono ?_
      rintro e w1 ⟨rfl, rfl⟩
      go_wp2_with fail
      go_ret
      exact ⟨by first | rfl | simp, low⟩
    obtain rfl : r = true := hr.symm.trans (decide_eq_true (by rw [g_1]; omega))
    have c1 := impl_inRange a 0 79 (by omega)
    rw [show decide (0 ≤ a ∧ a ≤ 79) = true from decide_eq_true (by omega)] at c1
    subst hc
    clear hr
    clear ha hb
    go_enter Try.func81, Try.ntmps81
    go_wp2_with fail
    refine (c1 _).mono ?_
    rintro e w1 ⟨rfl, rfl⟩
    go_wp2_with fail
    go_ret
    exact ⟨by first | rfl | simp, low⟩
  by_cases h2 : k = 2
  case pos =>
    subst h2
    by_cases ha : 0 ≤ a
    case neg =>
      obtain rfl : r = false := hr.symm.trans (decide_eq_false (by rw [g_2]; omega))
      have c1 := impl_notBit a false (decide_eq_false (show ¬ isBit a from by unfold isBit; omega))
      clear hr
      clear ha
      go_enter Try.func81, Try.ntmps81
      go_wp2_with fail
      refine (c1 _).mono ?_
      rintro e w1 ⟨rfl, rfl⟩
      go_wp2_with fail
      go_ret
      exact ⟨by first | rfl | simp, low⟩
    by_cases hb : a ≤ 1
    case neg =>
      obtain rfl : r = false := hr.symm.trans (decide_eq_false (by rw [g_2]; omega))
      have c1 := impl_notBit a false (decide_eq_false (show ¬ isBit a from by unfold isBit; omega))
      clear hr
      clear ha hb
      go_enter Try.func81, Try.ntmps81
      go_wp2_with fail
      refine (c1 _).mono ?_
      rintro e w1 ⟨rfl, rfl⟩
      go_wp2_with fail
      go_ret
      exact ⟨by first | rfl | simp, low⟩
    by_cases hc : b = 0
    case neg =>
      obtain rfl : r = false := hr.symm.trans (decide_eq_false (by rw [g_2]; omega))
      have c1 := impl_notBit a true (decide_eq_true (show isBit a from by unfold isBit; omega))
      have hb0 : (b == 0) = false := beq_eq_false_iff_ne.2 hc
      clear hr
      clear ha hb
      go_enter Try.func81, Try.ntmps81
      go_wp2_with fail
      refine (c1 _).mono ?_
      rintro e w1 ⟨rfl, rfl⟩
      go_wp2_with fail
      go_ret
      exact ⟨by first | rfl | simp, low⟩
    obtain rfl : r = true := hr.symm.trans (decide_eq_true (by rw [g_2]; omega))
    have c1 := impl_notBit a true (decide_eq_true (show isBit a from by unfold isBit; omega))
    subst hc
    clear hr
    clear ha hb
    go_enter Try.func81, Try.ntmps81
    go_wp2_with fail
    refine (c1 _).mono ?_
    rintro e w1 ⟨rfl, rfl⟩
    go_wp2_with fail
    go_ret
    exact ⟨by first | rfl | simp, low⟩
  by_cases h3 : k = 3
  case pos =>
    subst h3
    by_cases ha : 0 ≤ a
    case neg =>
      obtain rfl : r = false := hr.symm.trans (decide_eq_false (by rw [g_3]; omega))
      have c1 := impl_isWire a n false (decide_eq_false (by omega))
      clear hr
      clear ha
      go_enter Try.func81, Try.ntmps81
      go_wp2_with fail
      refine (c1 _).mono ?_
      rintro e w1 ⟨rfl, rfl⟩
      go_wp2_with fail
      go_ret
      exact ⟨by first | rfl | simp, low⟩
    by_cases hb : a < n
    case neg =>
      obtain rfl : r = false := hr.symm.trans (decide_eq_false (by rw [g_3]; omega))
      have c1 := impl_isWire a n false (decide_eq_false (by omega))
      clear hr
      clear ha hb
      go_enter Try.func81, Try.ntmps81
      go_wp2_with fail
      refine (c1 _).mono ?_
      rintro e w1 ⟨rfl, rfl⟩
      go_wp2_with fail
      go_ret
      exact ⟨by first | rfl | simp, low⟩
    by_cases hc : 0 ≤ b
    case neg =>
      obtain rfl : r = false := hr.symm.trans (decide_eq_false (by rw [g_3]; omega))
      have c1 := impl_isWire a n true (decide_eq_true (by omega))
      have c2 := impl_isWire b n false (decide_eq_false (by omega))
      clear hr
      clear ha hb hc
      go_enter Try.func81, Try.ntmps81
      go_wp2_with fail
      refine (c1 _).mono ?_
      rintro e w1 ⟨rfl, rfl⟩
      go_wp2_with fail
      refine (c2 _).mono ?_
      rintro e w1 ⟨rfl, rfl⟩
      go_wp2_with fail
      go_ret
      exact ⟨by first | rfl | simp, low⟩
    by_cases hd : b < n
    case neg =>
      obtain rfl : r = false := hr.symm.trans (decide_eq_false (by rw [g_3]; omega))
      have c1 := impl_isWire a n true (decide_eq_true (by omega))
      have c2 := impl_isWire b n false (decide_eq_false (by omega))
      clear hr
      clear ha hb hc hd
      go_enter Try.func81, Try.ntmps81
      go_wp2_with fail
      refine (c1 _).mono ?_
      rintro e w1 ⟨rfl, rfl⟩
      go_wp2_with fail
      refine (c2 _).mono ?_
      rintro e w1 ⟨rfl, rfl⟩
      go_wp2_with fail
      go_ret
      exact ⟨by first | rfl | simp, low⟩
    obtain rfl : r = true := hr.symm.trans (decide_eq_true (by rw [g_3]; omega))
    have c1 := impl_isWire a n true (decide_eq_true (by omega))
    have c2 := impl_isWire b n true (decide_eq_true (by omega))
    clear hr
    clear ha hb hc hd
    go_enter Try.func81, Try.ntmps81
    go_wp2_with fail
    refine (c1 _).mono ?_
    rintro e w1 ⟨rfl, rfl⟩
    go_wp2_with fail
    refine (c2 _).mono ?_
    rintro e w1 ⟨rfl, rfl⟩
    go_wp2_with fail
    go_ret
    exact ⟨by first | rfl | simp, low⟩
  by_cases h4 : k = 4
  case pos =>
    subst h4
    by_cases ha : 0 ≤ a
    case neg =>
      obtain rfl : r = false := hr.symm.trans (decide_eq_false (by rw [g_4]; omega))
      have c1 := impl_isWire a n false (decide_eq_false (by omega))
      clear hr
      clear ha
      go_enter Try.func81, Try.ntmps81
      go_wp2_with fail
      refine (c1 _).mono ?_
      rintro e w1 ⟨rfl, rfl⟩
      go_wp2_with fail
      go_ret
      exact ⟨by first | rfl | simp, low⟩
    by_cases hb : a < n
    case neg =>
      obtain rfl : r = false := hr.symm.trans (decide_eq_false (by rw [g_4]; omega))
      have c1 := impl_isWire a n false (decide_eq_false (by omega))
      clear hr
      clear ha hb
      go_enter Try.func81, Try.ntmps81
      go_wp2_with fail
      refine (c1 _).mono ?_
      rintro e w1 ⟨rfl, rfl⟩
      go_wp2_with fail
      go_ret
      exact ⟨by first | rfl | simp, low⟩
    by_cases hc : 0 ≤ b
    case neg =>
      obtain rfl : r = false := hr.symm.trans (decide_eq_false (by rw [g_4]; omega))
      have c1 := impl_isWire a n true (decide_eq_true (by omega))
      have c2 := impl_isWire b n false (decide_eq_false (by omega))
      clear hr
      clear ha hb hc
      go_enter Try.func81, Try.ntmps81
      go_wp2_with fail
      refine (c1 _).mono ?_
      rintro e w1 ⟨rfl, rfl⟩
      go_wp2_with fail
      refine (c2 _).mono ?_
      rintro e w1 ⟨rfl, rfl⟩
      go_wp2_with fail
      go_ret
      exact ⟨by first | rfl | simp, low⟩
    by_cases hd : b < n
    case neg =>
      obtain rfl : r = false := hr.symm.trans (decide_eq_false (by rw [g_4]; omega))
      have c1 := impl_isWire a n true (decide_eq_true (by omega))
      have c2 := impl_isWire b n false (decide_eq_false (by omega))
      clear hr
      clear ha hb hc hd
      go_enter Try.func81, Try.ntmps81
      go_wp2_with fail
      refine (c1 _).mono ?_
      rintro e w1 ⟨rfl, rfl⟩
      go_wp2_with fail
      refine (c2 _).mono ?_
      rintro e w1 ⟨rfl, rfl⟩
      go_wp2_with fail
      go_ret
      exact ⟨by first | rfl | simp, low⟩
    obtain rfl : r = true := hr.symm.trans (decide_eq_true (by rw [g_4]; omega))
    have c1 := impl_isWire a n true (decide_eq_true (by omega))
    have c2 := impl_isWire b n true (decide_eq_true (by omega))
    clear hr
    clear ha hb hc hd
    go_enter Try.func81, Try.ntmps81
    go_wp2_with fail
    refine (c1 _).mono ?_
    rintro e w1 ⟨rfl, rfl⟩
    go_wp2_with fail
    refine (c2 _).mono ?_
    rintro e w1 ⟨rfl, rfl⟩
    go_wp2_with fail
    go_ret
    exact ⟨by first | rfl | simp, low⟩
  by_cases h5 : k = 5
  case pos =>
    subst h5
    by_cases ha : 0 ≤ a
    case neg =>
      obtain rfl : r = false := hr.symm.trans (decide_eq_false (by rw [g_5]; omega))
      have c1 := impl_isWire a n false (decide_eq_false (by omega))
      clear hr
      clear ha
      go_enter Try.func81, Try.ntmps81
      go_wp2_with fail
      refine (c1 _).mono ?_
      rintro e w1 ⟨rfl, rfl⟩
      go_wp2_with fail
      go_ret
      exact ⟨by first | rfl | simp, low⟩
    by_cases hb : a < n
    case neg =>
      obtain rfl : r = false := hr.symm.trans (decide_eq_false (by rw [g_5]; omega))
      have c1 := impl_isWire a n false (decide_eq_false (by omega))
      clear hr
      clear ha hb
      go_enter Try.func81, Try.ntmps81
      go_wp2_with fail
      refine (c1 _).mono ?_
      rintro e w1 ⟨rfl, rfl⟩
      go_wp2_with fail
      go_ret
      exact ⟨by first | rfl | simp, low⟩
    by_cases hc : b = 0
    case neg =>
      obtain rfl : r = false := hr.symm.trans (decide_eq_false (by rw [g_5]; omega))
      have c1 := impl_isWire a n true (decide_eq_true (by omega))
      have hb0 : (b == 0) = false := beq_eq_false_iff_ne.2 hc
      clear hr
      clear ha hb
      go_enter Try.func81, Try.ntmps81
      go_wp2_with fail
      refine (c1 _).mono ?_
      rintro e w1 ⟨rfl, rfl⟩
      go_wp2_with fail
      go_ret
      exact ⟨by first | rfl | simp, low⟩
    obtain rfl : r = true := hr.symm.trans (decide_eq_true (by rw [g_5]; omega))
    have c1 := impl_isWire a n true (decide_eq_true (by omega))
    subst hc
    clear hr
    clear ha hb
    go_enter Try.func81, Try.ntmps81
    go_wp2_with fail
    refine (c1 _).mono ?_
    rintro e w1 ⟨rfl, rfl⟩
    go_wp2_with fail
    go_ret
    exact ⟨by first | rfl | simp, low⟩
  rw [g_no h1 h2 h3 h4 h5] at hr
  subst hr
  have e1 : (k == 1) = false := beq_eq_false_iff_ne.2 h1
  have e2 : (k == 2) = false := beq_eq_false_iff_ne.2 h2
  have e3 : (k == 3) = false := beq_eq_false_iff_ne.2 h3
  have e4 : (k == 4) = false := beq_eq_false_iff_ne.2 h4
  have e5 : (k == 5) = false := beq_eq_false_iff_ne.2 h5
  clear h1 h2 h3 h4 h5
  go_enter Try.func81, Try.ntmps81
  go_wp2_with fail
  go_ret
  exact ⟨rfl, low⟩
set_option maxRecDepth 100000 in
set_option maxHeartbeats 1000000 in
theorem spec_GateOk (k a b n : Int) (r : Bool) (hr : decide (gateOk k a b n) = r) (w : World) :
    Calls Try.prog 102 #[.agg #[.int .i64 k, .int .i64 a, .int .i64 b], .int .i64 n] w fun e w' => e = .returned (.bool r) ∧ Below w.heap.size w w' := by
  have low := below_alloc w (.cells #[.int .i64 k, .int .i64 a, .int .i64 b] 86)
  by_cases h1 : k = 1
  case pos =>
    subst h1
    by_cases ha : 0 ≤ a
    case neg =>
      obtain rfl : r = false := hr.symm.trans (decide_eq_false (by rw [g_1]; omega))
      have c1 := l01In_is a 0 79 false (decide_eq_false (by omega))
      clear hr
      clear ha
      go_enter Try.func102, Try.ntmps102
      go_wp2_with fail
      refine (c1 _).mono ?_
      rintro e w1 ⟨rfl, rfl⟩
      go_wp2_with fail
      go_ret
      exact ⟨by first | rfl | simp, low⟩
    by_cases hb : a ≤ 79
    case neg =>
      obtain rfl : r = false := hr.symm.trans (decide_eq_false (by rw [g_1]; omega))
      have c1 := l01In_is a 0 79 false (decide_eq_false (by omega))
      clear hr
      clear ha hb
      go_enter Try.func102, Try.ntmps102
      go_wp2_with fail
      refine (c1 _).mono ?_
      rintro e w1 ⟨rfl, rfl⟩
      go_wp2_with fail
      go_ret
      exact ⟨by first | rfl | simp, low⟩
    by_cases hc : b = 0
    case neg =>
      obtain rfl : r = false := hr.symm.trans (decide_eq_false (by rw [g_1]; omega))
      have c1 := l01In_is a 0 79 true (decide_eq_true (by omega))
      have hb0 : (b == 0) = false := beq_eq_false_iff_ne.2 hc
      clear hr
      clear ha hb
      go_enter Try.func102, Try.ntmps102
      go_wp2_with fail
      refine (c1 _).mono ?_
      rintro e w1 ⟨rfl, rfl⟩
      go_wp2_with fail
      go_ret
      exact ⟨by first | rfl | simp, low⟩
    obtain rfl : r = true := hr.symm.trans (decide_eq_true (by rw [g_1]; omega))
    have c1 := l01In_is a 0 79 true (decide_eq_true (by omega))
    subst hc
    clear hr
    clear ha hb
    go_enter Try.func102, Try.ntmps102
    go_wp2_with fail
    refine (c1 _).mono ?_
    rintro e w1 ⟨rfl, rfl⟩
    go_wp2_with fail
    go_ret
    exact ⟨by first | rfl | simp, low⟩
  by_cases h2 : k = 2
  case pos =>
    subst h2
    by_cases ha : 0 ≤ a
    case neg =>
      obtain rfl : r = false := hr.symm.trans (decide_eq_false (by rw [g_2]; omega))
      have c1 := l01In_is a 0 1 false (decide_eq_false (by omega))
      clear hr
      clear ha
      go_enter Try.func102, Try.ntmps102
      go_wp2_with fail
      refine (c1 _).mono ?_
      rintro e w1 ⟨rfl, rfl⟩
      go_wp2_with fail
      go_ret
      exact ⟨by first | rfl | simp, low⟩
    by_cases hb : a ≤ 1
    case neg =>
      obtain rfl : r = false := hr.symm.trans (decide_eq_false (by rw [g_2]; omega))
      have c1 := l01In_is a 0 1 false (decide_eq_false (by omega))
      clear hr
      clear ha hb
      go_enter Try.func102, Try.ntmps102
      go_wp2_with fail
      refine (c1 _).mono ?_
      rintro e w1 ⟨rfl, rfl⟩
      go_wp2_with fail
      go_ret
      exact ⟨by first | rfl | simp, low⟩
    by_cases hc : b = 0
    case neg =>
      obtain rfl : r = false := hr.symm.trans (decide_eq_false (by rw [g_2]; omega))
      have c1 := l01In_is a 0 1 true (decide_eq_true (by omega))
      have hb0 : (b == 0) = false := beq_eq_false_iff_ne.2 hc
      clear hr
      clear ha hb
      go_enter Try.func102, Try.ntmps102
      go_wp2_with fail
      refine (c1 _).mono ?_
      rintro e w1 ⟨rfl, rfl⟩
      go_wp2_with fail
      go_ret
      exact ⟨by first | rfl | simp, low⟩
    obtain rfl : r = true := hr.symm.trans (decide_eq_true (by rw [g_2]; omega))
    have c1 := l01In_is a 0 1 true (decide_eq_true (by omega))
    subst hc
    clear hr
    clear ha hb
    go_enter Try.func102, Try.ntmps102
    go_wp2_with fail
    refine (c1 _).mono ?_
    rintro e w1 ⟨rfl, rfl⟩
    go_wp2_with fail
    go_ret
    exact ⟨by first | rfl | simp, low⟩
  by_cases h3 : k = 3
  case pos =>
    subst h3
    by_cases ha : 0 ≤ a
    case neg =>
      obtain rfl : r = false := hr.symm.trans (decide_eq_false (by rw [g_3]; omega))
      clear hr
      go_enter Try.func102, Try.ntmps102
      go_wp2_with fail
      go_ret
      exact ⟨by first | rfl | simp, low⟩
    by_cases hb : a < n
    case neg =>
      obtain rfl : r = false := hr.symm.trans (decide_eq_false (by rw [g_3]; omega))
      clear hr
      go_enter Try.func102, Try.ntmps102
      go_wp2_with fail
      go_ret
      exact ⟨by first | rfl | simp, low⟩
    by_cases hc : 0 ≤ b
    case neg =>
      obtain rfl : r = false := hr.symm.trans (decide_eq_false (by rw [g_3]; omega))
      clear hr
      go_enter Try.func102, Try.ntmps102
      go_wp2_with fail
      go_ret
      exact ⟨by first | rfl | simp, low⟩
    by_cases hd : b < n
    case neg =>
      obtain rfl : r = false := hr.symm.trans (decide_eq_false (by rw [g_3]; omega))
      clear hr
      go_enter Try.func102, Try.ntmps102
      go_wp2_with fail
      go_ret
      exact ⟨by first | rfl | simp, low⟩
    obtain rfl : r = true := hr.symm.trans (decide_eq_true (by rw [g_3]; omega))
    clear hr
    go_enter Try.func102, Try.ntmps102
    go_wp2_with fail
    go_ret
    exact ⟨by first | rfl | simp, low⟩
  by_cases h4 : k = 4
  case pos =>
    subst h4
    by_cases ha : 0 ≤ a
    case neg =>
      obtain rfl : r = false := hr.symm.trans (decide_eq_false (by rw [g_4]; omega))
      clear hr
      go_enter Try.func102, Try.ntmps102
      go_wp2_with fail
      go_ret
      exact ⟨by first | rfl | simp, low⟩
    by_cases hb : a < n
    case neg =>
      obtain rfl : r = false := hr.symm.trans (decide_eq_false (by rw [g_4]; omega))
      clear hr
      go_enter Try.func102, Try.ntmps102
      go_wp2_with fail
      go_ret
      exact ⟨by first | rfl | simp, low⟩
    by_cases hc : 0 ≤ b
    case neg =>
      obtain rfl : r = false := hr.symm.trans (decide_eq_false (by rw [g_4]; omega))
      clear hr
      go_enter Try.func102, Try.ntmps102
      go_wp2_with fail
      go_ret
      exact ⟨by first | rfl | simp, low⟩
    by_cases hd : b < n
    case neg =>
      obtain rfl : r = false := hr.symm.trans (decide_eq_false (by rw [g_4]; omega))
      clear hr
      go_enter Try.func102, Try.ntmps102
      go_wp2_with fail
      go_ret
      exact ⟨by first | rfl | simp, low⟩
    obtain rfl : r = true := hr.symm.trans (decide_eq_true (by rw [g_4]; omega))
    clear hr
    go_enter Try.func102, Try.ntmps102
    go_wp2_with fail
    go_ret
    exact ⟨by first | rfl | simp, low⟩
  by_cases h5 : k = 5
  case pos =>
    subst h5
    by_cases ha : 0 ≤ a
    case neg =>
      obtain rfl : r = false := hr.symm.trans (decide_eq_false (by rw [g_5]; omega))
      clear hr
      go_enter Try.func102, Try.ntmps102
      go_wp2_with fail
      go_ret
      exact ⟨by first | rfl | simp, low⟩
    by_cases hb : a < n
    case neg =>
      obtain rfl : r = false := hr.symm.trans (decide_eq_false (by rw [g_5]; omega))
      clear hr
      go_enter Try.func102, Try.ntmps102
      go_wp2_with fail
      go_ret
      exact ⟨by first | rfl | simp, low⟩
    by_cases hc : b = 0
    case neg =>
      obtain rfl : r = false := hr.symm.trans (decide_eq_false (by rw [g_5]; omega))
      have hb0 : (b == 0) = false := beq_eq_false_iff_ne.2 hc
      clear hr
      go_enter Try.func102, Try.ntmps102
      go_wp2_with fail
      go_ret
      exact ⟨by first | rfl | simp, low⟩
    obtain rfl : r = true := hr.symm.trans (decide_eq_true (by rw [g_5]; omega))
    subst hc
    clear hr
    go_enter Try.func102, Try.ntmps102
    go_wp2_with fail
    go_ret
    exact ⟨by first | rfl | simp, low⟩
  rw [g_no h1 h2 h3 h4 h5] at hr
  subst hr
  have e1 : (k == 1) = false := beq_eq_false_iff_ne.2 h1
  have e2 : (k == 2) = false := beq_eq_false_iff_ne.2 h2
  have e3 : (k == 3) = false := beq_eq_false_iff_ne.2 h3
  have e4 : (k == 4) = false := beq_eq_false_iff_ne.2 h4
  have e5 : (k == 5) = false := beq_eq_false_iff_ne.2 h5
  clear h1 h2 h3 h4 h5
  go_enter Try.func102, Try.ntmps102
  go_wp2_with fail
  go_ret
  exact ⟨rfl, low⟩
end Go.Proofs.Ytfpcjgolcbjnjaa

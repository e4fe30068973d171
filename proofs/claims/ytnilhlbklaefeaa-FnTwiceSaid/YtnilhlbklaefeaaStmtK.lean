/- The model's StmtOk, ReadsOf, WritesOf. No condition. -/
import Derived.Test.YtnilhlbklaefeaaProg
import Derived.Test.YtnilhlbklaefeaaStmtH
import Derived.Test.YtnilhlbklaefeaaStmtI
namespace Go.Proofs.Ytnilhlbklaefeaa
open Go Go.RowKit
theorem ok_plain {op d a b c n : Int} : okI op d a b c n ↔ plainI op d a b c n = ⟨op, d, a, b, c, n⟩ ∧ isReg d ∧ isReg a ∧ isReg b ∧ isReg c ∧
    ((op = 1 ∧ 0 ≤ n ∧ n ≤ 15) ∨ (op = 2 ∧ a < 5 ∧ 0 ≤ n ∧ n ≤ 3) ∨ (op = 12 ∧ 1 ≤ n ∧ n ≤ 8) ∨ (op ≠ 1 ∧ op ≠ 2 ∧ op ≠ 12 ∧ 3 ≤ op ∧ op ≤ 13)) := by
  unfold plainI
  rcases @tyOf_cases op d a b c n with ⟨h, e⟩ | ⟨h, e⟩ | ⟨h, e⟩ | ⟨h, e⟩ | ⟨h, e⟩ | ⟨h, e⟩ | ⟨h, e⟩ | ⟨h, e⟩ <;> rw [e] <;>
    simp [okI, Ty.back, isReg] <;> omega
theorem spec_StmtOk (op d a b c n : Int) (w : World) :
    Calls Try.prog 40 #[.agg #[.int .i64 op, .int .i64 d, .int .i64 a, .int .i64 b, .int .i64 c, .int .i64 n]] w fun e w' => e = .returned (.bool (decide (okI op d a b c n))) ∧ Below w.heap.size w w' := by
  by_cases hp : plainI op d a b c n = ⟨op, d, a, b, c, n⟩
  case neg =>
    rw [decide_eq_false (fun e => hp (ok_plain.1 e).1)]
    exact spec_ok_back op d a b c n hp w
  by_cases hd : isReg d
  case neg =>
    rw [decide_eq_false (fun e => hd (ok_plain.1 e).2.1)]
    exact spec_ok_d op d a b c n hp hd w
  by_cases ha : isReg a
  case neg =>
    rw [decide_eq_false (fun e => ha (ok_plain.1 e).2.2.1)]
    exact spec_ok_a op d a b c n hp hd ha w
  by_cases hb : isReg b
  case neg =>
    rw [decide_eq_false (fun e => hb (ok_plain.1 e).2.2.2.1)]
    exact spec_ok_b op d a b c n hp hd ha hb w
  by_cases hc : isReg c
  case neg =>
    rw [decide_eq_false (fun e => hc (ok_plain.1 e).2.2.2.2.1)]
    exact spec_ok_c op d a b c n hp hd ha hb hc w
  have key : okI op d a b c n ↔ _ := ok_plain
  simp only [hp, hd, ha, hb, hc, true_and] at key
  by_cases h1 : op = 1
  · subst h1
    exact spec_ok_1 d a b c n hp hd ha hb hc _ (by rw [decide_eq_decide, key]; omega) w
  by_cases h2 : op = 2
  · subst h2
    by_cases h5 : a < 5
    · exact spec_ok_2y d a b c n hp hd ha hb hc h5 _ (by rw [decide_eq_decide, key]; omega) w
    · rw [decide_eq_false (fun e => by have := key.1 e; omega)]
      exact spec_ok_2n d a b c n hp hd ha hb hc h5 w
  by_cases h12 : op = 12
  · subst h12
    exact spec_ok_12 d a b c n hp hd ha hb hc _ (by rw [decide_eq_decide, key]; omega) w
  exact spec_ok_x op d a b c n hp hd ha hb hc h1 h2 h12 _ (by rw [decide_eq_decide, key]; omega) w
end Go.Proofs.Ytnilhlbklaefeaa

/- The model's StmtOk, ReadsOf, WritesOf. No condition. -/
import Derived.Test.YtjfmcdfgccdmpaaGreatProg
import Derived.Test.YtjfmcdfgccdmpaaGreatStmtH
import Derived.Test.YtjfmcdfgccdmpaaGreatStmtI
namespace Go.Proofs.YtjfmcdfgccdmpaaGreat
open Go Go.RowKit
theorem ok_plain {op d a b c n : Int} : okI op d a b c n ↔ plainI op d a b c n = ⟨op, d, a, b, c, n⟩ ∧ isReg d ∧ isReg a ∧ isReg b ∧ isReg c ∧
    ((op = 1 ∧ 0 ≤ n ∧ n ≤ 15) ∨ (op = 2 ∧ a < 5 ∧ 0 ≤ n ∧ n ≤ 3) ∨ (op = 12 ∧ 1 ≤ n ∧ n ≤ 8) ∨ (op ≠ 1 ∧ op ≠ 2 ∧ op ≠ 12 ∧ 3 ≤ op ∧ op ≤ 13)) := by
  unfold plainI
  rcases @tyOf_cases op d a b c n with ⟨h, e⟩ | ⟨h, e⟩ | ⟨h, e⟩ | ⟨h, e⟩ | ⟨h, e⟩ | ⟨h, e⟩ | ⟨h, e⟩ | ⟨h, e⟩ <;> rw [e] <;>
    simp [okI, Ty.back, isReg] <;> omega
theorem spec_StmtOk (op d a b c n : Int) (w : World) :
    Calls Tryz.prog 43 #[.agg #[.int .i64 op, .int .i64 d, .int .i64 a, .int .i64 b, .int .i64 c, .int .i64 n]] w fun e w' => e = .returned (.bool (decide (okI op d a b c n))) ∧ Below w.heap.size w w' := by
  by_cases hp : plainI op d a b c n = ⟨op, d, a, b, c, n⟩
  case neg =>
    rw [decide_eq_false (fun e => hp (ok_plain.1 e).1)]
    exact spec_ok_back op d a b c n hp w
  by_cases hd : isReg d
  case neg =>
    rw [decide_eq_false (fun e => hd (ok_plain.1 e).2.1)]
    exact spec_ok_d op d a b c n hp hd w
  by_cases ha : isReg a
  case neg =>
    rw [decide_eq_false (fun e => ha (ok_plain.1 e).2.2.1)]
    exact spec_ok_a op d a b c n hp hd ha w
  by_cases hb : isReg b
  case neg =>
    rw [decide_eq_false (fun e => hb (ok_plain.1 e).2.2.2.1)]
    exact spec_ok_b op d a b c n hp hd ha hb w
  by_cases hc : isReg c
  case neg =>
    rw [decide_eq_false (fun e => hc (ok_plain.1 e).2.2.2.2.1)]
    exact spec_ok_c op d a b c n hp hd ha hb hc w
  have key : okI op d a b c n ↔ _ := ok_plain
  simp only [hp, hd, ha, hb, hc, true_and] at key
  exact spec_ok_all op d a b c n hp hd ha hb hc _ (decide_eq_decide.2 key.symm) w
end Go.Proofs.YtjfmcdfgccdmpaaGreat

/- The program's StmtOk, ReadsOf, WritesOf. No condition. -/
import Derived.Test.YtklmhkckhdmelaaProg
import Derived.Test.YtklmhkckhdmelaaStmtF
namespace Go.Proofs.Ytklmhkckhdmelaa
open Go Go.RowKit
def newV (op d a b c n : Int) : Option Ty := if okI op d a b c n then tyOf op d a b c n else none
theorem newV_cases (op d a b c n : Int) : (¬ okI op d a b c n ∧ newV op d a b c n = none) ∨ ∃ t, okI op d a b c n ∧ newV op d a b c n = some t ∧ t.reads = readsI op a b c ∧ t.back.op = op ∧ (t.sets = true → t.dst = d ∧ op ≤ 10) ∧ (t.sets = false → ¬ op ≤ 10) ∧ (t.sets = true ∨ t.sets = false) ∧ tyOf op d a b c n = some t := by
  unfold newV
  by_cases h : okI op d a b c n
  · right
    obtain ⟨t, ht, hb, _⟩ := ok_of.1 h
    refine ⟨t, h, by rw [if_pos h, ht], ?_⟩
    rcases @tyOf_cases op d a b c n with ⟨h, e⟩ | ⟨h, e⟩ | ⟨h, e⟩ | ⟨h, e⟩ | ⟨h, e⟩ | ⟨h, e⟩ | ⟨h, e⟩ | ⟨h, e⟩ <;> rw [e] at ht <;> cases ht
    all_goals first
      | (subst h; simp [Ty.reads, readsI, Ty.back, Ty.sets, Ty.dst, e]; done)
      | (have h10 : op ≤ 10 := by omega
         refine ⟨?_, rfl, fun _ => ⟨rfl, h10⟩, (fun h => Bool.noConfusion h), Or.inl rfl, e⟩
         unfold readsI
         rw [if_neg (by omega), if_neg (by omega), if_pos h]
         rfl)
  · exact .inl ⟨h, by rw [if_neg h]⟩
theorem impl_newStatement (op d a b c n : Int) (w : World) :
    Calls Try.prog 44 #[.agg #[.int .i64 op, .int .i64 d, .int .i64 a, .int .i64 b, .int .i64 c, .int .i64 n]] w fun e w' => e = .returned (usedV (newV op d a b c n)) ∧ Below w.heap.size w w' := by
  unfold newV
  by_cases h : okI op d a b c n
  · rw [if_pos h]
    obtain ⟨t, ht, hb, hr, hn⟩ := ok_of.1 h
    rw [ht]
    exact impl_new_yes op d a b c n t ht hb hr hn w
  · rw [if_neg h]
    rcases ht : tyOf op d a b c n with _ | t
    · exact impl_new_none op d a b c n ht w
    · by_cases hb : t.back = ⟨op, d, a, b, c, n⟩
      · by_cases hr : t.regs
        · by_cases hn : t.nums
          · exact absurd (ok_of.2 ⟨t, ht, hb, hr, hn⟩) h
          · exact impl_new_nums op d a b c n t ht hb hr hn w
        · exact impl_new_regs op d a b c n t ht hb hr w
      · exact impl_new_back op d a b c n t ht hb w
end Go.Proofs.Ytklmhkckhdmelaa

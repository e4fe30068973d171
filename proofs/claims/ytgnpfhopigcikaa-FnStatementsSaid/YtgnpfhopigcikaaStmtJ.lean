/- The program's StmtOk, ReadsOf, WritesOf. No condition. -/
import Derived.Test.YtgnpfhopigcikaaProg
import Derived.Test.YtgnpfhopigcikaaStmtF
namespace Go.Proofs.Ytgnpfhopigcikaa
open Go Go.RowKit
def newV (op d a b c n : Int) : Option Ty := if okI op d a b c n then tyOf op d a b c n else none
theorem newV_cases (op d a b c n : Int) : (¬ okI op d a b c n ∧ newV op d a b c n = none) ∨ ∃ t, okI op d a b c n ∧ newV op d a b c n = some t ∧ t.reads = readsI op a b c ∧ t.back.op = op ∧ (t.sets = true → t.dst = d ∧ op ≤ 10) ∧ (t.sets = false → ¬ op ≤ 10) ∧ (t.sets = true ∨ t.sets = false) ∧ tyOf op d a b c n = some t := by
  unfold newV
  by_cases h : okI op d a b c n
  · right
    obtain ⟨t, ht, hb, _⟩ := ok_of.1 h
    refine ⟨t, h, by rw [if_pos h, ht], ?_⟩
    rcases @tyOf_cases op d a b c n with ⟨h, e⟩ | ⟨h, e⟩ | ⟨h, e⟩ | ⟨h, e⟩ | ⟨h, e⟩ | ⟨h, e⟩ | ⟨h, e⟩ | ⟨h, e⟩ <;> rw [e] at ht <;> cases ht
    all_goals first
      | (subst h; simp [Ty.reads, readsI, Ty.back, Ty.sets, Ty.dst, e]; done)
      | (have h10 : op ≤ 10 := by omega
         refine ⟨?_, rfl, fun _ => ⟨rfl, h10⟩, (fun h => Bool.noConfusion h), Or.inl rfl, e⟩
         unfold readsI
         rw [if_neg (by omega), if_neg (by omega), if_pos h]
         rfl)
  · exact .inl ⟨h, by rw [if_neg h]⟩
theorem impl_newStatement (op d a b c n : Int) (w : World) :
    Calls Try.prog 32 #[.agg #[.int .i64 op, .int .i64 d, .int .i64 a, .int .i64 b, .int .i64 c, .int .i64 n]] w fun e w' => e = .returned (usedV (newV op d a b c n)) ∧ Below w.heap.size w w' := by
  unfold newV
  by_cases h : okI op d a b c n
  · rw [if_pos h]
    obtain ⟨t, ht, hb, hr, hn⟩ := ok_of.1 h
    rw [ht]
    exact impl_new_yes op d a b c n t ht hb hr hn w
  · rw [if_neg h]
    rcases ht : tyOf op d a b c n with _ | t
    · exact impl_new_none op d a b c n ht w
    · by_cases hb : t.back = ⟨op, d, a, b, c, n⟩
      · by_cases hr : t.regs
        · by_cases hn : t.nums
          · exact absurd (ok_of.2 ⟨t, ht, hb, hr, hn⟩) h
          · exact impl_new_nums op d a b c n t ht hb hr hn w
        · exact impl_new_regs op d a b c n t ht hb hr w
      · exact impl_new_back op d a b c n t ht hb w
theorem impl_StmtOk (op d a b c n : Int) (w : World) :
    Calls Try.prog 14 #[.agg #[.int .i64 op, .int .i64 d, .int .i64 a, .int .i64 b, .int .i64 c, .int .i64 n]] w fun e w' => e = .returned (.bool (decide (okI op d a b c n))) ∧ Below w.heap.size w w' := by
  have c1 := impl_newStatement op d a b c n
  rcases newV_cases op d a b c n with ⟨h, e⟩ | ⟨t, h, e, -⟩
  · rw [decide_eq_false h]
    rw [e] at c1
    simp only [usedV] at c1
    clear h e
    go_enter Try.func14, Try.ntmps14
    go_wp2_with fail
    refine (c1 _).mono ?_
    rintro e w1 ⟨rfl, hb⟩
    go_wp2_with fail
    go_ret
    exact ⟨rfl, (below_alloc _ _).trans (hb.mono (by simp))⟩
  · rw [decide_eq_true h]
    rw [e] at c1
    simp only [usedV] at c1
    clear h e
    go_enter Try.func14, Try.ntmps14
    go_wp2_with fail
    refine (c1 _).mono ?_
    rintro e w1 ⟨rfl, hb⟩
    go_wp2_with fail
    go_ret
    exact ⟨rfl, (below_alloc _ _).trans (hb.mono (by simp))⟩
theorem impl_ReadsOf (op d a b c n : Int) (w : World) :
    Calls Try.prog 12 #[.agg #[.int .i64 op, .int .i64 d, .int .i64 a, .int .i64 b, .int .i64 c, .int .i64 n]] w (MadeI (readsOf op d a b c n) w) := by
  have c1 := impl_newStatement op d a b c n
  rcases newV_cases op d a b c n with ⟨h, e⟩ | ⟨t, h, e, hr, -⟩
  · rw [show readsOf op d a b c n = [] by unfold readsOf; rw [if_neg h]]
    rw [e] at c1
    simp only [usedV] at c1
    clear h e
    go_enter Try.func12, Try.ntmps12
    go_wp2_with fail
    refine (c1 _).mono ?_
    rintro e w1 ⟨rfl, hb⟩
    go_wp2_with fail
    go_ret
    exact MadeI.nil_ ((below_alloc _ _).trans (hb.mono (by simp)))
  · rw [show readsOf op d a b c n = t.reads by unfold readsOf; rw [if_pos h, hr]]
    rw [e] at c1
    have c2 := impl_readRegisters t
    simp only [usedV] at c1
    generalize t.v = v at *
    clear h e hr
    go_enter Try.func12, Try.ntmps12
    go_wp2_with fail
    refine (c1 _).mono ?_
    rintro e w1 ⟨rfl, hb⟩
    have hb' := (below_alloc w (.cells #[.int .i64 op, .int .i64 d, .int .i64 a, .int .i64 b, .int .i64 c, .int .i64 n] 29)).trans (hb.mono (by simp))
    go_wp2_with fail
    refine (c2 w1).mono ?_
    rintro e w2 ⟨A, m, c, rfl, hm, ho, hb2⟩
    go_wp2_with fail
    go_ret
    exact ⟨A, m, c, rfl, hm, ho.wide hb'.size (Nat.le_refl _), hb'.trans (hb2.mono hb'.size)⟩
theorem impl_WritesOf (op d a b c n : Int) (w : World) :
    Calls Try.prog 13 #[.agg #[.int .i64 op, .int .i64 d, .int .i64 a, .int .i64 b, .int .i64 c, .int .i64 n]] w fun e w' => e = .returned (.int .i64 (writesOf op d a b c n)) ∧ Below w.heap.size w w' := by
  have c1 := impl_newStatement op d a b c n
  rcases newV_cases op d a b c n with ⟨h, e⟩ | ⟨t, h, e, -, -, hy, hn, ht, -⟩
  · rw [show writesOf op d a b c n = -1 by unfold writesOf; rw [if_neg (fun e => h e.1)]]
    rw [e] at c1
    simp only [usedV] at c1
    clear h e
    go_enter Try.func13, Try.ntmps13
    go_wp2_with fail
    refine (c1 _).mono ?_
    rintro e w1 ⟨rfl, hb⟩
    go_wp2_with fail
    go_ret
    exact ⟨rfl, (below_alloc _ _).trans (hb.mono (by simp))⟩
  · rw [e] at c1
    have c2 := impl_setRegister t
    simp only [usedV] at c1
    rcases ht with ht | ht
    · obtain ⟨hd, ho⟩ := hy ht
      rw [show writesOf op d a b c n = d by unfold writesOf; rw [if_pos ⟨h, ho⟩]]
      rw [ht, hd] at c2
      generalize t.v = v at *
      clear h e hy hn ht hd ho
      go_enter Try.func13, Try.ntmps13
      go_wp2_with fail
      refine (c1 _).mono ?_
      rintro e w1 ⟨rfl, hb⟩
      have hb' := (below_alloc w (.cells #[.int .i64 op, .int .i64 d, .int .i64 a, .int .i64 b, .int .i64 c, .int .i64 n] 29)).trans (hb.mono (by simp))
      go_wp2_with fail
      refine (c2 w1).mono ?_
      rintro e w2 ⟨rfl, hb2⟩
      go_wp2_with fail
      go_ret
      exact ⟨rfl, hb'.trans (hb2.mono hb'.size)⟩
    · have ho := hn ht
      rw [show writesOf op d a b c n = -1 by unfold writesOf; rw [if_neg (fun e => ho e.2)]]
      rw [ht] at c2
      generalize t.v = v at *
      clear h e hy hn ht ho
      go_enter Try.func13, Try.ntmps13
      go_wp2_with fail
      refine (c1 _).mono ?_
      rintro e w1 ⟨rfl, hb⟩
      have hb' := (below_alloc w (.cells #[.int .i64 op, .int .i64 d, .int .i64 a, .int .i64 b, .int .i64 c, .int .i64 n] 29)).trans (hb.mono (by simp))
      go_wp2_with fail
      refine (c2 w1).mono ?_
      rintro e w2 ⟨rfl, hb2⟩
      go_wp2_with fail
      go_ret
      exact ⟨rfl, hb'.trans (hb2.mono hb'.size)⟩
end Go.Proofs.Ytgnpfhopigcikaa

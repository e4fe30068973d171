/- Commit and OpenOk and their models return the same, and turn nothing. -/
import Derived.Test.YtedfblgopmiheaaProg
import Derived.Test.YtedfblgopmiheaaDraw
import Derived.Test.YtedfblgopmiheaaWords
namespace Go.Proofs.Ytedfblgopmiheaa
open Go Go.RowKit
def canC (v n : Int) : Prop := isWord v ∧ 0 ≤ n ∧ n ≤ 65535
instance (v n : Int) : Decidable (canC v n) := by unfold canC; infer_instance
def commitI (v n : Int) : Int := if canC v n then keyedI n 21 v else 0
def opensC (c v n : Int) : Prop := canC v n ∧ commitI v n = c
instance (c v n : Int) : Decidable (opensC c v n) := by unfold opensC; infer_instance
theorem commitI_word (v n : Int) : isWord (commitI v n) := by
  unfold commitI
  split
  · exact keyedI_word _ _ _
  · unfold isWord; omega
theorem commitI_inj {a b n : Int} (ha : canC a n) (hb : canC b n) (h : commitI a n = commitI b n) : a = b := by
  unfold commitI at h
  rw [if_pos ha, if_pos hb] at h
  exact keyedI_inj (by unfold canC at ha; unfold isWord; omega) (by unfold isWord; omega) ha.1 hb.1 h
theorem opensC_self {v n : Int} (h : canC v n) : opensC (commitI v n) v n := ⟨h, rfl⟩
theorem opensC_other {a b n : Int} (ha : canC a n) (hb : canC b n) (h : a ≠ b) : ¬ opensC (commitI a n) b n := fun e => h (commitI_inj ha hb e.2.symm)
theorem impl_canCommit (v n : Int) (r : Bool) (hr : decide (canC v n) = r) (w : World) :
    Calls Try.prog 35 #[.int .i64 v, .int .i64 n] w fun e w' => e = .returned (.bool r) ∧ w = w' := by
  subst hr
  by_cases hv : isWord v
  · go_enter Try.func35, Try.ntmps35
    go_wp2_with fail
    refine (impl_IsWord v w).mono ?_
    rintro e w1 ⟨rfl, rfl⟩
    rw [decide_eq_true hv]
    go_wp2_with fail
    all_goals go_ret
    all_goals exact ⟨ret_bool (by simp [canC, hv]; omega), rfl⟩
  · go_enter Try.func35, Try.ntmps35
    go_wp2_with fail
    refine (impl_IsWord v w).mono ?_
    rintro e w1 ⟨rfl, rfl⟩
    rw [decide_eq_false hv]
    go_wp2_with fail
    go_ret
    exact ⟨ret_bool (by simp [canC, hv]), rfl⟩
theorem impl_Commit (v n : Int) (w : World) :
    Calls Try.prog 13 #[.int .i64 v, .int .i64 n] w fun e w' => e = .returned (.int .i64 (commitI v n)) ∧ w = w' := by
  by_cases h : canC v n
  · go_enter Try.func13, Try.ntmps13
    go_wp2_with fail
    refine (impl_canCommit v n true (decide_eq_true h) w).mono ?_
    rintro e w1 ⟨rfl, rfl⟩
    go_wp2_with fail
    refine (impl_Keyed n 21 v w).mono ?_
    rintro e w1 ⟨rfl, rfl⟩
    go_wp2_with fail
    go_ret
    exact ⟨ret_int (by simp [commitI, h]), rfl⟩
  · go_enter Try.func13, Try.ntmps13
    go_wp2_with fail
    refine (impl_canCommit v n false (decide_eq_false h) w).mono ?_
    rintro e w1 ⟨rfl, rfl⟩
    go_wp2_with fail
    go_ret
    exact ⟨ret_int (by simp [commitI, h]), rfl⟩
theorem impl_Commit_is (v n r : Int) (h : commitI v n = r) (w : World) :
    Calls Try.prog 13 #[.int .i64 v, .int .i64 n] w fun e w' => e = .returned (.int .i64 r) ∧ w = w' := by
  subst h; exact impl_Commit v n w
theorem impl_OpenOk (c v n : Int) (r : Bool) (hr : decide (opensC c v n) = r) (w : World) :
    Calls Try.prog 14 #[.int .i64 c, .int .i64 v, .int .i64 n] w fun e w' => e = .returned (.bool r) ∧ w = w' := by
  subst hr
  by_cases h : canC v n
  · go_enter Try.func14, Try.ntmps14
    go_wp2_with fail
    refine (impl_canCommit v n true (decide_eq_true h) w).mono ?_
    rintro e w1 ⟨rfl, rfl⟩
    go_wp2_with fail
    refine (impl_Commit v n w).mono ?_
    rintro e w1 ⟨rfl, rfl⟩
    go_wp2_with fail
    go_ret
    exact ⟨ret_bool (by by_cases k : commitI v n = c <;> simp [opensC, h, k]), rfl⟩
  · go_enter Try.func14, Try.ntmps14
    go_wp2_with fail
    refine (impl_canCommit v n false (decide_eq_false h) w).mono ?_
    rintro e w1 ⟨rfl, rfl⟩
    go_wp2_with fail
    go_ret
    exact ⟨ret_bool (by simp [opensC, h]), rfl⟩
theorem spec_l05Pair (v n : Int) (r : Bool) (hr : decide (canC v n) = r) (w : World) :
    Calls Try.prog 40 #[.int .i64 v, .int .i64 n] w fun e w' => e = .returned (.bool r) ∧ w = w' := by
  subst hr
  by_cases hv : isWord v
  · go_enter Try.func40, Try.ntmps40
    go_wp2_with fail
    refine (spec_IsWord v w).mono ?_
    rintro e w1 ⟨rfl, rfl⟩
    rw [decide_eq_true hv]
    go_wp2_with fail
    refine (l01In_is n 0 65535 _ rfl w).mono ?_
    rintro e w1 ⟨rfl, rfl⟩
    go_wp2_with fail
    go_ret
    exact ⟨ret_bool (by simp [canC, hv]), rfl⟩
  · go_enter Try.func40, Try.ntmps40
    go_wp2_with fail
    refine (spec_IsWord v w).mono ?_
    rintro e w1 ⟨rfl, rfl⟩
    rw [decide_eq_false hv]
    go_wp2_with fail
    go_ret
    exact ⟨ret_bool (by simp [canC, hv]), rfl⟩
theorem spec_Commit (v n : Int) (w : World) :
    Calls Try.prog 19 #[.int .i64 v, .int .i64 n] w fun e w' => e = .returned (.int .i64 (commitI v n)) ∧ w = w' := by
  by_cases h : canC v n
  · go_enter Try.func19, Try.ntmps19
    go_wp2_with fail
    refine (spec_l05Pair v n true (decide_eq_true h) w).mono ?_
    rintro e w1 ⟨rfl, rfl⟩
    go_wp2_with fail
    refine (spec_Keyed n 21 v w).mono ?_
    rintro e w1 ⟨rfl, rfl⟩
    go_wp2_with fail
    go_ret
    exact ⟨ret_int (by simp [commitI, h]), rfl⟩
  · go_enter Try.func19, Try.ntmps19
    go_wp2_with fail
    refine (spec_l05Pair v n false (decide_eq_false h) w).mono ?_
    rintro e w1 ⟨rfl, rfl⟩
    go_wp2_with fail
    go_ret
    exact ⟨ret_int (by simp [commitI, h]), rfl⟩
theorem spec_Commit_is (v n r : Int) (h : commitI v n = r) (w : World) :
    Calls Try.prog 19 #[.int .i64 v, .int .i64 n] w fun e w' => e = .returned (.int .i64 r) ∧ w = w' := by
  subst h; exact spec_Commit v n w
theorem spec_OpenOk (c v n : Int) (r : Bool) (hr : decide (opensC c v n) = r) (w : World) :
    Calls Try.prog 20 #[.int .i64 c, .int .i64 v, .int .i64 n] w fun e w' => e = .returned (.bool r) ∧ w = w' := by
  subst hr
  by_cases h : canC v n
  · go_enter Try.func20, Try.ntmps20
    go_wp2_with fail
    refine (spec_l05Pair v n true (decide_eq_true h) w).mono ?_
    rintro e w1 ⟨rfl, rfl⟩
    go_wp2_with fail
    refine (spec_Commit v n w).mono ?_
    rintro e w1 ⟨rfl, rfl⟩
    go_wp2_with fail
    go_ret
    exact ⟨ret_bool (by by_cases k : commitI v n = c <;> simp [opensC, h, k]), rfl⟩
  · go_enter Try.func20, Try.ntmps20
    go_wp2_with fail
    refine (spec_l05Pair v n false (decide_eq_false h) w).mono ?_
    rintro e w1 ⟨rfl, rfl⟩
    go_wp2_with fail
    go_ret
    exact ⟨ret_bool (by simp [opensC, h]), rfl⟩
theorem FnExactCommit_walk (v n : Int) (w : World) (_h0 : (Lit.int .i64 v).wf = true) (_h1 : (Lit.int .i64 n).wf = true) :
    Calls Try.prog 5 #[.int .i64 v, .int .i64 n] w fun e w' => e = .returned (.bool true) ∧ Below w.heap.size w w' := by
  go_enter Try.func5, Try.ntmps5
  go_wp2_with fail
  refine (spec_Commit v n w).mono ?_
  rintro e w1 ⟨rfl, rfl⟩
  go_wp2_with fail
  refine (impl_Commit v n w).mono ?_
  rintro e w1 ⟨rfl, rfl⟩
  go_wp2_with fail
  go_ret
  exact ⟨ret_bool (by simp), Below.refl _ _⟩
theorem FnExactOpenOk_walk (c v n : Int) (w : World) (_h0 : (Lit.int .i64 c).wf = true) (_h1 : (Lit.int .i64 v).wf = true) (_h2 : (Lit.int .i64 n).wf = true) :
    Calls Try.prog 6 #[.int .i64 c, .int .i64 v, .int .i64 n] w fun e w' => e = .returned (.bool true) ∧ Below w.heap.size w w' := by
  go_enter Try.func6, Try.ntmps6
  go_wp2_with fail
  refine (spec_OpenOk c v n _ rfl w).mono ?_
  rintro e w1 ⟨rfl, rfl⟩
  go_wp2_with fail
  refine (impl_OpenOk c v n _ rfl w).mono ?_
  rintro e w1 ⟨rfl, rfl⟩
  go_wp2_with fail
  go_ret
  exact ⟨ret_bool (by simp), Below.refl _ _⟩
theorem impl_IsWord_at (x : Int) (r : Bool) (h : decide (isWord x) = r) (w : World) :
    Calls Try.prog 15 #[.int .i64 x] w fun e w' => e = .returned (.bool r) ∧ w = w' := by
  subst h; exact impl_IsWord x w
end Go.Proofs.Ytedfblgopmiheaa

/- Clamp and its model return the number clamped, and turn nothing. -/
import Derived.Test.YtdokgegnpepeeaaProg
import Derived.Test.YtdokgegnpepeeaaKit
namespace Go.Proofs.Ytdokgegnpepeeaa
open Go Go.RowKit
def clampI (n low high : Int) : Int := if high < low ∨ n < low then low else if high < n then high else n
theorem impl_Clamp (n lo hi : Int) (w : World) :
    Calls Try.prog 10 #[.int .i64 n, .int .i64 lo, .int .i64 hi] w fun e w' => e = .returned (.int .i64 (clampI n lo hi)) ∧ w = w' := by
  go_enter Try.func10, Try.ntmps10
  go_wp2
  all_goals go_ret
  all_goals exact ⟨ret_int (by unfold clampI; split at * <;> split <;> (try split) <;> omega), rfl⟩
theorem spec_Clamp (n lo hi : Int) (w : World) :
    Calls Try.prog 20 #[.int .i64 n, .int .i64 lo, .int .i64 hi] w fun e w' => e = .returned (.int .i64 (clampI n lo hi)) ∧ w = w' := by
  by_cases h1 : hi < lo
  · go_enter Try.func20, Try.ntmps20
    go_wp2
    go_ret
    exact ⟨by simp [clampI, h1], rfl⟩
  · by_cases h2 : n < lo
    · go_enter Try.func20, Try.ntmps20
      go_wp2
      go_ret
      exact ⟨by simp [clampI, h2], rfl⟩
    · go_enter Try.func20, Try.ntmps20
      go_wp2
      all_goals go_ret
      · exact ⟨ret_int (by unfold clampI; rw [if_neg (by omega), if_pos (by omega)]), rfl⟩
      · exact ⟨ret_int (by unfold clampI; rw [if_neg (by omega), if_neg (by omega)]), rfl⟩
theorem FnExactClamp_walk (n lo hi : Int) (w : World) (_h0 : (Lit.int .i64 n).wf = true) (_h1 : (Lit.int .i64 lo).wf = true) (_h2 : (Lit.int .i64 hi).wf = true) :
    Calls Try.prog 7 #[.int .i64 n, .int .i64 lo, .int .i64 hi] w fun e w' => e = .returned (.bool true) ∧ Below w.heap.size w w' := by
  go_enter Try.func7, Try.ntmps7
  go_wp2_with fail
  refine (spec_Clamp n lo hi w).mono ?_
  rintro e w1 ⟨rfl, rfl⟩
  go_wp2_with fail
  refine (impl_Clamp n lo hi w).mono ?_
  rintro e w1 ⟨rfl, rfl⟩
  go_wp2_with fail
  go_ret
  exact ⟨rfl, Below.refl _ _⟩
end Go.Proofs.Ytdokgegnpepeeaa

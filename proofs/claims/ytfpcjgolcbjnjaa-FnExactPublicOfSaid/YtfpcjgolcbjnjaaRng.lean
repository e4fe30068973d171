/- The program's Clamp and inRange. No condition. -/
import Derived.Test.YtfpcjgolcbjnjaaProg
import Derived.Test.YtfpcjgolcbjnjaaB1
import Derived.Handy
namespace Go.Proofs.Ytfpcjgolcbjnjaa
open Go Go.RowKit
theorem dec_and {p q r : Prop} [Decidable p] [Decidable q] [Decidable r] (h : r ↔ p ∧ q) : decide r = (decide p && decide q) := by
  by_cases hp : p <;> by_cases hq : q <;> simp [h, hp, hq]
def clampI (n low high : Int) : Int := if high < low ∨ n < low then low else if high < n then high else n
theorem impl_Clamp (n lo hi : Int) (w : World) :
    Calls Try.prog 93 #[.int .i64 n, .int .i64 lo, .int .i64 hi] w fun e w' => e = .returned (.int .i64 (clampI n lo hi)) ∧ w = w' := by
  go_enter Try.func93, Try.ntmps93
  go_wp2
  all_goals go_ret
  all_goals exact ⟨ret_int (by unfold clampI; split at * <;> split <;> (try split) <;> omega), rfl⟩
theorem clampI_same {n lo hi : Int} (h : lo ≤ hi) : clampI n lo hi = n ↔ lo ≤ n ∧ n ≤ hi := by
  unfold clampI
  split
  · omega
  · split <;> omega
theorem impl_inRange (n lo hi : Int) (h : lo ≤ hi) (w : World) :
    Calls Try.prog 57 #[.int .i64 n, .int .i64 lo, .int .i64 hi] w fun e w' => e = .returned (.bool (decide (lo ≤ n ∧ n ≤ hi))) ∧ w = w' := by
  have hd : (clampI n lo hi == n) = decide (lo ≤ n ∧ n ≤ hi) := by rw [Bool.eq_iff_iff]; simp [clampI_same h]
  have Hd := Lib.hid hd
  clear hd
  go_enter Try.func57, Try.ntmps57
  go_wp2_with fail
  refine (impl_Clamp n lo hi w).mono ?_
  rintro e w1 ⟨rfl, rfl⟩
  go_wp2_with fail
  go_ret
  exact ⟨ret_bool Hd.out, rfl⟩
end Go.Proofs.Ytfpcjgolcbjnjaa

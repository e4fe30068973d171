/- The law FnExactIsLabel: the walk. -/
import Derived.Test.YtcmclcjhflaplaaProg
import Derived.Test.YtcmclcjhflaplaaB1
import Derived.Test.YtcmclcjhflaplaaLabX
namespace Go.Proofs.Ytcmclcjhflaplaa
open Go Go.RowKit
set_option maxHeartbeats 1000000 in
theorem FnExactIsLabel_walk (a0 : Int) (w : World) (_h0 : (Lit.int .i64 a0).wf = true) :
    Calls Try.prog 4 #[.int .i64 a0] w fun e w' => e = .returned (.bool true) ∧ Below w.heap.size w w' := by
  have low : Below w.heap.size w w := Below.refl _ _
  obtain ⟨R0, hR0⟩ : ∃ r, decide (isLbl a0) = r := ⟨_, rfl⟩
  have E := Lib.hid (show ∀ w e w', Post_bool (decide (isLbl a0)) w e w' → Post_bool R0 w e w' from by subst hR0; intro _ _ _ h; exact h)
  clear hR0
  go_enter Try.func4, Try.ntmps4
  go_wp2_with fail
  refine (ex_spec_IsLabel a0 w ).mono ?_
  intro e w1 h
  obtain ⟨rfl, hb⟩ := E.out _ _ _ h
  clear h
  replace low := low.trans (hb.mono low.size)
  have q2 := hb.size
  clear hb
  go_wp2_with fail
  refine (ex_impl_IsLabel a0 w1 ).mono ?_
  intro e w3 h
  obtain ⟨rfl, hb⟩ := E.out _ _ _ h
  clear h
  replace low := low.trans (hb.mono low.size)
  have q4 := hb.size
  clear hb
  go_wp2_with fail
  go_ret
  exact ⟨by first | rfl | simp, low⟩
end Go.Proofs.Ytcmclcjhflaplaa

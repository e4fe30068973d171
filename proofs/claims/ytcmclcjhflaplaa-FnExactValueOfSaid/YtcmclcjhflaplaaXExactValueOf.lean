/- The law FnExactValueOf: the walk. -/
import Derived.Test.YtcmclcjhflaplaaProg
import Derived.Test.YtcmclcjhflaplaaB1
import Derived.Test.YtcmclcjhflaplaaLabX
namespace Go.Proofs.Ytcmclcjhflaplaa
open Go Go.RowKit
set_option maxHeartbeats 1000000 in
theorem FnExactValueOf_walk (a0 : Int) (a1 : Int) (a2 : Int) (w : World) (_h0 : (Lit.int .i64 a0).wf = true) (_h1 : (Lit.int .i64 a1).wf = true) (_h2 : (Lit.int .i64 a2).wf = true) :
    Calls Try.prog 8 #[.int .i64 a0, .int .i64 a1, .int .i64 a2] w fun e w' => e = .returned (.bool true) ∧ Below w.heap.size w w' := by
  have low : Below w.heap.size w w := Below.refl _ _
  obtain ⟨R0, hR0⟩ : ∃ r, lvI a0 a1 a2 = r := ⟨_, rfl⟩
  have E := Lib.hid (show ∀ w e w', Post_int (lvI a0 a1 a2) w e w' → Post_int R0 w e w' from by subst hR0; intro _ _ _ h; exact h)
  clear hR0
  go_enter Try.func8, Try.ntmps8
  go_wp2_with fail
  refine (ex_spec_ValueOf a0 a1 a2 w ).mono ?_
  intro e w1 h
  obtain ⟨rfl, hb⟩ := E.out _ _ _ h
  clear h
  replace low := low.trans (hb.mono low.size)
  have q2 := hb.size
  clear hb
  go_wp2_with fail
  refine (ex_impl_ValueOf a0 a1 a2 w1 ).mono ?_
  intro e w3 h
  obtain ⟨rfl, hb⟩ := E.out _ _ _ h
  clear h
  replace low := low.trans (hb.mono low.size)
  have q4 := hb.size
  clear hb
  go_wp2_with fail
  go_ret
  exact ⟨by first | rfl | simp, low⟩
end Go.Proofs.Ytcmclcjhflaplaa

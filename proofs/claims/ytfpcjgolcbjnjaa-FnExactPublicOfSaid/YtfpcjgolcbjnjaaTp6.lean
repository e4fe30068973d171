/- The model's l06Tape: a tape that is not read too far. No condition. -/
import Derived.Test.YtfpcjgolcbjnjaaProg
import Derived.Test.YtfpcjgolcbjnjaaTapeS
namespace Go.Proofs.Ytfpcjgolcbjnjaa
open Go Go.RowKit
theorem spec_l06Tape (s a : Int) (r : Bool) (hr : decide (isTape s a ∧ a ≤ 900000) = r) (w : World) :
    Calls Try.prog 68 #[.agg #[.int .i64 s, .int .i64 a]] w fun e w' => e = .returned (.bool r) ∧ Below w.heap.size w w' := by
  subst hr
  have hx := heap_alloc_new w (.cells #[.int .i64 s, .int .i64 a] 29)
  have k0 : Below w.heap.size w (w.alloc (.cells #[.int .i64 s, .int .i64 a] 29)) := (Below.refl _ _).alloc (Nat.le_refl _) _
  go_enter Try.func68, Try.ntmps68
  go_wp2_with fail
  refine (spec_TapeOk s a _).mono ?_
  rintro e w1 ⟨rfl, hb1⟩
  have hc := box2_below hx hb1
  have hb2 := k0.trans (hb1.mono k0.size)
  obtain ⟨c0, c1, _, _⟩ := box2 hc
  by_cases hs : isTape s a
  · rw [decide_eq_true hs]
    go_wp2
    all_goals go_ret
    all_goals exact ⟨ret_bool (by simp [hs]), hb2⟩
  · rw [decide_eq_false hs]
    go_wp2_with fail
    go_ret
    exact ⟨ret_bool (by simp [hs]), hb2⟩
end Go.Proofs.Ytfpcjgolcbjnjaa

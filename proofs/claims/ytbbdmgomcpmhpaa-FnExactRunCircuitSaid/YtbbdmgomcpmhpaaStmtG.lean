/- Statements in the model: the fields that are used. No condition. -/
import Derived.Test.YtbbdmgomcpmhpaaProg
import Derived.Test.YtbbdmgomcpmhpaaB3
import Derived.Test.YtbbdmgomcpmhpaaB1
namespace Go.Proofs.Ytbbdmgomcpmhpaa
open Go Go.RowKit
theorem spec_l08Reg (x : Int) (b : Bool) (h : decide (isReg x) = b) (w : World) : Calls Try.prog 110 #[.int .i64 x] w fun e w' => e = .returned (.bool b) ∧ w = w' := by
  go_enter Try.func110, Try.ntmps110
  go_wp2_with fail
  refine (l01In_is x 0 7 b h w).mono ?_
  rintro e w' ⟨rfl, rfl⟩
  go_wp2_with fail
  go_ret
  exact ⟨rfl, rfl⟩
def plainI (op d a b c n : Int) : St := match tyOf op d a b c n with
  | some t => t.back
  | none => ⟨op, 0, 0, 0, 0, 0⟩
theorem three_boxes (w : World) (a b c : Obj) : Below w.heap.size w (((w.alloc a).alloc b).alloc c) := low_alloc (two_boxes w a b) c
set_option maxRecDepth 100000 in
set_option maxHeartbeats 1000000 in
theorem spec_l08Plain (op d a b c n : Int) (w : World) :
    Calls Try.prog 109 #[.agg #[.int .i64 op, .int .i64 d, .int .i64 a, .int .i64 b, .int .i64 c, .int .i64 n]] w fun e w' => e = .returned (plainI op d a b c n).v ∧ Below w.heap.size w w' := by
  unfold plainI
  rcases @tyOf_cases op d a b c n with ⟨h, e⟩ | ⟨h, e⟩ | ⟨h, e⟩ | ⟨h, e⟩ | ⟨h, e⟩ | ⟨h, e⟩ | ⟨h, e⟩ | ⟨h, e⟩ <;> rw [e] <;> clear e <;> simp only [Ty.back, St.v]
  case inl | inr.inl =>
    subst h
    go_enter Try.func109, Try.ntmps109
    go_wp2_with fail
    go_returns
    exact ⟨rfl, three_boxes _ _ _ _⟩
  case inr.inr.inl =>
    have h' : decide (3 ≤ op ∧ op ≤ 9) = true := decide_eq_true h
    go_enter Try.func109, Try.ntmps109
    go_wp2_with (first | (go_at_call 86; refine (l01In_is op 3 9 true h' _).mono ?_; rintro e w' ⟨rfl, rfl⟩))
    go_returns
    exact ⟨rfl, three_boxes _ _ _ _⟩
  case inr.inr.inr.inr.inr.inr.inr =>
    have h' : decide (3 ≤ op ∧ op ≤ 9) = false := decide_eq_false (by omega)
    rcases h with h | h
    all_goals
      go_enter Try.func109, Try.ntmps109
      go_wp2_with (first | (go_at_call 86; refine (l01In_is op 3 9 false h' _).mono ?_; rintro e w' ⟨rfl, rfl⟩))
      go_returns
      exact ⟨rfl, three_boxes _ _ _ _⟩
  all_goals
    subst h
    go_enter Try.func109, Try.ntmps109
    go_wp2_with (first | (go_at_call 86; refine (l01In_is _ 3 9 false (by decide) _).mono ?_; rintro e w' ⟨rfl, rfl⟩))
    go_returns
    exact ⟨rfl, three_boxes _ _ _ _⟩
theorem cell_at {W w : World} {p : Addr} {v : Value} (hc : W.cell? p = some v) (h : Below W.heap.size W w) : w.cell? p = some v := (h.cell (World.block_lt_of_cell? W p hc)).trans hc
end Go.Proofs.Ytbbdmgomcpmhpaa

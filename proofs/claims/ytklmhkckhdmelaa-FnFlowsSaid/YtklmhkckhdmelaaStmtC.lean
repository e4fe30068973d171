/- The program's typed statements: which are valid. No condition. -/
import Derived.Test.YtklmhkckhdmelaaProg
import Derived.Test.YtklmhkckhdmelaaStmtB
namespace Go.Proofs.Ytklmhkckhdmelaa
open Go Go.RowKit
set_option maxRecDepth 100000 in
theorem impl_numbersOk (t : Ty) (w : World) : Calls Try.prog 58 #[t.v] w fun e w' => e = .returned (.bool (decide t.nums)) ∧ Below w.heap.size w w' := by
  have h1 := as_con t
  have h2 := as_inp t
  have h3 := as_rep t
  cases t
  case con d n =>
    have hd : decide (Ty.con d n).nums = decide (0 ≤ n ∧ n ≤ 15) := by simp only [Ty.nums]
    rw [hd]
    clear hd
    simp only [Ty.v] at *
    go_enter Try.func58, Try.ntmps58
    go_wp2_with fail
    refine (impl_inRange n 0 15 (by omega) _).mono ?_
    rintro e w1 ⟨rfl, rfl⟩
    go_wp2_with fail
    go_ret
    exact ⟨ret_bool (by simp), below_alloc _ _⟩
  case inp d a n =>
    have hd : decide (Ty.inp d a n).nums = (decide (0 ≤ a ∧ a ≤ 4) && decide (0 ≤ n ∧ n ≤ 3)) := dec_and Iff.rfl
    rw [hd]
    clear hd
    simp only [Ty.v] at *
    by_cases h : 0 ≤ a ∧ a ≤ 4
    · have e1 := decide_eq_true h
      have c1 := impl_inRange a 0 4 (by omega)
      rw [e1] at *
      clear e1 h
      go_enter Try.func58, Try.ntmps58
      go_wp2_with fail
      refine (c1 _).mono ?_
      rintro e w1 ⟨rfl, rfl⟩
      go_wp2_with fail
      refine (impl_inRange n 0 3 (by omega) _).mono ?_
      rintro e w1 ⟨rfl, rfl⟩
      go_wp2_with fail
      go_ret
      exact ⟨by simp, below_alloc _ _⟩
    · have e1 := decide_eq_false h
      have c1 := impl_inRange a 0 4 (by omega)
      rw [e1] at *
      clear e1 h
      go_enter Try.func58, Try.ntmps58
      go_wp2_with fail
      refine (c1 _).mono ?_
      rintro e w1 ⟨rfl, rfl⟩
      go_wp2_with fail
      go_ret
      exact ⟨by simp, below_alloc _ _⟩
  case rep n =>
    have hd : decide (Ty.rep n).nums = decide (1 ≤ n ∧ n ≤ 8) := by simp only [Ty.nums]
    rw [hd]
    clear hd
    simp only [Ty.v] at *
    go_enter Try.func58, Try.ntmps58
    go_wp2_with fail
    refine (impl_inRange n 1 8 (by omega) _).mono ?_
    rintro e w1 ⟨rfl, rfl⟩
    go_wp2_with fail
    go_ret
    exact ⟨ret_bool (by simp), below_alloc _ _⟩
  all_goals
    simp only [Ty.v, Ty.nums] at *
    go_enter Try.func58, Try.ntmps58
    go_wp2_with fail
    go_ret
    exact ⟨ret_bool (decide_eq_true trivial).symm, Below.refl _ _⟩
theorem two_boxes (w : World) (a b : Obj) : Below w.heap.size w ((w.alloc a).alloc b) := low_alloc (below_alloc w a) b
def St.v (s : St) : Value := .agg #[.int .i64 s.op, .int .i64 s.d, .int .i64 s.a, .int .i64 s.b, .int .i64 s.c, .int .i64 s.n]
/-- The struct behind the interface, and the method that writes it back. -/
def Ty.g : Ty → Value
  | .con d n => .agg #[.int .i64 d, .int .i64 n]
  | .inp d a n => .agg #[.int .i64 d, .int .i64 a, .int .i64 n]
  | .bin op d a b => .agg #[.int .i64 op, .int .i64 d, .int .i64 a, .int .i64 b]
  | .mux d a b c => .agg #[.int .i64 d, .int .i64 a, .int .i64 b, .int .i64 c]
  | .out a => .agg #[.int .i64 a]
  | .rep n => .agg #[.int .i64 n]
  | .fin => .agg #[]
def Ty.fn : Ty → Nat
  | .con .. => 89
  | .inp .. => 85
  | .bin .. => 90
  | .mux .. => 91
  | .out .. => 86
  | .rep .. => 87
  | .fin => 88
set_option maxRecDepth 100000 in
theorem impl_stmt (t : Ty) (w : World) : Calls Try.prog t.fn #[t.g] w fun e w' => e = .returned t.back.v ∧ Below w.heap.size w w' := by
  cases t <;> simp only [Ty.g, Ty.fn, Ty.back, St.v]
  case con => go_enter Try.func89, Try.ntmps89; go_wp2_with fail; go_returns; exact ⟨rfl, two_boxes _ _ _⟩
  case inp => go_enter Try.func85, Try.ntmps85; go_wp2_with fail; go_returns; exact ⟨rfl, two_boxes _ _ _⟩
  case bin => go_enter Try.func90, Try.ntmps90; go_wp2_with fail; go_returns; exact ⟨rfl, two_boxes _ _ _⟩
  case mux => go_enter Try.func91, Try.ntmps91; go_wp2_with fail; go_returns; exact ⟨rfl, two_boxes _ _ _⟩
  case out => go_enter Try.func86, Try.ntmps86; go_wp2_with fail; go_returns; exact ⟨rfl, two_boxes _ _ _⟩
  case rep => go_enter Try.func87, Try.ntmps87; go_wp2_with fail; go_returns; exact ⟨rfl, two_boxes _ _ _⟩
  case fin => go_enter Try.func88, Try.ntmps88; go_wp2_with fail; go_returns; exact ⟨rfl, two_boxes _ _ _⟩
end Go.Proofs.Ytklmhkckhdmelaa

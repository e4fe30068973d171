/- The program's typed statements: what each function says of them. No condition. -/
import Derived.Test.YtbbdmgomcpmhpaaProg
import Derived.Test.YtbbdmgomcpmhpaaB1
import Derived.Handy
namespace Go.Proofs.Ytbbdmgomcpmhpaa
open Go Go.RowKit
/-- A typed statement. -/
inductive Ty where
  | con (d n : Int)
  | inp (d a n : Int)
  | bin (op d a b : Int)
  | mux (d a b c : Int)
  | out (a : Int)
  | rep (n : Int)
  | fin
/-- The interface value. -/
def Ty.v : Ty → Value
  | .con d n => .iface 97 (.agg #[.int .i64 d, .int .i64 n])
  | .inp d a n => .iface 99 (.agg #[.int .i64 d, .int .i64 a, .int .i64 n])
  | .bin op d a b => .iface 101 (.agg #[.int .i64 op, .int .i64 d, .int .i64 a, .int .i64 b])
  | .mux d a b c => .iface 103 (.agg #[.int .i64 d, .int .i64 a, .int .i64 b, .int .i64 c])
  | .out a => .iface 105 (.agg #[.int .i64 a])
  | .rep n => .iface 107 (.agg #[.int .i64 n])
  | .fin => .iface 109 (.agg #[])
/-- The statement written back. -/
def Ty.back : Ty → St
  | .con d n => ⟨1, d, 0, 0, 0, n⟩
  | .inp d a n => ⟨2, d, a, 0, 0, n⟩
  | .bin op d a b => ⟨op, d, a, b, 0, 0⟩
  | .mux d a b c => ⟨10, d, a, b, c, 0⟩
  | .out a => ⟨11, 0, a, 0, 0, 0⟩
  | .rep n => ⟨12, 0, 0, 0, 0, n⟩
  | .fin => ⟨13, 0, 0, 0, 0, 0⟩
def Ty.reads : Ty → List Int
  | .bin _ _ a b => [a, b]
  | .mux _ a b c => [a, b, c]
  | .out a => [a]
  | _ => []
def Ty.sets : Ty → Bool
  | .con .. | .inp .. | .bin .. | .mux .. => true
  | _ => false
def Ty.dst : Ty → Int
  | .con d _ | .inp d _ _ | .bin _ d _ _ | .mux d _ _ _ => d
  | _ => 0
def Ty.nums : Ty → Prop
  | .con _ n => 0 ≤ n ∧ n ≤ 15
  | .inp _ a n => (0 ≤ a ∧ a ≤ 4) ∧ 0 ≤ n ∧ n ≤ 3
  | .rep n => 1 ≤ n ∧ n ≤ 8
  | _ => True
instance (t : Ty) : Decidable t.nums := by unfold Ty.nums; cases t <;> infer_instance
theorem made_lit {w wr : World} (hb : Below w.heap.size w wr) (zs : List Int) (n : Nat) (hn : zs.length = n) (hn' : n ≤ 1000) {cs : Array Value} (hc : cs.toList = intVals zs) (H : Nat) (hH : wr.heap.size = H) :
    MadeI zs w (.returned (.slice (some ⟨H, 0, none⟩) n n)) (wr.alloc (.cells cs 3)) := by
  subst hH
  refine ⟨_, n, n, rfl, hn, ?_, low_alloc hb _⟩
  have hs : cs.size = n := by have := congrArg List.length hc; rw [intVals_length] at this; simpa [hn] using this
  refine OwnI.of_own ?_
  rw [← hc]
  exact own_whole wr cs 3 _ n hb.size (by unfold maxLen; omega) (by omega)
def usedV : Option Ty → Value
  | some t => .tuple #[t.v, .bool true]
  | none => .tuple #[.nilIface, .bool false]
def tyOf (op d a b c n : Int) : Option Ty :=
  if op = 1 then some (.con d n) else if op = 2 then some (.inp d a n) else if 3 ≤ op ∧ op ≤ 9 then some (.bin op d a b) else if op = 10 then some (.mux d a b c)
  else if op = 11 then some (.out a) else if op = 12 then some (.rep n) else if op = 13 then some .fin else none
section
variable {op d a b c n : Int} {t : Ty}
theorem tyOf_cases : (op = 1 ∧ tyOf op d a b c n = some (.con d n)) ∨ (op = 2 ∧ tyOf op d a b c n = some (.inp d a n)) ∨ ((3 ≤ op ∧ op ≤ 9) ∧ tyOf op d a b c n = some (.bin op d a b)) ∨ (op = 10 ∧ tyOf op d a b c n = some (.mux d a b c)) ∨
    (op = 11 ∧ tyOf op d a b c n = some (.out a)) ∨ (op = 12 ∧ tyOf op d a b c n = some (.rep n)) ∨ (op = 13 ∧ tyOf op d a b c n = some .fin) ∨ ((op < 1 ∨ 13 < op) ∧ tyOf op d a b c n = none) := by
  unfold tyOf
  by_cases h1 : op = 1
  · exact .inl ⟨h1, by rw [if_pos h1]⟩
  by_cases h2 : op = 2
  · exact .inr (.inl ⟨h2, by rw [if_neg h1, if_pos h2]⟩)
  by_cases h3 : 3 ≤ op ∧ op ≤ 9
  · exact .inr (.inr (.inl ⟨h3, by rw [if_neg h1, if_neg h2, if_pos h3]⟩))
  by_cases h4 : op = 10
  · exact .inr (.inr (.inr (.inl ⟨h4, by rw [if_neg h1, if_neg h2, if_neg h3, if_pos h4]⟩)))
  by_cases h5 : op = 11
  · exact .inr (.inr (.inr (.inr (.inl ⟨h5, by rw [if_neg h1, if_neg h2, if_neg h3, if_neg h4, if_pos h5]⟩))))
  by_cases h6 : op = 12
  · exact .inr (.inr (.inr (.inr (.inr (.inl ⟨h6, by rw [if_neg h1, if_neg h2, if_neg h3, if_neg h4, if_neg h5, if_pos h6]⟩)))))
  by_cases h7 : op = 13
  · exact .inr (.inr (.inr (.inr (.inr (.inr (.inl ⟨h7, by rw [if_neg h1, if_neg h2, if_neg h3, if_neg h4, if_neg h5, if_neg h6, if_pos h7]⟩))))))
  exact .inr (.inr (.inr (.inr (.inr (.inr (.inr ⟨by omega, by rw [if_neg h1, if_neg h2, if_neg h3, if_neg h4, if_neg h5, if_neg h6, if_neg h7]⟩))))))
end
theorem as_con (t : Ty) (w : World) : (Instr.typeAssert t.v 63 97 true).run Try.prog w = .ok (match t with
    | .con d n => .tuple #[.agg #[.int .i64 d, .int .i64 n], .bool true]
    | _ => .tuple #[.agg #[.int .i64 0, .int .i64 0], .bool false]) w := by cases t <;> kernel_rfl
theorem as_inp (t : Ty) (w : World) : (Instr.typeAssert t.v 63 99 true).run Try.prog w = .ok (match t with
    | .inp d a n => .tuple #[.agg #[.int .i64 d, .int .i64 a, .int .i64 n], .bool true]
    | _ => .tuple #[.agg #[.int .i64 0, .int .i64 0, .int .i64 0], .bool false]) w := by cases t <;> kernel_rfl
theorem as_bin (t : Ty) (w : World) : (Instr.typeAssert t.v 63 101 true).run Try.prog w = .ok (match t with
    | .bin op d a b => .tuple #[.agg #[.int .i64 op, .int .i64 d, .int .i64 a, .int .i64 b], .bool true]
    | _ => .tuple #[.agg #[.int .i64 0, .int .i64 0, .int .i64 0, .int .i64 0], .bool false]) w := by cases t <;> kernel_rfl
theorem as_mux (t : Ty) (w : World) : (Instr.typeAssert t.v 63 103 true).run Try.prog w = .ok (match t with
    | .mux d a b c => .tuple #[.agg #[.int .i64 d, .int .i64 a, .int .i64 b, .int .i64 c], .bool true]
    | _ => .tuple #[.agg #[.int .i64 0, .int .i64 0, .int .i64 0, .int .i64 0], .bool false]) w := by cases t <;> kernel_rfl
theorem as_out (t : Ty) (w : World) : (Instr.typeAssert t.v 63 105 true).run Try.prog w = .ok (match t with
    | .out a => .tuple #[.agg #[.int .i64 a], .bool true]
    | _ => .tuple #[.agg #[.int .i64 0], .bool false]) w := by cases t <;> kernel_rfl
theorem as_rep (t : Ty) (w : World) : (Instr.typeAssert t.v 63 107 true).run Try.prog w = .ok (match t with
    | .rep n => .tuple #[.agg #[.int .i64 n], .bool true]
    | _ => .tuple #[.agg #[.int .i64 0], .bool false]) w := by cases t <;> kernel_rfl
theorem as_fin (t : Ty) (w : World) : (Instr.typeAssert t.v 63 109 true).run Try.prog w = .ok (match t with
    | .fin => .tuple #[.agg #[], .bool true]
    | _ => .tuple #[.agg #[], .bool false]) w := by cases t <;> kernel_rfl
set_option maxRecDepth 100000 in
set_option maxHeartbeats 800000 in
theorem impl_usedFields (op d a b c n : Int) (w : World) :
    Calls Try.prog 31 #[.agg #[.int .i64 op, .int .i64 d, .int .i64 a, .int .i64 b, .int .i64 c, .int .i64 n]] w fun e w' => e = .returned (usedV (tyOf op d a b c n)) ∧ Below w.heap.size w w' := by
  rcases @tyOf_cases op d a b c n with ⟨h, e⟩ | ⟨h, e⟩ | ⟨h, e⟩ | ⟨h, e⟩ | ⟨h, e⟩ | ⟨h, e⟩ | ⟨h, e⟩ | ⟨h, e⟩ <;> rw [e] <;> clear e <;> simp only [usedV, Ty.v]
  case inr.inr.inl =>
    have h' : op = 3 ∨ op = 4 ∨ op = 5 ∨ op = 6 ∨ op = 7 ∨ op = 8 ∨ op = 9 := by omega
    clear h
    rcases h' with rfl | rfl | rfl | rfl | rfl | rfl | rfl
    all_goals
      go_enter Try.func31, Try.ntmps31
      go_wp2_with fail
      go_ret2
      exact ⟨rfl, below_alloc _ _⟩
  case inr.inr.inr.inr.inr.inr.inr =>
    rcases h with h | h
    all_goals
      go_enter Try.func31, Try.ntmps31
      go_wp2_with fail
      go_ret2
      exact ⟨rfl, below_alloc _ _⟩
  all_goals
    subst h
    go_enter Try.func31, Try.ntmps31
    go_wp2_with fail
    go_ret2
    exact ⟨rfl, below_alloc _ _⟩
set_option maxRecDepth 100000 in
theorem impl_readRegisters (t : Ty) (w : World) : Calls Try.prog 113 #[t.v] w (MadeI t.reads w) := by
  have h1 := as_bin t
  have h2 := as_mux t
  have h3 := as_out t
  cases t
  all_goals
    simp only [Ty.v, Ty.reads] at *
    go_enter Try.func113, Try.ntmps113
    go_wp2_with fail
    go_ret
    first
      | exact MadeI.nil_ (Below.refl _ _)
      | (refine made_lit (below_alloc _ _) _ _ rfl (by simp) rfl _ (by simp))
set_option maxRecDepth 100000 in
theorem impl_setRegister (t : Ty) (w : World) : Calls Try.prog 111 #[t.v] w fun e w' => e = .returned (.tuple #[.int .i64 t.dst, .bool t.sets]) ∧ Below w.heap.size w w' := by
  have h1 := as_con t
  have h2 := as_inp t
  have h3 := as_bin t
  have h4 := as_mux t
  cases t
  all_goals
    simp only [Ty.v, Ty.dst, Ty.sets] at *
    go_enter Try.func111, Try.ntmps111
    go_wp2_with fail
    go_ret2
    first | exact ⟨rfl, below_alloc _ _⟩ | exact ⟨rfl, Below.refl _ _⟩
end Go.Proofs.Ytbbdmgomcpmhpaa

/- The program's typed statements: ranges of numbers, lists of registers. No condition. And what goes with it. -/
import Derived.Test.YtbbdmgomcpmhpaaProg
import Derived.Test.YtbbdmgomcpmhpaaStmt
import Derived.Test.YtbbdmgomcpmhpaaRng
namespace Go.Proofs.Ytbbdmgomcpmhpaa
open Go Go.RowKit
theorem impl_notRegister (n : Int) (w : World) :
    Calls Try.prog 112 #[.int .i64 n] w fun e w' => e = .returned (.bool (decide (¬ isReg n))) ∧ w = w' := by
  go_enter Try.func112, Try.ntmps112
  go_wp2_with fail
  refine (impl_inRange n 0 7 (by omega) w).mono ?_
  rintro e w1 ⟨rfl, rfl⟩
  go_wp2_with fail
  go_ret
  exact ⟨ret_bool (by by_cases h0 : 0 ≤ n <;> by_cases h7 : n ≤ 7 <;> simp [isReg, h0, h7]), rfl⟩
def allReg (zs : List Int) : Prop := ∀ z ∈ zs, isReg z
instance (zs : List Int) : Decidable (allReg zs) := by unfold allReg; infer_instance
set_option maxRecDepth 100000 in
theorem impl_IndexFunc (A : Option Addr) (n c : Nat) (zs : List Int) (w : World) (hz : Ints w A zs) (hl : zs.length = n) (hn : n ≤ 2000000) :
    Calls Try.prog 93 #[.slice A n c, .func (.func 112) #[] #[]] w fun e w' => ∃ r : Int, e = .returned (.int .i64 r) ∧ (0 ≤ r ↔ ¬ allReg zs) ∧ w = w' := by
  have Hl := Lib.hid hl
  clear hl
  go_enter Try.func93, Try.ntmps93
  go_wp2_with fail
  go_loop [8] (fun i => ∃ k : Nat, k ≤ n ∧ i = .int .i64 k ∧ Hid (∀ j, j < k → isReg (zs.getD j 0))) (fun i => n - (intOf i).toNat)
  case atStart => exact ⟨0, Nat.zero_le _, rfl, fun _ h => by omega⟩
  case round =>
    obtain ⟨k, hk, rfl, hne⟩ := hrel
    by_cases hlt : k < n
    · obtain ⟨b, o, rfl, _, c0⟩ := hz.at_ (j := k) (by rw [Hl.out]; exact hlt)
      have Hyes : Hid (¬ isReg (zs.getD k 0) → ¬ allReg zs) := fun e h => (by
        rw [List.getD_eq_getElem?_getD, List.getElem?_eq_getElem (by rw [Hl.out]; exact hlt)] at e
        exact e (h _ (List.getElem_mem _)))
      have Hnx : Hid (isReg (zs.getD k 0) → ∀ j, j < k + 1 → isReg (zs.getD j 0)) := fun e j hj => by
        rcases Nat.lt_or_ge j k with h | h
        · exact hne.out j h
        · obtain rfl : j = k := by omega
          exact e
      generalize zs.getD k 0 = y at c0 Hyes Hnx
      have k0 : (0 : Int) ≤ k := by omega
      have k1 : (k : Int) < n := by omega
      clear hz
      by_cases hxy : isReg y
      · have Hn := Lib.hid (Hnx.out hxy)
        have hf : decide (¬ isReg y) = false := by simp [hxy]
        clear Hnx Hyes hxy
        go_wp2_with fail
        refine (impl_notRegister y w).mono ?_
        rw [hf]
        clear hf
        rintro e w1 ⟨rfl, rfl⟩
        go_wp2_with fail
        go_round
        case rel => exact ⟨k + 1, by omega, by go_num, Hn.out⟩
        case measure => simp [intOf]; omega
      · have Hy := Lib.hid (Hyes.out hxy)
        have hf : decide (¬ isReg y) = true := by simp [hxy]
        clear Hnx Hyes hxy
        go_wp2_with fail
        refine (impl_notRegister y w).mono ?_
        rw [hf]
        clear hf
        rintro e w1 ⟨rfl, rfl⟩
        go_wp2_with fail
        go_ret
        exact ⟨_, rfl, ⟨fun _ => Hy.out, fun _ => k0⟩, rfl⟩
    · obtain rfl : k = n := by omega
      have Hno : Hid (allReg zs) := (fun x h => by
        obtain ⟨j, hj, rfl⟩ := List.mem_iff_getElem.1 h
        have := hne.out j (by rw [← Hl.out]; exact hj)
        rw [List.getD_eq_getElem?_getD, List.getElem?_eq_getElem hj] at this
        exact this)
      go_wp2_with fail
      go_ret
      exact ⟨_, rfl, ⟨fun h => by omega, fun h => absurd Hno.out h⟩, rfl⟩
theorem impl_ContainsFunc (A : Option Addr) (n c : Nat) (zs : List Int) (w : World) (hz : Ints w A zs) (hl : zs.length = n) (hn : n ≤ 2000000) :
    Calls Try.prog 74 #[.slice A n c, .func (.func 112) #[] #[]] w fun e w' => e = .returned (.bool (!decide (allReg zs))) ∧ w = w' := by
  go_enter Try.func74, Try.ntmps74
  go_wp2_with fail
  refine (impl_IndexFunc A n c zs w hz hl hn).mono ?_
  rintro e w1 ⟨q, rfl, hq, rfl⟩
  have hd : decide (0 ≤ q) = !decide (allReg zs) := by
    by_cases h : allReg zs
    · rw [decide_eq_true h, decide_eq_false (fun e => hq.1 e h)]; rfl
    · rw [decide_eq_false h, decide_eq_true (hq.2 h)]; rfl
  have Hd := Lib.hid hd
  clear hq hd
  go_wp2_with fail
  go_ret
  exact ⟨ret_bool (by simpa using Hd.out), rfl⟩
def Ty.regs (t : Ty) : Prop := (t.sets = true → isReg t.dst) ∧ allReg t.reads
instance (t : Ty) : Decidable t.regs := by unfold Ty.regs; infer_instance
theorem reads_small (t : Ty) : t.reads.length ≤ 3 := by cases t <;> simp [Ty.reads]
set_option maxRecDepth 100000 in
theorem impl_registersOk (t : Ty) (w : World) : Calls Try.prog 95 #[t.v] w fun e w' => e = .returned (.bool (decide t.regs)) ∧ Below w.heap.size w w' := by
  have hs := reads_small t
  have c1 := impl_setRegister t w
  have c2 := impl_readRegisters t
  generalize hv : t.v = v at c1 c2 ⊢
  have hd : decide t.regs = (decide (t.sets = true → isReg t.dst) && decide (allReg t.reads)) := dec_and Iff.rfl
  rw [hd]
  generalize t.sets = b at *
  generalize t.dst = d at *
  generalize t.reads = zs at *
  clear hd hv
  by_cases hb : b = true
  · subst hb
    by_cases hr : isReg d
    · have hf : decide (¬ isReg d) = false := by simp [hr]
      have e1 : decide (true = true → isReg d) = true := by simp [hr]
      rw [e1]
      clear hr e1
      go_enter Try.func95, Try.ntmps95
      go_wp2_with fail
      refine c1.mono ?_
      rintro e w1 ⟨rfl, hb1⟩
      go_wp2_with fail
      refine (impl_notRegister d w1).mono ?_
      rw [hf]
      rintro e w1 ⟨rfl, rfl⟩
      go_wp2_with fail
      refine (c2 w1).mono ?_
      rintro e w2 ⟨A, m, c, rfl, hm, ho, hb2⟩
      go_wp2_with fail
      refine (impl_ContainsFunc A m c zs w2 (Ints.of_own ho.own) hm (by omega)).mono ?_
      rintro e w3 ⟨rfl, rfl⟩
      go_wp2_with fail
      go_ret
      exact ⟨by simp, hb1.trans (hb2.mono hb1.size)⟩
    · have hf : decide (¬ isReg d) = true := by simp [hr]
      have e1 : decide (true = true → isReg d) = false := by simp [hr]
      rw [e1]
      clear hr e1
      go_enter Try.func95, Try.ntmps95
      go_wp2_with fail
      refine c1.mono ?_
      rintro e w1 ⟨rfl, hb1⟩
      go_wp2_with fail
      refine (impl_notRegister d w1).mono ?_
      rw [hf]
      rintro e w1 ⟨rfl, rfl⟩
      go_wp2_with fail
      go_ret
      exact ⟨by simp, hb1⟩
  · obtain rfl : b = false := by simpa using hb
    have e1 : decide (false = true → isReg d) = true := by simp
    rw [e1]
    clear e1 hb
    go_enter Try.func95, Try.ntmps95
    go_wp2_with fail
    refine c1.mono ?_
    rintro e w1 ⟨rfl, hb1⟩
    go_wp2_with fail
    refine (c2 w1).mono ?_
    rintro e w2 ⟨A, m, c, rfl, hm, ho, hb2⟩
    go_wp2_with fail
    refine (impl_ContainsFunc A m c zs w2 (Ints.of_own ho.own) hm (by omega)).mono ?_
    rintro e w3 ⟨rfl, rfl⟩
    go_wp2_with fail
    go_ret
    exact ⟨by simp, hb1.trans (hb2.mono hb1.size)⟩
end Go.Proofs.Ytbbdmgomcpmhpaa

namespace Go.Proofs.Ytbbdmgomcpmhpaa
open Go Go.RowKit
set_option maxRecDepth 100000 in
theorem impl_numbersOk (t : Ty) (w : World) : Calls Try.prog 96 #[t.v] w fun e w' => e = .returned (.bool (decide t.nums)) ∧ Below w.heap.size w w' := by
  have h1 := as_con t
  have h2 := as_inp t
  have h3 := as_rep t
  cases t
  case con d n =>
    have hd : decide (Ty.con d n).nums = decide (0 ≤ n ∧ n ≤ 15) := by simp only [Ty.nums]
    rw [hd]
    clear hd
    simp only [Ty.v] at *
    go_enter Try.func96, Try.ntmps96
    go_wp2_with fail
    refine (impl_inRange n 0 15 (by omega) _).mono ?_
    rintro e w1 ⟨rfl, rfl⟩
    go_wp2_with fail
    go_ret
    exact ⟨ret_bool (by simp), below_alloc _ _⟩
  case inp d a n =>
    have hd : decide (Ty.inp d a n).nums = (decide (0 ≤ a ∧ a ≤ 4) && decide (0 ≤ n ∧ n ≤ 3)) := dec_and Iff.rfl
    rw [hd]
    clear hd
    simp only [Ty.v] at *
    by_cases h : 0 ≤ a ∧ a ≤ 4
    · have e1 := decide_eq_true h
      have c1 := impl_inRange a 0 4 (by omega)
      rw [e1] at *
      clear e1 h
      go_enter Try.func96, Try.ntmps96
      go_wp2_with fail
      refine (c1 _).mono ?_
      rintro e w1 ⟨rfl, rfl⟩
      go_wp2_with fail
      refine (impl_inRange n 0 3 (by omega) _).mono ?_
      rintro e w1 ⟨rfl, rfl⟩
      go_wp2_with fail
      go_ret
      exact ⟨by simp, below_alloc _ _⟩
    · have e1 := decide_eq_false h
      have c1 := impl_inRange a 0 4 (by omega)
      rw [e1] at *
      clear e1 h
      go_enter Try.func96, Try.ntmps96
      go_wp2_with fail
      refine (c1 _).mono ?_
      rintro e w1 ⟨rfl, rfl⟩
      go_wp2_with fail
      go_ret
      exact ⟨by simp, below_alloc _ _⟩
  case rep n =>
    have hd : decide (Ty.rep n).nums = decide (1 ≤ n ∧ n ≤ 8) := by simp only [Ty.nums]
    rw [hd]
    clear hd
    simp only [Ty.v] at *
    go_enter Try.func96, Try.ntmps96
    go_wp2_with fail
    refine (impl_inRange n 1 8 (by omega) _).mono ?_
    rintro e w1 ⟨rfl, rfl⟩
    go_wp2_with fail
    go_ret
    exact ⟨ret_bool (by simp), below_alloc _ _⟩
  all_goals
    simp only [Ty.v, Ty.nums] at *
    go_enter Try.func96, Try.ntmps96
    go_wp2_with fail
    go_ret
    exact ⟨ret_bool (decide_eq_true trivial).symm, Below.refl _ _⟩
theorem two_boxes (w : World) (a b : Obj) : Below w.heap.size w ((w.alloc a).alloc b) := low_alloc (below_alloc w a) b
def St.v (s : St) : Value := .agg #[.int .i64 s.op, .int .i64 s.d, .int .i64 s.a, .int .i64 s.b, .int .i64 s.c, .int .i64 s.n]
/-- The struct behind the interface, and the method that writes it back. -/
def Ty.g : Ty → Value
  | .con d n => .agg #[.int .i64 d, .int .i64 n]
  | .inp d a n => .agg #[.int .i64 d, .int .i64 a, .int .i64 n]
  | .bin op d a b => .agg #[.int .i64 op, .int .i64 d, .int .i64 a, .int .i64 b]
  | .mux d a b c => .agg #[.int .i64 d, .int .i64 a, .int .i64 b, .int .i64 c]
  | .out a => .agg #[.int .i64 a]
  | .rep n => .agg #[.int .i64 n]
  | .fin => .agg #[]
def Ty.fn : Ty → Nat
  | .con .. => 140
  | .inp .. => 141
  | .bin .. => 142
  | .mux .. => 143
  | .out .. => 144
  | .rep .. => 145
  | .fin => 146
set_option maxRecDepth 100000 in
theorem impl_stmt (t : Ty) (w : World) : Calls Try.prog t.fn #[t.g] w fun e w' => e = .returned t.back.v ∧ Below w.heap.size w w' := by
  cases t <;> simp only [Ty.g, Ty.fn, Ty.back, St.v]
  case con => go_enter Try.func140, Try.ntmps140; go_wp2_with fail; go_returns; exact ⟨rfl, two_boxes _ _ _⟩
  case inp => go_enter Try.func141, Try.ntmps141; go_wp2_with fail; go_returns; exact ⟨rfl, two_boxes _ _ _⟩
  case bin => go_enter Try.func142, Try.ntmps142; go_wp2_with fail; go_returns; exact ⟨rfl, two_boxes _ _ _⟩
  case mux => go_enter Try.func143, Try.ntmps143; go_wp2_with fail; go_returns; exact ⟨rfl, two_boxes _ _ _⟩
  case out => go_enter Try.func144, Try.ntmps144; go_wp2_with fail; go_returns; exact ⟨rfl, two_boxes _ _ _⟩
  case rep => go_enter Try.func145, Try.ntmps145; go_wp2_with fail; go_returns; exact ⟨rfl, two_boxes _ _ _⟩
  case fin => go_enter Try.func146, Try.ntmps146; go_wp2_with fail; go_returns; exact ⟨rfl, two_boxes _ _ _⟩
end Go.Proofs.Ytbbdmgomcpmhpaa

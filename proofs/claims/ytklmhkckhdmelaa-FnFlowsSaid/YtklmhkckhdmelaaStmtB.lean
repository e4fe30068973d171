/- The program's typed statements: ranges of numbers, lists of registers. No condition. -/
import Derived.Test.YtklmhkckhdmelaaProg
import Derived.Test.YtklmhkckhdmelaaStmt
namespace Go.Proofs.Ytklmhkckhdmelaa
open Go Go.RowKit
theorem dec_and {p q r : Prop} [Decidable p] [Decidable q] [Decidable r] (h : r ↔ p ∧ q) : decide r = (decide p && decide q) := by
  by_cases hp : p <;> by_cases hq : q <;> simp [h, hp, hq]
def clampI (n low high : Int) : Int := if high < low ∨ n < low then low else if high < n then high else n
theorem impl_Clamp (n lo hi : Int) (w : World) :
    Calls Try.prog 64 #[.int .i64 n, .int .i64 lo, .int .i64 hi] w fun e w' => e = .returned (.int .i64 (clampI n lo hi)) ∧ w = w' := by
  go_enter Try.func64, Try.ntmps64
  go_wp2
  all_goals go_ret
  all_goals exact ⟨ret_int (by unfold clampI; split at * <;> split <;> (try split) <;> omega), rfl⟩
theorem clampI_same {n lo hi : Int} (h : lo ≤ hi) : clampI n lo hi = n ↔ lo ≤ n ∧ n ≤ hi := by
  unfold clampI
  split
  · omega
  · split <;> omega
theorem impl_inRange (n lo hi : Int) (h : lo ≤ hi) (w : World) :
    Calls Try.prog 52 #[.int .i64 n, .int .i64 lo, .int .i64 hi] w fun e w' => e = .returned (.bool (decide (lo ≤ n ∧ n ≤ hi))) ∧ w = w' := by
  have hd : (clampI n lo hi == n) = decide (lo ≤ n ∧ n ≤ hi) := by rw [Bool.eq_iff_iff]; simp [clampI_same h]
  have Hd := Lib.hid hd
  clear hd
  go_enter Try.func52, Try.ntmps52
  go_wp2_with fail
  refine (impl_Clamp n lo hi w).mono ?_
  rintro e w1 ⟨rfl, rfl⟩
  go_wp2_with fail
  go_ret
  exact ⟨ret_bool Hd.out, rfl⟩
theorem impl_notRegister (n : Int) (w : World) :
    Calls Try.prog 65 #[.int .i64 n] w fun e w' => e = .returned (.bool (decide (¬ isReg n))) ∧ w = w' := by
  go_enter Try.func65, Try.ntmps65
  go_wp2_with fail
  refine (impl_inRange n 0 7 (by omega) w).mono ?_
  rintro e w1 ⟨rfl, rfl⟩
  go_wp2_with fail
  go_ret
  exact ⟨ret_bool (by by_cases h0 : 0 ≤ n <;> by_cases h7 : n ≤ 7 <;> simp [isReg, h0, h7]), rfl⟩
def allReg (zs : List Int) : Prop := ∀ z ∈ zs, isReg z
instance (zs : List Int) : Decidable (allReg zs) := by unfold allReg; infer_instance
set_option maxRecDepth 100000 in
theorem impl_IndexFunc (A : Option Addr) (n c : Nat) (zs : List Int) (w : World) (hz : Ints w A zs) (hl : zs.length = n) (hn : n ≤ 2000000) :
    Calls Try.prog 69 #[.slice A n c, .func (.func 65) #[] #[]] w fun e w' => ∃ r : Int, e = .returned (.int .i64 r) ∧ (0 ≤ r ↔ ¬ allReg zs) ∧ w = w' := by
  have Hl := Lib.hid hl
  clear hl
  go_enter Try.func69, Try.ntmps69
  go_wp2_with fail
  go_loop [8] (fun i => ∃ k : Nat, k ≤ n ∧ i = .int .i64 k ∧ Hid (∀ j, j < k → isReg (zs.getD j 0))) (fun i => n - (intOf i).toNat)
  case atStart => exact ⟨0, Nat.zero_le _, rfl, fun _ h => by omega⟩
  case round =>
    obtain ⟨k, hk, rfl, hne⟩ := hrel
    by_cases hlt : k < n
    · obtain ⟨b, o, rfl, _, c0⟩ := hz.at_ (j := k) (by rw [Hl.out]; exact hlt)
      have Hyes : Hid (¬ isReg (zs.getD k 0) → ¬ allReg zs) := fun e h => (by
        rw [List.getD_eq_getElem?_getD, List.getElem?_eq_getElem (by rw [Hl.out]; exact hlt)] at e
        exact e (h _ (List.getElem_mem _)))
      have Hnx : Hid (isReg (zs.getD k 0) → ∀ j, j < k + 1 → isReg (zs.getD j 0)) := fun e j hj => by
        rcases Nat.lt_or_ge j k with h | h
        · exact hne.out j h
        · obtain rfl : j = k := by omega
          exact e
      generalize zs.getD k 0 = y at c0 Hyes Hnx
      have k0 : (0 : Int) ≤ k := by omega
      have k1 : (k : Int) < n := by omega
      clear hz
      by_cases hxy : isReg y
      · have Hn := Lib.hid (Hnx.out hxy)
        have hf : decide (¬ isReg y) = false := by simp [hxy]
        clear Hnx Hyes hxy
        go_wp2_with fail
        refine (impl_notRegister y w).mono ?_
        rw [hf]
        clear hf
        rintro e w1 ⟨rfl, rfl⟩
        go_wp2_with fail
        go_round
        case rel => exact ⟨k + 1, by omega, by go_num, Hn.out⟩
        case measure => simp [intOf]; omega
      · have Hy := Lib.hid (Hyes.out hxy)
        have hf : decide (¬ isReg y) = true := by simp [hxy]
        clear Hnx Hyes hxy
        go_wp2_with fail
        refine (impl_notRegister y w).mono ?_
        rw [hf]
        clear hf
        rintro e w1 ⟨rfl, rfl⟩
        go_wp2_with fail
        go_ret
        exact ⟨_, rfl, ⟨fun _ => Hy.out, fun _ => k0⟩, rfl⟩
    · obtain rfl : k = n := by omega
      have Hno : Hid (allReg zs) := (fun x h => by
        obtain ⟨j, hj, rfl⟩ := List.mem_iff_getElem.1 h
        have := hne.out j (by rw [← Hl.out]; exact hj)
        rw [List.getD_eq_getElem?_getD, List.getElem?_eq_getElem hj] at this
        exact this)
      go_wp2_with fail
      go_ret
      exact ⟨_, rfl, ⟨fun h => by omega, fun h => absurd Hno.out h⟩, rfl⟩
theorem impl_ContainsFunc (A : Option Addr) (n c : Nat) (zs : List Int) (w : World) (hz : Ints w A zs) (hl : zs.length = n) (hn : n ≤ 2000000) :
    Calls Try.prog 66 #[.slice A n c, .func (.func 65) #[] #[]] w fun e w' => e = .returned (.bool (!decide (allReg zs))) ∧ w = w' := by
  go_enter Try.func66, Try.ntmps66
  go_wp2_with fail
  refine (impl_IndexFunc A n c zs w hz hl hn).mono ?_
  rintro e w1 ⟨q, rfl, hq, rfl⟩
  have hd : decide (0 ≤ q) = !decide (allReg zs) := by
    by_cases h : allReg zs
    · rw [decide_eq_true h, decide_eq_false (fun e => hq.1 e h)]; rfl
    · rw [decide_eq_false h, decide_eq_true (hq.2 h)]; rfl
  have Hd := Lib.hid hd
  clear hq hd
  go_wp2_with fail
  go_ret
  exact ⟨ret_bool (by simpa using Hd.out), rfl⟩
def Ty.regs (t : Ty) : Prop := (t.sets = true → isReg t.dst) ∧ allReg t.reads
instance (t : Ty) : Decidable t.regs := by unfold Ty.regs; infer_instance
theorem reads_small (t : Ty) : t.reads.length ≤ 3 := by cases t <;> simp [Ty.reads]
set_option maxRecDepth 100000 in
theorem impl_registersOk (t : Ty) (w : World) : Calls Try.prog 57 #[t.v] w fun e w' => e = .returned (.bool (decide t.regs)) ∧ Below w.heap.size w w' := by
  have hs := reads_small t
  have c1 := impl_setRegister t w
  have c2 := impl_readRegisters t
  generalize hv : t.v = v at c1 c2 ⊢
  have hd : decide t.regs = (decide (t.sets = true → isReg t.dst) && decide (allReg t.reads)) := dec_and Iff.rfl
  rw [hd]
  generalize t.sets = b at *
  generalize t.dst = d at *
  generalize t.reads = zs at *
  clear hd hv
  by_cases hb : b = true
  · subst hb
    by_cases hr : isReg d
    · have hf : decide (¬ isReg d) = false := by simp [hr]
      have e1 : decide (true = true → isReg d) = true := by simp [hr]
      rw [e1]
      clear hr e1
      go_enter Try.func57, Try.ntmps57
      go_wp2_with fail
      refine c1.mono ?_
      rintro e w1 ⟨rfl, hb1⟩
      go_wp2_with fail
      refine (impl_notRegister d w1).mono ?_
      rw [hf]
      rintro e w1 ⟨rfl, rfl⟩
      go_wp2_with fail
      refine (c2 w1).mono ?_
      rintro e w2 ⟨A, m, c, rfl, hm, ho, hb2⟩
      go_wp2_with fail
      refine (impl_ContainsFunc A m c zs w2 (Ints.of_own ho.own) hm (by omega)).mono ?_
      rintro e w3 ⟨rfl, rfl⟩
      go_wp2_with fail
      go_ret
      exact ⟨by simp, hb1.trans (hb2.mono hb1.size)⟩
    · have hf : decide (¬ isReg d) = true := by simp [hr]
      have e1 : decide (true = true → isReg d) = false := by simp [hr]
      rw [e1]
      clear hr e1
      go_enter Try.func57, Try.ntmps57
      go_wp2_with fail
      refine c1.mono ?_
      rintro e w1 ⟨rfl, hb1⟩
      go_wp2_with fail
      refine (impl_notRegister d w1).mono ?_
      rw [hf]
      rintro e w1 ⟨rfl, rfl⟩
      go_wp2_with fail
      go_ret
      exact ⟨by simp, hb1⟩
  · obtain rfl : b = false := by simpa using hb
    have e1 : decide (false = true → isReg d) = true := by simp
    rw [e1]
    clear e1 hb
    go_enter Try.func57, Try.ntmps57
    go_wp2_with fail
    refine c1.mono ?_
    rintro e w1 ⟨rfl, hb1⟩
    go_wp2_with fail
    refine (c2 w1).mono ?_
    rintro e w2 ⟨A, m, c, rfl, hm, ho, hb2⟩
    go_wp2_with fail
    refine (impl_ContainsFunc A m c zs w2 (Ints.of_own ho.own) hm (by omega)).mono ?_
    rintro e w3 ⟨rfl, rfl⟩
    go_wp2_with fail
    go_ret
    exact ⟨by simp, hb1.trans (hb2.mono hb1.size)⟩
end Go.Proofs.Ytklmhkckhdmelaa

/- Boolean circuits: CountGates, the program's and the model's; the wires that a gate uses. No condition. -/
import Derived.Test.YtfpcjgolcbjnjaaProg
import Derived.Test.YtfpcjgolcbjnjaaCirC
import Derived.Test.YtfpcjgolcbjnjaaB1
namespace Go.Proofs.Ytfpcjgolcbjnjaa
open Go Go.RowKit
theorem cnt_yes {z : List Int} {k : Int} {i : Nat} (h : gk z i = k) : cnt z k (i + 1) = cnt z k i + 1 := by rw [cnt, if_pos h]
theorem cnt_no {z : List Int} {k : Int} {i : Nat} (h : ¬ gk z i = k) : cnt z k (i + 1) = cnt z k i := by rw [cnt, if_neg h]; rfl
set_option maxRecDepth 100000 in
set_option maxHeartbeats 1000000 in
theorem impl_CountGates (A0 : Option Addr) (n0 c0 : Nat) (z0 : List Int) (A1 : Option Addr) (n1 c1 : Nat) (kind : Int) (w : World) (h0 : Ints w A0 z0) (l0 : z0.length = n0 * 3) (m0 : n0 ≤ 1000000000000) :
    Calls Try.prog 86 #[.agg #[.slice A0 n0 c0, .slice A1 n1 c1], .int .i64 kind] w fun e w' => e = .returned (.int .i64 (cnt z0 kind n0 : Nat)) ∧ Below w.heap.size w w' := by
  have low := below_alloc w (.cells #[.slice A0 n0 c0, .slice A1 n1 c1] 27)
  have bx := heap_alloc_new w (.cells #[.slice A0 n0 c0, .slice A1 n1 c1] 27)
  have L0 := Lib.hid l0
  clear l0
  go_enter Try.func86, Try.ntmps86
  go_wp2_with fail
  generalize hw0 : w.alloc (.cells #[.slice A0 n0 c0, .slice A1 n1 c1] 27) = w0 at *
  clear hw0
  have gl := heap_lt bx
  have g0 := (blk (i := 0) bx rfl).1
  go_wp2_with fail
  go_loopw [5, 11] (fun v i wr => ∃ k C : Nat, k ≤ n0 ∧ i = .int .i64 k ∧ v = .int .i64 (C : Int) ∧ Hid (C = cnt z0 kind k) ∧ Below w0.heap.size w0 wr) (fun _ i _ => n0 - (intOf i).toNat)
  case atStart => exact ⟨0, 0, Nat.zero_le _, rfl, rfl, Lib.hid rfl, Below.refl _ _⟩
  case round =>
    clear g0
    obtain ⟨k, CC, hk, rfl, rfl, hC, hb⟩ := hrel
    have e9 := hC.out
    subst e9
    clear hC
    have bx2 := heap_below bx hb
    have g0 := (blk (i := 0) bx2 rfl).1
    by_cases hlt : k < n0
    · obtain ⟨g, o, rfl, -, q0⟩ := (h0.bound.below (low.trans (hb.mono low.size))).at_ (j := k * 3) (by rw [L0.out]; omega)
      obtain ⟨_, _, e1, -, q1⟩ := (h0.bound.below (low.trans (hb.mono low.size))).at_ (j := k * 3 + 1) (by rw [L0.out]; omega)
      injection e1 with e1; injection e1 with e11 e12; subst e11 e12
      rw [← Nat.add_assoc] at q1
      obtain ⟨_, _, e1, -, q2⟩ := (h0.bound.below (low.trans (hb.mono low.size))).at_ (j := k * 3 + 2) (by rw [L0.out]; omega)
      injection e1 with e1; injection e1 with e11 e12; subst e11 e12
      rw [← Nat.add_assoc] at q2
      have Hy : Hid (z0.getD (k * 3) 0 = kind → cnt z0 kind (k + 1) = cnt z0 kind k + 1) := fun h => cnt_yes h
      have Hn : Hid (¬ z0.getD (k * 3) 0 = kind → cnt z0 kind (k + 1) = cnt z0 kind k) := fun h => cnt_no h
      have hcl := cnt_le z0 kind k
      generalize z0.getD (k * 3) 0 = x at *
      generalize z0.getD (k * 3 + 1) 0 = y at *
      generalize z0.getD (k * 3 + 2) 0 = z at *
      generalize cnt z0 kind k = C at *
      have kk0 : (0 : Int) ≤ k := by omega
      have kk1 : (k : Int) < n0 := by omega
      have C0 : (0 : Int) ≤ C := by omega
      have C1 : (C : Int) < n0 := by omega
      clear h0 bx bx2
      by_cases hx : x = kind
      · have He := Lib.hid (Hy.out hx)
        have hbe : (x == kind) = true := beq_iff_eq.2 hx
        have hb2 := Lib.hid (hb.trans ((below_alloc wr (.cells #[.int .i64 x, .int .i64 y, .int .i64 z] 86)).mono hb.size))
        clear Hy Hn hx hb
        go_wp2_with fail
        go_roundw
        case rel => exact ⟨k + 1, C + 1, by omega, by go_num, by go_num, Lib.hid He.out.symm, hb2.out⟩
        case measure => simp [intOf]; omega
      · have He := Lib.hid (Hn.out hx)
        have hbe : (x == kind) = false := beq_eq_false_iff_ne.2 hx
        have hb2 := Lib.hid (hb.trans ((below_alloc wr (.cells #[.int .i64 x, .int .i64 y, .int .i64 z] 86)).mono hb.size))
        clear Hy Hn hx hb
        go_wp2_with fail
        go_roundw
        case rel => exact ⟨k + 1, C, by omega, by go_num, rfl, Lib.hid He.out.symm, hb2.out⟩
        case measure => simp [intOf]; omega
    · obtain rfl : k = n0 := by omega
      have low2 := Lib.hid (low.trans (hb.mono low.size))
      clear h0 bx bx2 hb
      go_wp2_with fail
      go_ret
      exact ⟨by first | rfl | simp, low2.out⟩
set_option maxRecDepth 100000 in
set_option maxHeartbeats 1000000 in
theorem spec_CountGates (A0 : Option Addr) (n0 c0 : Nat) (z0 : List Int) (A1 : Option Addr) (n1 c1 : Nat) (kind : Int) (w : World) (h0 : Ints w A0 z0) (l0 : z0.length = n0 * 3) (m0 : n0 ≤ 1000000000000) :
    Calls Try.prog 17 #[.agg #[.slice A0 n0 c0, .slice A1 n1 c1], .int .i64 kind] w fun e w' => e = .returned (.int .i64 (cnt z0 kind n0 : Nat)) ∧ Below w.heap.size w w' := by
  have low := below_alloc w (.cells #[.slice A0 n0 c0, .slice A1 n1 c1] 27)
  have bx := heap_alloc_new w (.cells #[.slice A0 n0 c0, .slice A1 n1 c1] 27)
  have L0 := Lib.hid l0
  clear l0
  go_enter Try.func17, Try.ntmps17
  go_wp2_with fail
  generalize hw0 : w.alloc (.cells #[.slice A0 n0 c0, .slice A1 n1 c1] 27) = w0 at *
  clear hw0
  have gl := heap_lt bx
  have g0 := (blk (i := 0) bx rfl).1
  go_wp2_with fail
  go_loopw [5, 6] (fun v i wr => ∃ k C : Nat, k ≤ n0 ∧ i = .int .i64 k ∧ v = .int .i64 (C : Int) ∧ Hid (C = cnt z0 kind k) ∧ Below w0.heap.size w0 wr) (fun _ i _ => n0 - (intOf i).toNat)
  case atStart => exact ⟨0, 0, Nat.zero_le _, rfl, rfl, Lib.hid rfl, Below.refl _ _⟩
  case round =>
    clear g0
    obtain ⟨k, CC, hk, rfl, rfl, hC, hb⟩ := hrel
    have e9 := hC.out
    subst e9
    clear hC
    have bx2 := heap_below bx hb
    have g0 := (blk (i := 0) bx2 rfl).1
    by_cases hlt : k < n0
    · obtain ⟨g, o, rfl, -, q0⟩ := (h0.bound.below (low.trans (hb.mono low.size))).at_ (j := k * 3) (by rw [L0.out]; omega)
      have Hy : Hid (z0.getD (k * 3) 0 = kind → cnt z0 kind (k + 1) = cnt z0 kind k + 1) := fun h => cnt_yes h
      have Hn : Hid (¬ z0.getD (k * 3) 0 = kind → cnt z0 kind (k + 1) = cnt z0 kind k) := fun h => cnt_no h
      have hcl := cnt_le z0 kind k
      generalize z0.getD (k * 3) 0 = x at *
      generalize cnt z0 kind k = C at *
      have kk0 : (0 : Int) ≤ k := by omega
      have kk1 : (k : Int) < n0 := by omega
      have C0 : (0 : Int) ≤ C := by omega
      have C1 : (C : Int) < n0 := by omega
      clear h0 bx bx2
      by_cases hx : x = kind
      · have He := Lib.hid (Hy.out hx)
        have hbe : (x == kind) = true := beq_iff_eq.2 hx
        have hb2 := Lib.hid (hb)
        clear Hy Hn hx hb
        go_wp2_with fail
        go_roundw
        case rel => exact ⟨k + 1, C + 1, by omega, by go_num, by go_num, Lib.hid He.out.symm, hb2.out⟩
        case measure => simp [intOf]; omega
      · have He := Lib.hid (Hn.out hx)
        have hbe : (x == kind) = false := beq_eq_false_iff_ne.2 hx
        have hb2 := Lib.hid (hb)
        clear Hy Hn hx hb
        go_wp2_with fail
        go_roundw
        case rel => exact ⟨k + 1, C, by omega, by go_num, rfl, Lib.hid He.out.symm, hb2.out⟩
        case measure => simp [intOf]; omega
    · obtain rfl : k = n0 := by omega
      have low2 := Lib.hid (low.trans (hb.mono low.size))
      clear h0 bx bx2 hb
      go_wp2_with fail
      go_ret
      exact ⟨by first | rfl | simp, low2.out⟩
/-- The wires that a gate uses. -/
def opsL (k a b : Int) : List Int := if k = 3 ∨ k = 4 then [a, b] else if k = 5 then [a] else []
end Go.Proofs.Ytfpcjgolcbjnjaa

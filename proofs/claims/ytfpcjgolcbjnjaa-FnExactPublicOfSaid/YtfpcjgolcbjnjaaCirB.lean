/- Boolean circuits: CircuitOk and the tests of bits, the program's and the model's. No condition. -/
import Derived.Test.YtfpcjgolcbjnjaaProg
import Derived.Test.YtfpcjgolcbjnjaaCirA
import Derived.Test.YtfpcjgolcbjnjaaB1
import Derived.BigQuiet
namespace Go.Proofs.Ytfpcjgolcbjnjaa
open Go Go.RowKit
theorem allBit_dec (zs : List Int) : allBit zs ↔ ∀ k, k < zs.length → isBit (zs.getD k 0) := ⟨fun h k _ => h.at_ k, allBit_of⟩
theorem bits_dec {zs : List Int} (h : zs.length = 80) : decide (bitsOk zs) = decide (allBit zs) := by
  by_cases hb : allBit zs
  · rw [decide_eq_true hb, decide_eq_true (show bitsOk zs from ⟨h, hb⟩)]
  · rw [decide_eq_false hb, decide_eq_false (fun h : bitsOk zs => hb h.2)]
set_option maxRecDepth 100000 in
theorem impl_IndexBit (A : Option Addr) (n c : Nat) (zs : List Int) (w : World) (hz : Ints w A zs) (hl : zs.length = n) (hn : n ≤ 1000000000000) :
    Calls Try.prog 89 #[.slice A n c, .func (.func 54) #[] #[]] w fun e w' => ∃ r : Int, e = .returned (.int .i64 r) ∧ (0 ≤ r ↔ ¬ allBit zs) ∧ w = w' := by
  have Hl := Lib.hid hl
  clear hl
  go_enter Try.func89, Try.ntmps89
  go_wp2_with fail
  go_loop [8] (fun i => ∃ k : Nat, k ≤ n ∧ i = .int .i64 k ∧ Hid (∀ j, j < k → isBit (zs.getD j 0))) (fun i => n - (intOf i).toNat)
  case atStart => exact ⟨0, Nat.zero_le _, rfl, fun _ h => by omega⟩
  case round =>
    obtain ⟨k, hk, rfl, hne⟩ := hrel
    by_cases hlt : k < n
    · obtain ⟨b, o, rfl, _, c0⟩ := hz.at_ (j := k) (by rw [Hl.out]; exact hlt)
      have Hyes : Hid (¬ isBit (zs.getD k 0) → ¬ allBit zs) := fun e => allBit_no e
      have Hnx : Hid (isBit (zs.getD k 0) → ∀ j, j < k + 1 → isBit (zs.getD j 0)) := fun e j hj => by
        rcases Nat.lt_or_ge j k with h | h
        · exact hne.out j h
        · obtain rfl : j = k := by omega
          exact e
      generalize zs.getD k 0 = y at c0 Hyes Hnx
      have k0 : (0 : Int) ≤ k := by omega
      have k1 : (k : Int) < n := by omega
      clear hz
      by_cases hxy : isBit y
      · have Hn := Lib.hid (Hnx.out hxy)
        have cN := impl_notBit y true (decide_eq_true hxy) w
        clear Hnx Hyes hxy
        go_wp2_with fail
        refine cN.mono ?_
        rintro e w1 ⟨rfl, rfl⟩
        go_wp2_with fail
        go_round
        case rel => exact ⟨k + 1, by omega, by go_num, Hn.out⟩
        case measure => simp [intOf]; omega
      · have Hy := Lib.hid (Hyes.out hxy)
        have cN := impl_notBit y false (decide_eq_false hxy) w
        clear Hnx Hyes hxy
        go_wp2_with fail
        refine cN.mono ?_
        rintro e w1 ⟨rfl, rfl⟩
        go_wp2_with fail
        go_ret
        exact ⟨_, rfl, ⟨fun _ => Hy.out, fun _ => k0⟩, rfl⟩
    · obtain rfl : k = n := by omega
      have Hno : Hid (allBit zs) := (allBit_dec zs).2 (fun j hj => hne.out j (by rw [← Hl.out]; exact hj))
      go_wp2_with fail
      go_ret
      exact ⟨_, rfl, ⟨fun h => by omega, fun h => absurd Hno.out h⟩, rfl⟩
theorem impl_ContainsBit (A : Option Addr) (n c : Nat) (zs : List Int) (r : Bool) (hr : decide (allBit zs) = r) (w : World) (hz : Ints w A zs) (hl : zs.length = n) (hn : n ≤ 1000000000000) :
    Calls Try.prog 53 #[.slice A n c, .func (.func 54) #[] #[]] w fun e w' => e = .returned (.bool (!r)) ∧ w = w' := by
  go_enter Try.func53, Try.ntmps53
  go_wp2_with fail
  refine (impl_IndexBit A n c zs w hz hl hn).mono ?_
  rintro e w1 ⟨q, rfl, hq, rfl⟩
  have hd : decide (0 ≤ q) = !r := by
    rw [← hr]
    by_cases h : allBit zs
    · rw [decide_eq_true h, decide_eq_false (fun e => hq.1 e h)]; rfl
    · rw [decide_eq_false h, decide_eq_true (hq.2 h)]; rfl
  have Hd := Lib.hid hd
  clear hq hd
  go_wp2_with fail
  go_ret
  exact ⟨ret_bool Hd.out, rfl⟩
set_option maxRecDepth 100000 in
theorem spec_l13Bits (A : Option Addr) (n c : Nat) (zs : List Int) (r : Bool) (hr : decide (bitsOk zs) = r) (w : World) (hz : Ints w A zs) (hl : zs.length = n) (hn : n ≤ 1000000000000) :
    Calls Try.prog 77 #[.slice A n c, .int .i64 80] w fun e w' => e = .returned (.bool r) ∧ w = w' := by
  have Hl := Lib.hid hl
  have Hr := Lib.hid hr
  clear hl hr
  go_enter Try.func77, Try.ntmps77
  go_wp2_with fail
  go_loop [5] (fun i => ∃ k : Nat, k ≤ n ∧ i = .int .i64 k ∧ Hid (∀ j, j < k → isBit (zs.getD j 0))) (fun i => n - (intOf i).toNat)
  case atStart => exact ⟨0, Nat.zero_le _, rfl, fun _ h => by omega⟩
  case round =>
    obtain ⟨k, hk, rfl, hne⟩ := hrel
    by_cases hlt : k < n
    · obtain ⟨b, o, rfl, _, c0⟩ := hz.at_ (j := k) (by rw [Hl.out]; exact hlt)
      have Hyes : Hid (¬ isBit (zs.getD k 0) → ¬ allBit zs) := fun e => allBit_no e
      have Hnx : Hid (isBit (zs.getD k 0) → ∀ j, j < k + 1 → isBit (zs.getD j 0)) := fun e j hj => by
        rcases Nat.lt_or_ge j k with h | h
        · exact hne.out j h
        · obtain rfl : j = k := by omega
          exact e
      generalize zs.getD k 0 = y at c0 Hyes Hnx
      have k0 : (0 : Int) ≤ k := by omega
      have k1 : (k : Int) < n := by omega
      clear hz
      by_cases hxy : isBit y
      · have Hn := Lib.hid (Hnx.out hxy)
        have cN := l01In_is y 0 1 true (decide_eq_true hxy) w
        clear Hnx Hyes hxy
        go_wp2_with fail
        refine cN.mono ?_
        rintro e w1 ⟨rfl, rfl⟩
        go_wp2_with fail
        go_round
        case rel => exact ⟨k + 1, by omega, by go_num, Hn.out⟩
        case measure => simp [intOf]; omega
      · have Hy := Lib.hid (Hyes.out hxy)
        have cN := l01In_is y 0 1 false (decide_eq_false hxy) w
        clear Hnx Hyes hxy
        go_wp2_with fail
        refine cN.mono ?_
        rintro e w1 ⟨rfl, rfl⟩
        go_wp2_with fail
        go_ret
        exact ⟨ret_bool (by rw [← Hr.out, decide_eq_false (fun h : bitsOk zs => Hy.out h.2)]), rfl⟩
    · obtain rfl : k = n := by omega
      have Hno : Hid (allBit zs) := (allBit_dec zs).2 (fun j hj => hne.out j (by rw [← Hl.out]; exact hj))
      by_cases h8 : k = 80
      · subst h8
        go_wp2_with fail
        go_ret
        exact ⟨ret_bool (by rw [← Hr.out, decide_eq_true (show bitsOk zs from ⟨Hl.out, Hno.out⟩)]), rfl⟩
      · have hne : ((k : Int) == 80) = false := beq_eq_false_iff_ne.2 (by omega)
        have Hd : Hid (decide (bitsOk zs) = false) := decide_eq_false (fun h => h8 (by rw [← Hl.out]; exact h.1))
        go_wp2_with fail
        go_ret
        exact ⟨ret_bool (by rw [← Hr.out, Hd.out]), rfl⟩
set_option maxRecDepth 100000 in
set_option maxHeartbeats 1000000 in
theorem impl_CircuitOk (A0 : Option Addr) (n0 c0 : Nat) (z0 : List Int) (A1 : Option Addr) (n1 c1 : Nat) (z1 : List Int) (r : Bool) (hr : decide (cirOk z0 n0 z1) = r) (w : World) (h0 : Ints w A0 z0) (l0 : z0.length = n0 * 3) (m0 : n0 ≤ 1000000000000) (h1 : Ints w A1 z1) (l1 : z1.length = n1) (m1 : n1 ≤ 1000000000000) :
    Calls Try.prog 47 #[.agg #[.slice A0 n0 c0, .slice A1 n1 c1]] w fun e w' => e = .returned (.bool r) ∧ Below w.heap.size w w' := by
  have low := below_alloc w (.cells #[.slice A0 n0 c0, .slice A1 n1 c1] 27)
  have bx := heap_alloc_new w (.cells #[.slice A0 n0 c0, .slice A1 n1 c1] 27)
  have HR := Lib.hid hr
  have L0 := Lib.hid l0
  have L1 := Lib.hid l1
  clear hr l0 l1
  by_cases h6 : 6000 < n0
  · obtain rfl : r = false := HR.out.symm.trans (decide_eq_false (fun h => by have := h.1; omega))
    clear HR h0 h1
    go_enter Try.func47, Try.ntmps47
    go_wp2_with fail
    go_ret
    exact ⟨rfl, low⟩
  go_enter Try.func47, Try.ntmps47
  go_wp2_with fail
  generalize hw0 : w.alloc (.cells #[.slice A0 n0 c0, .slice A1 n1 c1] 27) = w0 at *
  clear hw0
  have gl := heap_lt bx
  have g0 := (blk (i := 0) bx rfl).1
  go_wp2_with fail
  go_loopw [14] (fun i wr => ∃ k : Nat, k ≤ n0 ∧ i = .int .i64 k ∧ Hid (gatesOk z0 k) ∧ Below w0.heap.size w0 wr) (fun i _ => n0 - (intOf i).toNat)
  case atStart => exact ⟨0, Nat.zero_le _, rfl, (fun i hi => by omega : gatesOk z0 0), Below.refl _ _⟩
  case round =>
    clear g0
    obtain ⟨k, hk, rfl, hG, hb⟩ := hrel
    have bx2 := heap_below bx hb
    have g0 := (blk (i := 0) bx2 rfl).1
    have g1 := (blk (i := 1) bx2 rfl).1
    by_cases hlt : k < n0
    · obtain ⟨g, o, rfl, -, q0⟩ := (h0.bound.below (low.trans (hb.mono low.size))).at_ (j := k * 3) (by rw [L0.out]; omega)
      obtain ⟨_, _, e1, -, q1⟩ := (h0.bound.below (low.trans (hb.mono low.size))).at_ (j := k * 3 + 1) (by rw [L0.out]; omega)
      injection e1 with e1; injection e1 with e11 e12; subst e11 e12
      rw [← Nat.add_assoc] at q1
      obtain ⟨_, _, e1, -, q2⟩ := (h0.bound.below (low.trans (hb.mono low.size))).at_ (j := k * 3 + 2) (by rw [L0.out]; omega)
      injection e1 with e1; injection e1 with e11 e12; subst e11 e12
      rw [← Nat.add_assoc] at q2
      have Hno : Hid (¬ gateOk (z0.getD (k * 3) 0) (z0.getD (k * 3 + 1) 0) (z0.getD (k * 3 + 2) 0) k → decide (cirOk z0 n0 z1) = false) := fun h => decide_eq_false (fun e => h (e.2.1 k hlt))
      have Hnx : Hid (gateOk (z0.getD (k * 3) 0) (z0.getD (k * 3 + 1) 0) (z0.getD (k * 3 + 2) 0) k → gatesOk z0 (k + 1)) := fun h i hi => by
        rcases Nat.lt_or_ge i k with h' | h'
        · exact hG.out i h'
        · obtain rfl : i = k := by omega
          exact h
      generalize z0.getD (k * 3) 0 = x at q0 Hno Hnx
      generalize z0.getD (k * 3 + 1) 0 = y at q1 Hno Hnx
      generalize z0.getD (k * 3 + 2) 0 = z at q2 Hno Hnx
      have k0 : (0 : Int) ≤ k := by omega
      have k1 : (k : Int) < n0 := by omega
      clear h0 h1 bx bx2 hG
      by_cases hg : gateOk x y z k
      · have Hn := Lib.hid (Hnx.out hg)
        have cG := impl_GateOk x y z k true (decide_eq_true hg)
        clear Hno Hnx hg
        go_wp2_with fail
        refine (cG _).mono ?_
        rintro e w3 ⟨rfl, hb3⟩
        have hb4 := hb.trans (((below_alloc _ _).trans (hb3.mono (by simp))).mono hb.size)
        clear hb3 hb g0 g1 q0 q1 q2 cG
        go_wp2_with fail
        go_roundw
        case rel => exact ⟨k + 1, by omega, by go_num, Hn.out, hb4⟩
        case measure => simp [intOf]; omega
      · have Hf := Lib.hid (HR.out.symm.trans (Hno.out hg))
        have cG := impl_GateOk x y z k false (decide_eq_false hg)
        clear Hno Hnx hg
        go_wp2_with fail
        refine (cG _).mono ?_
        rintro e w3 ⟨rfl, hb3⟩
        have hb4 := hb.trans (((below_alloc _ _).trans (hb3.mono (by simp))).mono hb.size)
        have low4 := Lib.hid (low.trans (hb4.mono low.size))
        clear hb3 hb g0 g1 q0 q1 q2 cG low hb4
        go_wp2_with fail
        go_ret
        exact ⟨ret_bool (by rw [Hf.out]), low4.out⟩
    · obtain rfl : k = n0 := by omega
      clear h0
      have HG := hG
      have hi1 := (h1.bound.below (low.trans (hb.mono low.size))).ints (Nat.le_trans low.size hb.size)
      have low2 := Lib.hid (low.trans (hb.mono low.size))
      have gl2 := heap_lt bx2
      clear hG h1 bx hlt low hb
      have k0 : (0 : Int) ≤ k := by omega
      go_wp2_with fail
      go_loop [27] (fun i => ∃ j : Nat, j ≤ n1 ∧ i = .int .i64 j ∧ Hid (∀ i, i < j → 0 ≤ z1.getD i 0 ∧ z1.getD i 0 < (k : Int))) (fun i => n1 - (intOf i).toNat)
      case atStart => exact ⟨0, Nat.zero_le _, rfl, (show ∀ i, i < 0 → _ from fun i hi => by omega)⟩
      case round =>
        obtain ⟨j, hj, rfl, hW⟩ := hrel
        by_cases hlt : j < n1
        · obtain ⟨b, o, rfl, _, c0⟩ := hi1.at_ (j := j) (by rw [L1.out]; exact hlt)
          have Hyes : Hid (¬ (0 ≤ z1.getD j 0 ∧ z1.getD j 0 < (k : Int)) → decide (cirOk z0 k z1) = false) := fun e => decide_eq_false (fun h => wiresOk_no (by rw [L1.out]; exact hlt) e h.2.2)
          have Hnx : Hid (0 ≤ z1.getD j 0 ∧ z1.getD j 0 < (k : Int) → ∀ i, i < j + 1 → 0 ≤ z1.getD i 0 ∧ z1.getD i 0 < (k : Int)) := fun e i hi => by
            rcases Nat.lt_or_ge i j with h | h
            · exact hW.out i h
            · obtain rfl : i = j := by omega
              exact e
          generalize z1.getD j 0 = y at c0 Hyes Hnx
          have j0 : (0 : Int) ≤ j := by omega
          have j1 : (j : Int) < n1 := by omega
          by_cases hxy : 0 ≤ y ∧ y < (k : Int)
          · have Hn := Lib.hid (Hnx.out hxy)
            have cN := impl_isWire y k true (decide_eq_true hxy)
            clear Hnx Hyes hxy
            go_wp2_with fail
            refine (cN _).mono ?_
            rintro e w4 ⟨rfl, rfl⟩
            go_wp2_with fail
            go_round
            case rel => exact ⟨j + 1, by omega, by go_num, Hn.out⟩
            case measure => simp [intOf]; omega
          · have Hf := Lib.hid (HR.out.symm.trans (Hyes.out hxy))
            have cN := impl_isWire y k false (decide_eq_false hxy)
            clear Hnx Hyes hxy
            go_wp2_with fail
            refine (cN _).mono ?_
            rintro e w4 ⟨rfl, rfl⟩
            go_wp2_with fail
            go_ret
            exact ⟨ret_bool (by rw [Hf.out]), low2.out⟩
        · obtain rfl : j = n1 := by omega
          have HW : Hid (wiresOk z1 k) := wiresOk_of (fun i hi => hW.out i (by rw [← L1.out]; exact hi))
          have Ht : Hid (r = true) := HR.out.symm.trans (decide_eq_true ⟨by omega, HG.out, HW.out⟩)
          go_wp2_with fail
          go_ret
          exact ⟨ret_bool (by rw [Ht.out]), low2.out⟩
set_option maxRecDepth 100000 in
set_option maxHeartbeats 1000000 in
theorem spec_CircuitOk (A0 : Option Addr) (n0 c0 : Nat) (z0 : List Int) (A1 : Option Addr) (n1 c1 : Nat) (z1 : List Int) (r : Bool) (hr : decide (cirOk z0 n0 z1) = r) (w : World) (h0 : Ints w A0 z0) (l0 : z0.length = n0 * 3) (m0 : n0 ≤ 1000000000000) (h1 : Ints w A1 z1) (l1 : z1.length = n1) (m1 : n1 ≤ 1000000000000) :
    Calls Try.prog 67 #[.agg #[.slice A0 n0 c0, .slice A1 n1 c1]] w fun e w' => e = .returned (.bool r) ∧ Below w.heap.size w w' := by
  have low := below_alloc w (.cells #[.slice A0 n0 c0, .slice A1 n1 c1] 27)
  have bx := heap_alloc_new w (.cells #[.slice A0 n0 c0, .slice A1 n1 c1] 27)
  have HR := Lib.hid hr
  have L0 := Lib.hid l0
  have L1 := Lib.hid l1
  clear hr l0 l1
  go_enter Try.func67, Try.ntmps67
  go_wp2_with fail
  generalize hw0 : w.alloc (.cells #[.slice A0 n0 c0, .slice A1 n1 c1] 27) = w0 at *
  clear hw0
  have gl := heap_lt bx
  have g0 := (blk (i := 0) bx rfl).1
  go_wp2_with fail
  go_loopw [3] (fun i wr => ∃ k : Nat, k ≤ n0 ∧ i = .int .i64 k ∧ Hid (gatesOk z0 k) ∧ Below w0.heap.size w0 wr) (fun i _ => n0 - (intOf i).toNat)
  case atStart => exact ⟨0, Nat.zero_le _, rfl, (fun i hi => by omega : gatesOk z0 0), Below.refl _ _⟩
  case round =>
    clear g0
    obtain ⟨k, hk, rfl, hG, hb⟩ := hrel
    have bx2 := heap_below bx hb
    have g0 := (blk (i := 0) bx2 rfl).1
    have g1 := (blk (i := 1) bx2 rfl).1
    by_cases hlt : k < n0
    · obtain ⟨g, o, rfl, -, q0⟩ := (h0.bound.below (low.trans (hb.mono low.size))).at_ (j := k * 3) (by rw [L0.out]; omega)
      obtain ⟨_, _, e1, -, q1⟩ := (h0.bound.below (low.trans (hb.mono low.size))).at_ (j := k * 3 + 1) (by rw [L0.out]; omega)
      injection e1 with e1; injection e1 with e11 e12; subst e11 e12
      rw [← Nat.add_assoc] at q1
      obtain ⟨_, _, e1, -, q2⟩ := (h0.bound.below (low.trans (hb.mono low.size))).at_ (j := k * 3 + 2) (by rw [L0.out]; omega)
      injection e1 with e1; injection e1 with e11 e12; subst e11 e12
      rw [← Nat.add_assoc] at q2
      have Hno : Hid (¬ gateOk (z0.getD (k * 3) 0) (z0.getD (k * 3 + 1) 0) (z0.getD (k * 3 + 2) 0) k → decide (cirOk z0 n0 z1) = false) := fun h => decide_eq_false (fun e => h (e.2.1 k hlt))
      have Hnx : Hid (gateOk (z0.getD (k * 3) 0) (z0.getD (k * 3 + 1) 0) (z0.getD (k * 3 + 2) 0) k → gatesOk z0 (k + 1)) := fun h i hi => by
        rcases Nat.lt_or_ge i k with h' | h'
        · exact hG.out i h'
        · obtain rfl : i = k := by omega
          exact h
      generalize z0.getD (k * 3) 0 = x at q0 Hno Hnx
      generalize z0.getD (k * 3 + 1) 0 = y at q1 Hno Hnx
      generalize z0.getD (k * 3 + 2) 0 = z at q2 Hno Hnx
      have k0 : (0 : Int) ≤ k := by omega
      have k1 : (k : Int) < n0 := by omega
      clear h0 h1 bx bx2 hG
      by_cases hg : gateOk x y z k
      · have Hn := Lib.hid (Hnx.out hg)
        have cG := spec_GateOk x y z k true (decide_eq_true hg)
        clear Hno Hnx hg
        go_wp2_with fail
        refine (cG _).mono ?_
        rintro e w3 ⟨rfl, hb3⟩
        have hb4 := hb.trans (hb3.mono hb.size)
        clear hb3 hb g0 g1 q0 q1 q2 cG
        go_wp2_with fail
        go_roundw
        case rel => exact ⟨k + 1, by omega, by go_num, Hn.out, hb4⟩
        case measure => simp [intOf]; omega
      · have Hf := Lib.hid (HR.out.symm.trans (Hno.out hg))
        have cG := spec_GateOk x y z k false (decide_eq_false hg)
        clear Hno Hnx hg
        go_wp2_with fail
        refine (cG _).mono ?_
        rintro e w3 ⟨rfl, hb3⟩
        have hb4 := hb.trans (hb3.mono hb.size)
        have low4 := Lib.hid (low.trans (hb4.mono low.size))
        clear hb3 hb g0 g1 q0 q1 q2 cG low hb4
        go_wp2_with fail
        go_ret
        exact ⟨ret_bool (by rw [Hf.out]), low4.out⟩
    · obtain rfl : k = n0 := by omega
      clear h0
      have HG := hG
      have hi1 := (h1.bound.below (low.trans (hb.mono low.size))).ints (Nat.le_trans low.size hb.size)
      have low2 := Lib.hid (low.trans (hb.mono low.size))
      have gl2 := heap_lt bx2
      clear hG h1 bx hlt low hb
      have k0 : (0 : Int) ≤ k := by omega
      go_wp2_with fail
      go_loopw [4] (fun i wr2 => ∃ j : Nat, j ≤ n1 ∧ i = .int .i64 j ∧ Hid (∀ i, i < j → 0 ≤ z1.getD i 0 ∧ z1.getD i 0 < (k : Int)) ∧ Below wr.heap.size wr wr2) (fun i _ => n1 - (intOf i).toNat)
      case atStart => exact ⟨0, Nat.zero_le _, rfl, (show ∀ i, i < 0 → _ from fun i hi => by omega), Below.refl _ _⟩
      case round =>
        obtain ⟨j, hj, rfl, hW, hbd⟩ := hrel
        have hi2 := hi1.below hbd
        have bx3 := heap_below bx2 hbd
        have low3 := Lib.hid (low2.out.trans (hbd.mono low2.out.size))
        clear g0 g1
        have g0 := (blk (i := 0) bx3 rfl).1
        have g1 := (blk (i := 1) bx3 rfl).1
        by_cases hlt : j < n1
        · obtain ⟨b, o, rfl, _, c0⟩ := hi2.at_ (j := j) (by rw [L1.out]; exact hlt)
          have Hyes : Hid (¬ (0 ≤ z1.getD j 0 ∧ z1.getD j 0 < (k : Int)) → decide (cirOk z0 k z1) = false) := fun e => decide_eq_false (fun h => wiresOk_no (by rw [L1.out]; exact hlt) e h.2.2)
          have Hnx : Hid (0 ≤ z1.getD j 0 ∧ z1.getD j 0 < (k : Int) → ∀ i, i < j + 1 → 0 ≤ z1.getD i 0 ∧ z1.getD i 0 < (k : Int)) := fun e i hi => by
            rcases Nat.lt_or_ge i j with h | h
            · exact hW.out i h
            · obtain rfl : i = j := by omega
              exact e
          generalize z1.getD j 0 = y at c0 Hyes Hnx
          have j0 : (0 : Int) ≤ j := by omega
          have j1 : (j : Int) < n1 := by omega
          by_cases hxy : 0 ≤ y ∧ y < (k : Int)
          · have Hn := Lib.hid (Hnx.out hxy)
            have cN := l01In_is y 0 ((k : Int) - 1) true (decide_eq_true (by omega))
            clear Hnx Hyes hxy
            go_wp2_with fail
            go_quiet (first | (go_at_call 61; refine Calls.quiet_of_same ((cN _).mono fun _ _ ⟨he, hw⟩ => ⟨he, hw.symm⟩)))
            go_wp2_with fail
            go_roundw
            case rel => exact ⟨j + 1, by omega, by go_num, Hn.out, below_drewN hbd _⟩
            case measure => simp [intOf]; omega
          · have Hf := Lib.hid (HR.out.symm.trans (Hyes.out hxy))
            have cN := l01In_is y 0 ((k : Int) - 1) false (decide_eq_false (by omega))
            clear Hnx Hyes hxy
            go_wp2_with fail
            go_quiet (first | (go_at_call 61; refine Calls.quiet_of_same ((cN _).mono fun _ _ ⟨he, hw⟩ => ⟨he, hw.symm⟩)))
            go_wp2_with fail
            go_ret
            exact ⟨ret_bool (by rw [Hf.out]), below_drewN low3.out _⟩
        · obtain rfl : j = n1 := by omega
          have HW : Hid (wiresOk z1 k) := wiresOk_of (fun i hi => hW.out i (by rw [← L1.out]; exact hi))
          by_cases h6 : k ≤ 6000
          · have Ht : Hid (r = true) := HR.out.symm.trans (decide_eq_true ⟨h6, HG.out, HW.out⟩)
            go_wp2_with fail
            go_ret
            exact ⟨ret_bool (by rw [Ht.out]; simp; omega), low3.out⟩
          · have Ht : Hid (r = false) := HR.out.symm.trans (decide_eq_false (fun e => h6 e.1))
            go_wp2_with fail
            go_ret
            exact ⟨ret_bool (by rw [Ht.out]; simp; omega), low3.out⟩
end Go.Proofs.Ytfpcjgolcbjnjaa

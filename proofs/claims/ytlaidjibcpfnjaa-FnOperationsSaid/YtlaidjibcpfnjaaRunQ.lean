/- The law FnOperations: the walk. No condition. -/
import Derived.Test.YtlaidjibcpfnjaaProg
import Derived.Test.YtlaidjibcpfnjaaRunO
import Derived.Test.YtlaidjibcpfnjaaFieldW
namespace Go.Proofs.Ytlaidjibcpfnjaa
open Go Go.RowKit
theorem ops_fin : ∀ a b : Fin 16, operI 4 (operI 3 (a.val : Int) (b.val : Int)) (b.val : Int) = (a.val : Int) ∧ operI 8 (a.val : Int) (b.val : Int) + operI 8 (b.val : Int) (a.val : Int) + operI 9 (a.val : Int) (b.val : Int) = 1 ∧ operI 5 (a.val : Int) (b.val : Int) = ((a.val : Int) * (b.val : Int)) % 16 ∧
    operI 7 (operI 7 (a.val : Int) (b.val : Int)) (b.val : Int) = (a.val : Int) ∧ operI 3 (a.val : Int) (b.val : Int) = ((a.val : Int) + (b.val : Int)) % 16 := by decide +kernel
theorem ops_law {a b : Int} (ha : 0 ≤ a ∧ a < 16) (hb : 0 ≤ b ∧ b < 16) : operI 4 (operI 3 a b) b = a ∧ operI 8 a b + operI 8 b a + operI 9 a b = 1 ∧ operI 5 a b = (a * b) % 16 ∧ operI 7 (operI 7 a b) b = a ∧ operI 3 a b = (a + b) % 16 := by
  have h := ops_fin ⟨a.toNat, by omega⟩ ⟨b.toNat, by omega⟩
  simpa only [Int.toNat_of_nonneg ha.1, Int.toNat_of_nonneg hb.1] using h
set_option maxHeartbeats 2000000 in
set_option maxRecDepth 100000 in
theorem FnOperations_walk (A : Option Addr) (n c : Nat) (w : World) (hb : Bytes w.heap.size w A n) (hm : n ≤ 9223372036854775807) :
    Calls Try.prog 4 #[.slice A n c] w fun e w' => e = .returned (.bool true) ∧ Below w.heap.size w w' := by
  by_cases hn : 1048576 < n
  · go_enter Try.func4, Try.ntmps4
    go_wp2_with fail
    refine (big_any A n c w true (by simpa using hn) hm).mono ?_
    rintro e w1 ⟨rfl, rfl⟩
    go_wp2_with fail
    go_ret
    exact ⟨rfl, Below.refl _ _⟩
  · have hn' : n ≤ 1048576 := by omega
    go_enter Try.func4, Try.ntmps4
    go_wp2_with fail
    refine (big_any A n c w false (by simpa using hn') hm).mono ?_
    rintro e w1 ⟨rfl, rfl⟩
    go_wp2_with fail
    refine (DrawPlaces_any A n c w hb (by omega)).mono ?_
    rintro e w1 ⟨g, cap, zs, rfl, hl, hp, hown, low⟩
    have p0 := hp.at_ (j := 0) (by omega)
    have p1 := hp.at_ (j := 1) (by omega)
    have iz := Ints.of_own hown
    obtain ⟨_, _, e1, _, c0⟩ := iz.at_ (j := 0) (by omega)
    injection e1 with e1; injection e1 with e2 e3; subst e2 e3
    obtain ⟨_, _, e1, _, c1⟩ := iz.at_ (j := 1) (by omega)
    injection e1 with e1; injection e1 with e2 e3; subst e2 e3
    simp only [Nat.zero_add] at c0 c1
    generalize zs.getD 0 0 = z0 at *
    generalize zs.getD 1 0 = z1 at *
    obtain ⟨p00, p01⟩ := p0
    obtain ⟨p10, p11⟩ := p1
    have ha : 0 ≤ z0 % 16 ∧ z0 % 16 < 16 := by omega
    have hbb : 0 ≤ z1 % 16 ∧ z1 % 16 < 16 := by omega
    have hlaw := ops_law ha hbb
    clear hn hn' hm hb hp hl iz hown
    go_wp2_with fail
    generalize z0 % 16 = a at *
    generalize z1 % 16 = b at *
    obtain ⟨a0, a1⟩ := ha
    obtain ⟨b0, b1⟩ := hbb
    obtain ⟨l1, l2, l3, l4, l5⟩ := hlaw
    have c3 := impl_Operate 3 a b
    have c8 := impl_Operate 8 a b
    have c8' := impl_Operate 8 b a
    have c9 := impl_Operate 9 a b
    have c5 := impl_Operate 5 a b
    have c7 := impl_Operate 7 a b
    have hx := oper_four (op := 3) (a := a) (b := b) (by omega) (by omega) (by omega)
    have h8 := oper_four (op := 8) (a := a) (b := b) (by omega) (by omega) (by omega)
    have h8' := oper_four (op := 8) (a := b) (b := a) (by omega) (by omega) (by omega)
    have h9 := oper_four (op := 9) (a := a) (b := b) (by omega) (by omega) (by omega)
    have hmul := four_mul (a := a) (b := b) (by omega) (by omega)
    obtain ⟨m0, m1⟩ := hmul
    generalize operI 3 a b = x3 at *
    generalize operI 8 a b = x8 at *
    generalize operI 8 b a = y8 at *
    generalize operI 9 a b = x9 at *
    generalize operI 5 a b = x5 at *
    generalize operI 7 a b = x7 at *
    have c4 := impl_Operate 4 x3 b
    have c7' := impl_Operate 7 x7 b
    rw [l1] at c4
    rw [l4] at c7'
    have L2 := Lib.hid l2
    have L3 := Lib.hid l3
    have L5 := Lib.hid l5
    clear l1 l4 l2 l3 l5
    obtain ⟨h80, h81⟩ := h8
    obtain ⟨h80', h81'⟩ := h8'
    obtain ⟨h90, h91⟩ := h9
    refine (c3 w1).mono ?_
    rintro e w2 ⟨rfl, hb2⟩
    replace low := low.trans (hb2.mono low.size)
    clear hb2 c0 c1 c3
    go_wp2_with fail
    refine (c8 w2).mono ?_
    rintro e w3 ⟨rfl, hb2⟩
    replace low := low.trans (hb2.mono low.size)
    clear hb2
    go_wp2_with fail
    refine (c8' w3).mono ?_
    rintro e w4 ⟨rfl, hb2⟩
    replace low := low.trans (hb2.mono low.size)
    clear hb2
    go_wp2_with fail
    refine (c9 w4).mono ?_
    rintro e w5 ⟨rfl, hb2⟩
    replace low := low.trans (hb2.mono low.size)
    clear hb2
    go_wp2_with fail
    refine (c4 w5).mono ?_
    rintro e w6 ⟨rfl, hb2⟩
    have l2 := L2.out
    replace low := low.trans (hb2.mono low.size)
    clear hb2
    go_wp2_with fail
    refine (c5 w6).mono ?_
    rintro e w7 ⟨rfl, hb2⟩
    clear l2
    have l3 := L3.out.symm
    replace low := low.trans (hb2.mono low.size)
    clear hb2
    go_wp2_with fail
    refine (c7 w7).mono ?_
    rintro e w8 ⟨rfl, hb2⟩
    replace low := low.trans (hb2.mono low.size)
    clear hb2
    go_wp2_with fail
    refine (c7' w8).mono ?_
    rintro e w9 ⟨rfl, hb2⟩
    clear l3
    have l5 := L5.out.symm
    replace low := low.trans (hb2.mono low.size)
    clear hb2
    go_wp2_with fail
    go_ret
    exact ⟨by simp, low⟩
end Go.Proofs.Ytlaidjibcpfnjaa

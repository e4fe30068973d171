/- The laws FnExactTossCheat and FnExactTossCoin. -/
import Derived.Test.YtedfblgopmiheaaProg
import Derived.Test.YtedfblgopmiheaaToss
import Derived.Deep.RegionLaw
namespace Go.Proofs.Ytedfblgopmiheaa
open Go Go.RowKit
theorem Ints.drew {w : World} {A : Option Addr} {zs : List Int} (h : Ints w A zs) : Ints w.drew A zs := h
theorem Ints.in_ {w w' : World} {A : Option Addr} {zs : List Int} (h : Ints w A zs) (hb : Below w.heap.size w w') : Ints w' A zs := h.below hb
theorem Ints.alloc {w : World} {A : Option Addr} {zs : List Int} (h : Ints w A zs) (o : Obj) : Ints (w.alloc o) A zs := h.below ((Below.refl _ _).alloc (Nat.le_refl _) o)
theorem FnExactTossCheat_walk (A0 : Option Addr) (n0 c0 : Nat) (x : List Int) (A1 : Option Addr) (n1 c1 : Nat) (y : List Int) (A2 : Option Addr) (n2 c2 : Nat) (z : List Int) (w : World)
    (h0 : Ints w A0 x) (l0 : x.length = n0) (m0 : n0 ≤ 9223372036854775807) (h1 : Ints w A1 y) (l1 : y.length = n1) (m1 : n1 ≤ 9223372036854775807) (h2 : Ints w A2 z) (l2 : z.length = n2) (m2 : n2 ≤ 9223372036854775807) :
    Calls Try.prog 8 #[.agg #[.slice A0 n0 c0, .slice A1 n1 c1, .slice A2 n2 c2]] w fun e w' => e = .returned (.bool true) ∧ Below w.heap.size w w' := by
  have b0 := heap_alloc_new w (.cells #[.slice A0 n0 c0, .slice A1 n1 c1, .slice A2 n2 c2] 43)
  have k0 : Below w.heap.size w (w.alloc (.cells #[.slice A0 n0 c0, .slice A1 n1 c1, .slice A2 n2 c2] 43)) := (Below.refl _ _).alloc (Nat.le_refl _) _
  have L0 := Lib.hid l0
  have L1 := Lib.hid l1
  have L2 := Lib.hid l2
  clear l0 l1 l2
  go_enter Try.func8, Try.ntmps8
  go_wp2_with fail
  refine (szToss_any 1048576 A0 A1 A2 c0 c1 c2 n0 n1 n2 _ (by omega) m0 m1 m2).mono ?_
  rintro e w1 ⟨rfl, hb⟩
  have b1 := heap_below b0 hb
  have k1 := k0.trans (hb.mono k0.size)
  clear hb b0 k0
  by_cases hsz : n0 + n1 + n2 ≤ 1048576
  · have e : szRes 1048576 (n0 + n1 + n2) = ((1048576 - (n0 + n1 + n2) : Nat) : Int) := by rw [szRes, if_pos hsz]
    rw [e]
    clear e m0 m1 m2
    have m0 : n0 ≤ 2000000 := by omega
    have m1 : n1 ≤ 2000000 := by omega
    have m2 : n2 ≤ 2000000 := by omega
    generalize 1048576 - (n0 + n1 + n2) = r
    have i0 := h0.bound
    have i1 := h1.bound
    have i2 := h2.bound
    clear h0 h1 h2
    obtain ⟨g0, _⟩ := blk (i := 0) b1 rfl
    obtain ⟨g1, _⟩ := blk (i := 1) b1 rfl
    obtain ⟨g2, _⟩ := blk (i := 2) b1 rfl
    go_wp2_with fail
    refine (toToss_own A0 A1 A2 c0 c1 c2 n0 n1 n2 x y z w1 ((i0.below k1).ints k1.size) L0.out m0 ((i1.below k1).ints k1.size) L1.out m1 ((i2.below k1).ints k1.size) L2.out m2).mono ?_
    rintro e w2 ⟨B0, B1, B2, rfl, ow, hb⟩
    have b2 := heap_below b1 hb
    have k2 := k1.trans (hb.mono k1.size)
    clear hb b1 k1 g0 g1 g2
    go_wp2_with fail
    refine (spec_TossCheat B0 B1 B2 n0 n1 n2 n0 n1 n2 x y z w2 ow.o0.ints ow.o1.ints ow.o2.ints L0.out L1.out L2.out m0).mono ?_
    rintro e w3 ⟨rfl, hb⟩
    have b3 := heap_below b2 hb
    have k3 := k2.trans (hb.mono k2.size)
    clear hb b2 k2 ow
    obtain ⟨g0, _⟩ := blk (i := 0) b3 rfl
    obtain ⟨g1, _⟩ := blk (i := 1) b3 rfl
    obtain ⟨g2, _⟩ := blk (i := 2) b3 rfl
    obtain ⟨r1, hr1⟩ : ∃ r, cheatI x y z = r := ⟨_, rfl⟩
    have R1 := Lib.hid hr1
    rw [hr1]
    clear hr1
    go_wp2_with fail
    refine (toToss_own A0 A1 A2 c0 c1 c2 n0 n1 n2 x y z w3 ((i0.below k3).ints k3.size) L0.out m0 ((i1.below k3).ints k3.size) L1.out m1 ((i2.below k3).ints k3.size) L2.out m2).mono ?_
    rintro e w4 ⟨D0, D1, D2, rfl, ow, hb⟩
    have b4 := heap_alloc (heap_below b3 hb) (.cells #[.slice D0 n0 n0, .slice D1 n1 n1, .slice D2 n2 n2] 31)
    have k4 := (k3.trans (hb.mono k3.size)).alloc (by have := k3.size; have := hb.size; omega) (.cells #[.slice D0 n0 n0, .slice D1 n1 n1, .slice D2 n2 n2] 31)
    have x4 := heap_alloc_new w4 (.cells #[.slice D0 n0 n0, .slice D1 n1 n1, .slice D2 n2 n2] 31)
    have ow4 := ow.alloc (.cells #[.slice D0 n0 n0, .slice D1 n1 n1, .slice D2 n2 n2] 31)
    clear hb b3 k3 g0 g1 g2 ow
    go_wp2_with fail
    generalize w4.alloc (.cells #[.slice D0 n0 n0, .slice D1 n1 n1, .slice D2 n2 n2] 31) = w5 at *
    generalize w4.heap.size = gx at *
    refine (impl_TossCheat D0 D1 D2 n0 n1 n2 n0 n1 n2 x y z w5 ow4.o0.ints ow4.o1.ints ow4.o2.ints L0.out L1.out L2.out m0).mono ?_
    rw [R1.out]
    rintro e w6 ⟨rfl, hb⟩
    have b6 := heap_below b4 hb
    have x6 := heap_below x4 hb
    have k6 := k4.trans (hb.mono k4.size)
    have ow6 := ow4.below hb
    clear hb b4 k4 x4 ow4
    obtain ⟨g0, _⟩ := blk (i := 0) b6 rfl
    obtain ⟨g1, _⟩ := blk (i := 1) b6 rfl
    obtain ⟨g2, _⟩ := blk (i := 2) b6 rfl
    obtain ⟨q0, _⟩ := blk (i := 0) x6 rfl
    obtain ⟨q1, _⟩ := blk (i := 1) x6 rfl
    obtain ⟨q2, _⟩ := blk (i := 2) x6 rfl
    have j0 := ((i0.below k6).ints k6.size).drew
    have j1 := ((i1.below k6).ints k6.size).drew
    have j2 := ((i2.below k6).ints k6.size).drew
    have ow7 := ow6.drew
    have k7 := k6.drew
    clear ow6
    go_wp2_with fail
    go_region_law (first
      | (go_simp; go_at_call 30; (with_reducible refine (toToss_own A0 A1 A2 c0 c1 c2 n0 n1 n2 x y z _ j0 L0.out m0 j1 L1.out m1 j2 L2.out m2).mono ?_); rintro e w8 ⟨E0, E1, E2, rfl, ow8, hb⟩; (have x8 := heap_below (w := w6.drew) x6 hb); (obtain ⟨q0', _⟩ := blk (i := 0) x8 rfl); (obtain ⟨q1', _⟩ := blk (i := 1) x8 rfl); (obtain ⟨q2', _⟩ := blk (i := 2) x8 rfl); (have ow9 := ow7.below hb); (have k8 := k7.trans (hb.mono k7.size)))
      | (go_simp; go_at_call 23; (with_reducible refine (eqToss_same D0 D1 D2 n0 n1 n2 E0 E1 E2 n0 n1 n2 n0 n1 n2 x y z _ ow9.o0.ints ow8.o0.ints L0.out m0 ow9.o1.ints ow8.o1.ints L1.out m1 ow9.o2.ints ow8.o2.ints L2.out m2).mono ?_); rintro e w9 ⟨rfl, hb9⟩; (have k9 := k8.trans (hb9.mono k8.size))))
    all_goals
      go_wp2_with fail
      go_ret
      exact ⟨rfl, k9⟩
  · have e : szRes 1048576 (n0 + n1 + n2) = -1 := by rw [szRes, if_neg hsz]
    rw [e]
    clear e hsz
    go_wp2_with fail
    go_ret
    exact ⟨rfl, k1⟩
theorem FnExactTossCoin_walk (A0 : Option Addr) (n0 c0 : Nat) (x : List Int) (A1 : Option Addr) (n1 c1 : Nat) (y : List Int) (A2 : Option Addr) (n2 c2 : Nat) (z : List Int) (w : World)
    (h0 : Ints w A0 x) (l0 : x.length = n0) (m0 : n0 ≤ 9223372036854775807) (h1 : Ints w A1 y) (l1 : y.length = n1) (m1 : n1 ≤ 9223372036854775807) (h2 : Ints w A2 z) (l2 : z.length = n2) (m2 : n2 ≤ 9223372036854775807) :
    Calls Try.prog 9 #[.agg #[.slice A0 n0 c0, .slice A1 n1 c1, .slice A2 n2 c2]] w fun e w' => e = .returned (.bool true) ∧ Below w.heap.size w w' := by
  have b0 := heap_alloc_new w (.cells #[.slice A0 n0 c0, .slice A1 n1 c1, .slice A2 n2 c2] 43)
  have k0 : Below w.heap.size w (w.alloc (.cells #[.slice A0 n0 c0, .slice A1 n1 c1, .slice A2 n2 c2] 43)) := (Below.refl _ _).alloc (Nat.le_refl _) _
  have L0 := Lib.hid l0
  have L1 := Lib.hid l1
  have L2 := Lib.hid l2
  clear l0 l1 l2
  go_enter Try.func9, Try.ntmps9
  go_wp2_with fail
  refine (szToss_any 1048576 A0 A1 A2 c0 c1 c2 n0 n1 n2 _ (by omega) m0 m1 m2).mono ?_
  rintro e w1 ⟨rfl, hb⟩
  have b1 := heap_below b0 hb
  have k1 := k0.trans (hb.mono k0.size)
  clear hb b0 k0
  by_cases hsz : n0 + n1 + n2 ≤ 1048576
  · have e : szRes 1048576 (n0 + n1 + n2) = ((1048576 - (n0 + n1 + n2) : Nat) : Int) := by rw [szRes, if_pos hsz]
    rw [e]
    clear e m0 m1 m2
    have m0 : n0 ≤ 2000000 := by omega
    have m1 : n1 ≤ 2000000 := by omega
    have m2 : n2 ≤ 2000000 := by omega
    generalize 1048576 - (n0 + n1 + n2) = r
    have i0 := h0.bound
    have i1 := h1.bound
    have i2 := h2.bound
    clear h0 h1 h2
    obtain ⟨g0, _⟩ := blk (i := 0) b1 rfl
    obtain ⟨g1, _⟩ := blk (i := 1) b1 rfl
    obtain ⟨g2, _⟩ := blk (i := 2) b1 rfl
    go_wp2_with fail
    refine (toToss_own A0 A1 A2 c0 c1 c2 n0 n1 n2 x y z w1 ((i0.below k1).ints k1.size) L0.out m0 ((i1.below k1).ints k1.size) L1.out m1 ((i2.below k1).ints k1.size) L2.out m2).mono ?_
    rintro e w2 ⟨B0, B1, B2, rfl, ow, hb⟩
    have b2 := heap_below b1 hb
    have k2 := k1.trans (hb.mono k1.size)
    clear hb b1 k1 g0 g1 g2
    go_wp2_with fail
    refine (spec_TossCoin B0 B1 B2 n0 n1 n2 n0 n1 n2 x y z w2 ow.o0.ints ow.o1.ints ow.o2.ints L0.out L1.out L2.out m0).mono ?_
    rintro e w3 ⟨rfl, hb⟩
    have b3 := heap_below b2 hb
    have k3 := k2.trans (hb.mono k2.size)
    clear hb b2 k2 ow
    obtain ⟨g0, _⟩ := blk (i := 0) b3 rfl
    obtain ⟨g1, _⟩ := blk (i := 1) b3 rfl
    obtain ⟨g2, _⟩ := blk (i := 2) b3 rfl
    obtain ⟨r1, hr1⟩ : ∃ r, tossI x y z = r := ⟨_, rfl⟩
    obtain ⟨r2, hr2⟩ : ∃ r, decide (tossed x y z) = r := ⟨_, rfl⟩
    have R1 := Lib.hid hr1
    have R2 := Lib.hid hr2
    rw [hr1, hr2]
    clear hr1 hr2
    go_wp2_with fail
    refine (toToss_own A0 A1 A2 c0 c1 c2 n0 n1 n2 x y z w3 ((i0.below k3).ints k3.size) L0.out m0 ((i1.below k3).ints k3.size) L1.out m1 ((i2.below k3).ints k3.size) L2.out m2).mono ?_
    rintro e w4 ⟨D0, D1, D2, rfl, ow, hb⟩
    have b4 := heap_alloc (heap_below b3 hb) (.cells #[.slice D0 n0 n0, .slice D1 n1 n1, .slice D2 n2 n2] 31)
    have k4 := (k3.trans (hb.mono k3.size)).alloc (by have := k3.size; have := hb.size; omega) (.cells #[.slice D0 n0 n0, .slice D1 n1 n1, .slice D2 n2 n2] 31)
    have x4 := heap_alloc_new w4 (.cells #[.slice D0 n0 n0, .slice D1 n1 n1, .slice D2 n2 n2] 31)
    have ow4 := ow.alloc (.cells #[.slice D0 n0 n0, .slice D1 n1 n1, .slice D2 n2 n2] 31)
    clear hb b3 k3 g0 g1 g2 ow
    go_wp2_with fail
    generalize w4.alloc (.cells #[.slice D0 n0 n0, .slice D1 n1 n1, .slice D2 n2 n2] 31) = w5 at *
    generalize w4.heap.size = gx at *
    refine (impl_TossCoin D0 D1 D2 n0 n1 n2 n0 n1 n2 x y z w5 ow4.o0.ints ow4.o1.ints ow4.o2.ints L0.out L1.out L2.out m0).mono ?_
    unfold Coined
    rw [R1.out, R2.out]
    rintro e w6 ⟨rfl, hb⟩
    have b6 := heap_below b4 hb
    have x6 := heap_below x4 hb
    have k6 := k4.trans (hb.mono k4.size)
    have ow6 := ow4.below hb
    clear hb b4 k4 x4 ow4
    obtain ⟨g0, _⟩ := blk (i := 0) b6 rfl
    obtain ⟨g1, _⟩ := blk (i := 1) b6 rfl
    obtain ⟨g2, _⟩ := blk (i := 2) b6 rfl
    obtain ⟨q0, _⟩ := blk (i := 0) x6 rfl
    obtain ⟨q1, _⟩ := blk (i := 1) x6 rfl
    obtain ⟨q2, _⟩ := blk (i := 2) x6 rfl
    have j0 := ((i0.below k6).ints k6.size).drew
    have j1 := ((i1.below k6).ints k6.size).drew
    have j2 := ((i2.below k6).ints k6.size).drew
    have ow7 := ow6.drew
    have k7 := k6.drew
    clear ow6
    go_wp2_with fail
    go_region_law (first
      | (go_simp; go_at_call 30; (with_reducible refine (toToss_own A0 A1 A2 c0 c1 c2 n0 n1 n2 x y z _ j0 L0.out m0 j1 L1.out m1 j2 L2.out m2).mono ?_); rintro e w8 ⟨E0, E1, E2, rfl, ow8, hb⟩; (have x8 := heap_below (w := w6.drew) x6 hb); (obtain ⟨q0', _⟩ := blk (i := 0) x8 rfl); (obtain ⟨q1', _⟩ := blk (i := 1) x8 rfl); (obtain ⟨q2', _⟩ := blk (i := 2) x8 rfl); (have ow9 := ow7.below hb); (have k8 := k7.trans (hb.mono k7.size)))
      | (go_simp; go_at_call 23; (with_reducible refine (eqToss_same D0 D1 D2 n0 n1 n2 E0 E1 E2 n0 n1 n2 n0 n1 n2 x y z _ ow9.o0.ints ow8.o0.ints L0.out m0 ow9.o1.ints ow8.o1.ints L1.out m1 ow9.o2.ints ow8.o2.ints L2.out m2).mono ?_); rintro e w9 ⟨rfl, hb9⟩; (have k9 := k8.trans (hb9.mono k8.size))))
    all_goals
      go_wp2_with fail
      go_ret
      exact ⟨rfl, k9⟩
  · have e : szRes 1048576 (n0 + n1 + n2) = -1 := by rw [szRes, if_neg hsz]
    rw [e]
    clear e hsz
    go_wp2_with fail
    go_ret
    exact ⟨rfl, k1⟩
end Go.Proofs.Ytedfblgopmiheaa

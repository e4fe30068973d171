/- A constant added to shares: the program and the model return the same lists in new memory. -/
import Derived.Test.YtjhgjfipfjackaaProg
import Derived.Test.YtjhgjfipfjackaaShareU
namespace Go.Proofs.Ytjhgjfipfjackaa
open Go Go.RowKit
theorem addc_yes {p q : Int} {xs : List Int} {n : Nat} {z : Int} (hl : xs.length = n) (h0 : 0 < n) (hok : sclOk p q xs) (hz : faddI p (xs.getD 0 0) q = z) : addcL p q xs = xs.set 0 z := by
  unfold addcL; rw [if_pos ⟨by omega, hok⟩, hz]
theorem addc_no {p q : Int} {xs : List Int} (h : ¬ (0 < xs.length ∧ sclOk p q xs)) : addcL p q xs = [] := by unfold addcL; rw [if_neg h]
theorem impl_FAdd_is (p a b z : Int) (h : faddI p a b = z) (w : World) :
    Calls Try.prog 44 #[.int .i64 p, .int .i64 a, .int .i64 b] w fun e w' => e = .returned (.int .i64 z) ∧ Below w.heap.size w w' := by
  subst h; exact impl_FAdd p a b w
theorem impl_AddConstant (p q : Int) (A : Option Addr) (n c : Nat) (xs : List Int) (w : World) (hx : Ints w A xs) (lx : xs.length = n) (mx : n ≤ 2000000) :
    Calls Try.prog 19 #[.int .i64 p, .slice A n c, .int .i64 q] w (MadeI (addcL p q xs) w) := by
  have LX := Lib.hid lx
  have k0 := below_alloc w (.cells #[.int .i64 q] 3)
  have i0 := ints_one w q 3
  by_cases h0 : 0 < n
  · have hne : ((n : Int) == 0) = false := beq_eq_false_iff_ne.2 (by omega)
    by_cases hq : isEl p q
    · have Hdq := Lib.hid (decide_eq_true (fsum_one.2 hq))
      by_cases ha : allEl p xs
      · obtain ⟨z, hz⟩ : ∃ z, faddI p (xs.getD 0 0) q = z := ⟨_, rfl⟩
        rw [addc_yes lx h0 ⟨hq, ha⟩ hz]
        have Hz := Lib.hid hz
        have Hda := Lib.hid (decide_eq_true ha)
        clear lx ha hq hz
        go_enter Try.func19, Try.ntmps19
        go_wp2_with fail
        refine (impl_allElements p _ 1 1 [q] true Hdq.out _ i0 rfl (by omega)).mono ?_
        rintro e w1 ⟨rfl, hb⟩
        have k1 := k0.trans (hb.mono k0.size)
        clear hb k0 i0
        go_wp2_with fail
        refine (impl_allElements p A n c xs true Hda.out w1 (hx.below k1) LX.out (by omega)).mono ?_
        rintro e w2 ⟨rfl, hb⟩
        have k2 := k1.trans (hb.mono k1.size)
        clear hb k1
        go_wp2_with fail
        refine (impl_Clone A n c xs w2 (hx.below k2) LX.out h0 mx).mono ?_
        intro e w3 h3
        obtain ⟨A3, m, c3, rfl, hl, g3⟩ := h3.grow
        obtain rfl : m = n := by rw [← hl, LX.out]
        have g3' : Grow w w3 (.slice A3 m c3) m xs := ⟨own_mono g3.own k2.size, k2.trans (g3.low.mono k2.size)⟩
        obtain ⟨g, rfl, hg, hgl⟩ := g3'.addr h0
        obtain ⟨c0, f0⟩ := g3'.at_ h0
        generalize xs.getD 0 0 = x0 at c0 Hz
        clear h3 g3 k2 hx hl
        go_wp2_with fail
        refine (impl_FAdd_is p x0 q z Hz.out w3).mono ?_
        rintro e w4 ⟨rfl, hb⟩
        have g4 := g3'.next hb
        obtain ⟨c4, f4⟩ := g4.at_ h0
        have Hg := Lib.hid (g4.set hg 0 z)
        clear g3' g4 hb c0 f0
        go_wp2_with fail
        go_ret
        exact Hg.out.done
      · rw [addc_no (fun e => ha e.2.2)]
        have Hda := Lib.hid (decide_eq_false ha)
        clear lx ha hq
        go_enter Try.func19, Try.ntmps19
        go_wp2_with fail
        refine (impl_allElements p _ 1 1 [q] true Hdq.out _ i0 rfl (by omega)).mono ?_
        rintro e w1 ⟨rfl, hb⟩
        have k1 := k0.trans (hb.mono k0.size)
        clear hb k0 i0
        go_wp2_with fail
        refine (impl_allElements p A n c xs false Hda.out w1 (hx.below k1) LX.out (by omega)).mono ?_
        rintro e w2 ⟨rfl, hb⟩
        go_wp2_with fail
        go_ret
        exact MadeI.nil_ (k1.trans (hb.mono k1.size))
    · have Hdq := Lib.hid (decide_eq_false (fun e => hq (fsum_one.1 e)))
      rw [addc_no (fun e => hq e.2.1)]
      clear lx hq
      go_enter Try.func19, Try.ntmps19
      go_wp2_with fail
      refine (impl_allElements p _ 1 1 [q] false Hdq.out _ i0 rfl (by omega)).mono ?_
      rintro e w1 ⟨rfl, hb⟩
      go_wp2_with fail
      go_ret
      exact MadeI.nil_ (k0.trans (hb.mono k0.size))
  · obtain rfl : n = 0 := by omega
    rw [addc_no (fun e => h0 (by omega))]
    clear lx
    go_enter Try.func19, Try.ntmps19
    go_wp2_with fail
    go_ret
    exact MadeI.nil_ (Below.refl _ _)
theorem spec_AddConstant (p q : Int) (A : Option Addr) (n c : Nat) (xs : List Int) (w : World) (hx : Ints w A xs) (lx : xs.length = n) (mx : n ≤ 2000000) :
    Calls Try.prog 31 #[.int .i64 p, .slice A n c, .int .i64 q] w (MadeI (addcL p q xs) w) := by
  have LX := Lib.hid lx
  have g0 := Grow.empty (Below.refl w.heap.size w)
  by_cases h0 : 0 < n
  · have hne : ((n : Int) == 0) = false := beq_eq_false_iff_ne.2 (by omega)
    by_cases ha : allEl p xs
    · have Hda := Lib.hid (decide_eq_true ha)
      by_cases hq : isEl p q
      · have Hdq := Lib.hid (decide_eq_true hq)
        obtain ⟨z, hz⟩ : ∃ z, faddI p (xs.getD 0 0) q = z := ⟨_, rfl⟩
        rw [addc_yes lx h0 ⟨hq, ha⟩ hz]
        have Hz := Lib.hid hz
        have i1 := (hx.bound.below g0.low).ints g0.size
        clear lx ha hq hz
        go_enter Try.func31, Try.ntmps31
        go_wp2_with fail
        refine (l03All_at p A n c xs true Hda.out _ hx LX.out (by omega)).mono ?_
        rintro e w1 ⟨rfl, rfl⟩
        go_wp2_with fail
        refine (spec_IsElement_at p q true Hdq.out _).mono ?_
        rintro e w1 ⟨rfl, rfl⟩
        go_wp2_with (first | (at_builtin; refine app_ints elemInt rfl _ _ rfl w.heap.size _ 0 [] rfl g0.own A n c xs rfl i1 LX.out (by unfold maxLen; omega) (by omega) g0.size ?_))
        intro v5 w5 ho5 hg5 _
        have g5 := g0.app ho5 hg5 (ys := xs) rfl
        (try simp only [Nat.zero_add] at g5)
        obtain ⟨A5, m, c5, rfl, rfl⟩ := ownsRow_slice g5.own
        obtain ⟨g, rfl, hg, hgl⟩ := g5.addr h0
        obtain ⟨c4, f4⟩ := g5.at_ h0
        obtain ⟨b, o, rfl, _, c0⟩ := (hx.bound.below g5.low).at_ (j := 0) (by rw [LX.out]; exact h0)
        simp only [Nat.add_zero] at c0
        generalize xs.getD 0 0 = x0 at c4 c0 Hz
        have Hg := Lib.hid (g5.set hg 0 z)
        clear ho5 hg5 g0 i1 g5 hx
        go_wp2_with fail
        refine (spec_FAdd_is p x0 q z Hz.out w5).mono ?_
        rintro e w4 ⟨rfl, rfl⟩
        go_wp2_with fail
        go_ret
        exact Hg.out.done
      · have Hdq := Lib.hid (decide_eq_false hq)
        rw [addc_no (fun e => hq e.2.1)]
        clear lx ha hq
        have Hg := Lib.hid g0
        clear g0
        go_enter Try.func31, Try.ntmps31
        go_wp2_with fail
        refine (l03All_at p A n c xs true Hda.out _ hx LX.out (by omega)).mono ?_
        rintro e w1 ⟨rfl, rfl⟩
        go_wp2_with fail
        refine (spec_IsElement_at p q false Hdq.out _).mono ?_
        rintro e w1 ⟨rfl, rfl⟩
        go_wp2_with fail
        go_ret
        exact Hg.out.done
    · have Hda := Lib.hid (decide_eq_false ha)
      rw [addc_no (fun e => ha e.2.2)]
      clear lx ha
      have Hg := Lib.hid g0
      clear g0
      go_enter Try.func31, Try.ntmps31
      go_wp2_with fail
      refine (l03All_at p A n c xs false Hda.out _ hx LX.out (by omega)).mono ?_
      rintro e w1 ⟨rfl, rfl⟩
      go_wp2_with fail
      go_ret
      exact Hg.out.done
  · obtain rfl : n = 0 := by omega
    rw [addc_no (fun e => h0 (by omega))]
    have Hg := Lib.hid g0
    clear lx g0
    go_enter Try.func31, Try.ntmps31
    go_wp2_with fail
    go_ret
    exact Hg.out.done
end Go.Proofs.Ytjhgjfipfjackaa

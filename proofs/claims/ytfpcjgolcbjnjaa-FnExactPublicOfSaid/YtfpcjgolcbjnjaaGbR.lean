/- GarbledOk, the model's. No condition. -/
import Derived.Test.YtfpcjgolcbjnjaaProg
import Derived.Test.YtfpcjgolcbjnjaaGbQ
namespace Go.Proofs.Ytfpcjgolcbjnjaa
open Go Go.RowKit
set_option maxRecDepth 100000 in
set_option maxHeartbeats 4000000 in
theorem spec_GarbledOk (A0 : Option Addr) (n0 c0 : Nat) (z0 : List Int) (A1 : Option Addr) (n1 c1 : Nat) (z1 : List Int) (d : Int) (A2 : Option Addr) (n2 c2 : Nat) (zs : List Int) (A3 : Option Addr) (n3 c3 : Nat) (ts : List Int) (w : World) (h0 : Ints w A0 z0) (l0 : z0.length = n0 * 3) (m0 : n0 ≤ 2000000) (h1 : Ints w A1 z1) (l1 : z1.length = n1) (m1 : n1 ≤ 2000000) (h2 : Ints w A2 zs) (l2 : zs.length = n2) (m2 : n2 ≤ 2000000) (h3 : Ints w A3 ts) (l3 : ts.length = n3) (m3 : n3 ≤ 2000000) :
    Calls Try.prog 31 #[.agg #[.slice A0 n0 c0, .slice A1 n1 c1], .agg #[.int .i64 d, .slice A2 n2 c2, .slice A3 n3 c3]] w fun e w' => e = .returned (.bool (decide (gOk z0 n0 z1 d zs ts))) ∧ Below w.heap.size w w' := by
  have k0 := Bx2.start w 27 #[.slice A0 n0 c0, .slice A1 n1 c1] 33 #[.int .i64 d, .slice A2 n2 c2, .slice A3 n3 c3]
  have i0 := h0.bound
  have i1 := h1.bound
  have i2 := h2.bound
  have i3 := h3.bound
  have L2 := Lib.hid l2
  have L3 := Lib.hid l3
  clear h0 h1 h2 h3
  go_enter Try.func31, Try.ntmps31
  go_upto_region 1 with (fail)
  generalize hw0 : (w.alloc (.cells #[.slice A0 n0 c0, .slice A1 n1 c1] 27)).alloc (.cells #[.int .i64 d, .slice A2 n2 c2, .slice A3 n3 c3] 33) = w0 at *
  clear hw0
  have a0 := cell_regrown (blk (i := 0) k0.arg rfl).1
  have a1 := cell_regrown (blk (i := 1) k0.arg rfl).1
  have b0 := cell_regrown (blk (i := 0) k0.res rfl).1
  have b1 := cell_regrown (blk (i := 1) k0.res rfl).1
  have b2 := cell_regrown (blk (i := 2) k0.res rfl).1
  have j0 := (i0.below k0.low).ints k0.low.size
  have j1 := (i1.below k0.low).ints k0.low.size
  have j2 := (i2.below k0.low).ints k0.low.size
  have j3 := (i3.below k0.low).ints k0.low.size
  have hle := cnt_le z0 4 n0
  have L := Lib.hid k0.low
  have kC : ∀ r, decide (cirOk z0 n0 z1) = r → ∀ x os, Calls Try.prog 67 #[.agg #[.slice A0 n0 c0, .slice A1 n1 c1]] (Go.Sort.grow (redrawn w0 x) os) fun e w'' => e = .returned (.bool r) ∧ ∃ p : Regrown, w'' = Go.Sort.grow (redrawn w0 p.d) p.os := fun r hr x os => Calls.regrown_of (spec_CircuitOk A0 n0 c0 z0 A1 n1 c1 z1 r hr _ (j0.below (below_regrown w0 x os)) l0 (by omega) (j1.below (below_regrown w0 x os)) l1 (by omega))
  have kN : ∀ x os, Calls Try.prog 17 #[.agg #[.slice A0 n0 c0, .slice A1 n1 c1], .int .i64 4] (Go.Sort.grow (redrawn w0 x) os) fun e w'' => e = .returned (.int .i64 ((cnt z0 4 n0 : Nat) : Int)) ∧ ∃ p : Regrown, w'' = Go.Sort.grow (redrawn w0 p.d) p.os := fun x os => Calls.regrown_of (spec_CountGates A0 n0 c0 z0 A1 n1 c1 4 _ (j0.below (below_regrown w0 x os)) l0 (by omega))
  have kL : ∀ r, decide (isLbl d) = r → ∀ x os, Calls Try.prog 60 #[.int .i64 d] (Go.Sort.grow (redrawn w0 x) os) fun e w'' => e = .returned (.bool r) ∧ ∃ p : Regrown, w'' = Go.Sort.grow (redrawn w0 p.d) p.os := fun r hr x os => Calls.regrown_of (calls_below (spec_IsLabel_is d r hr _))
  have kZ : ∀ r, decide (allLbl zs ∧ n2 = n0) = r → ∀ x os, Calls Try.prog 75 #[.slice A2 n2 c2, .int .i64 n0] (Go.Sort.grow (redrawn w0 x) os) fun e w'' => e = .returned (.bool r) ∧ ∃ p : Regrown, w'' = Go.Sort.grow (redrawn w0 p.d) p.os := fun r hr x os => Calls.regrown_of (calls_below (spec_l18Labels A2 n2 c2 zs n0 r hr _ (j2.below (below_regrown w0 x os)) L2.out (by omega)))
  have kT : ∀ r, decide (allLbl ts ∧ n3 = 2 * cnt z0 4 n0) = r → ∀ x os, Calls Try.prog 75 #[.slice A3 n3 c3, .int .i64 (2 * ((cnt z0 4 n0 : Nat) : Int))] (Go.Sort.grow (redrawn w0 x) os) fun e w'' => e = .returned (.bool r) ∧ ∃ p : Regrown, w'' = Go.Sort.grow (redrawn w0 p.d) p.os := fun r hr x os => Calls.regrown_of (calls_below (spec_l18Labels A3 n3 c3 ts (2 * cnt z0 4 n0) r hr _ (j3.below (below_regrown w0 x os)) L3.out (by omega)))
  obtain ⟨rT, hT⟩ : ∃ r, decide (allLbl ts ∧ n3 = 2 * cnt z0 4 n0) = r := ⟨_, rfl⟩
  obtain ⟨rZ, hZ⟩ : ∃ r, decide (allLbl zs ∧ n2 = n0) = r := ⟨_, rfl⟩
  obtain ⟨rL, hL⟩ : ∃ r, decide (isLbl d) = r := ⟨_, rfl⟩
  obtain ⟨rC, hC⟩ : ∃ r, decide (cirOk z0 n0 z1) = r := ⟨_, rfl⟩
  obtain ⟨rD, hD⟩ : ∃ r, (bits .and .i64 d 1 == 1) = r := ⟨_, rfl⟩
  have E := Lib.hid (show decide (gOk z0 n0 z1 d zs ts) = (rC && rL && rD && rZ && rT) from by
    rw [← hT, ← hZ, ← hL, ← hC, ← hD, i64_and_one, ← L2.out, ← L3.out]
    simp only [gOk, Bool.decide_and, Bool.and_assoc]
    by_cases h : d % 2 = 1 <;> simp [h, Bool.and_assoc])
  replace kC := kC rC hC
  replace kL := kL rL hL
  replace kZ := kZ rZ hZ
  replace kT := kT rT hT
  generalize cnt z0 4 n0 = C at *
  clear hT hZ hL hC j0 j1 j2 j3 i0 i1 i2 i3 k0 l0 l1 l2 l3
  cases rC
  case false =>
    refine wp_region_quiet_below (by kernel_rfl) (by kernel_rfl) ?_
    repeat (first | go_big_quiet_step (first | with_reducible exact kC _ _ | with_reducible exact kN _ _ | with_reducible exact kL _ _ | with_reducible exact kZ _ _ | with_reducible exact kT _ _) | quiet_step (first | with_reducible exact kC _ _ | with_reducible exact kN _ _ | with_reducible exact kL _ _ | with_reducible exact kZ _ _ | with_reducible exact kT _ _))
    refine wpQuiet_nil ?_
    intro _ hw'
    obtain ⟨⟨dq, osq⟩, hw''⟩ := hw'
    subst hw''
    have lowf := L.out.trans ((below_regrown w0 dq osq).mono L.out.size)
    generalize Go.Sort.grow (redrawn w0 dq) osq = wz at *
    clear kC kN kL kZ kT
    go_wp2_with fail
    go_ret
    rw [E.out]
    exact ⟨by first | rfl | simp, lowf⟩
  cases rL
  case false =>
    refine wp_region_quiet_below (by kernel_rfl) (by kernel_rfl) ?_
    repeat (first | go_big_quiet_step (first | with_reducible exact kC _ _ | with_reducible exact kN _ _ | with_reducible exact kL _ _ | with_reducible exact kZ _ _ | with_reducible exact kT _ _) | quiet_step (first | with_reducible exact kC _ _ | with_reducible exact kN _ _ | with_reducible exact kL _ _ | with_reducible exact kZ _ _ | with_reducible exact kT _ _))
    refine wpQuiet_nil ?_
    intro _ hw'
    obtain ⟨⟨dq, osq⟩, hw''⟩ := hw'
    subst hw''
    have lowf := L.out.trans ((below_regrown w0 dq osq).mono L.out.size)
    generalize Go.Sort.grow (redrawn w0 dq) osq = wz at *
    clear kC kN kL kZ kT
    go_wp2_with fail
    go_ret
    rw [E.out]
    exact ⟨by first | rfl | simp, lowf⟩
  cases rD
  case false =>
    refine wp_region_quiet_below (by kernel_rfl) (by kernel_rfl) ?_
    repeat (first | go_big_quiet_step (first | with_reducible exact kC _ _ | with_reducible exact kN _ _ | with_reducible exact kL _ _ | with_reducible exact kZ _ _ | with_reducible exact kT _ _) | quiet_step (first | with_reducible exact kC _ _ | with_reducible exact kN _ _ | with_reducible exact kL _ _ | with_reducible exact kZ _ _ | with_reducible exact kT _ _))
    refine wpQuiet_nil ?_
    intro _ hw'
    obtain ⟨⟨dq, osq⟩, hw''⟩ := hw'
    subst hw''
    have lowf := L.out.trans ((below_regrown w0 dq osq).mono L.out.size)
    generalize Go.Sort.grow (redrawn w0 dq) osq = wz at *
    clear kC kN kL kZ kT
    go_wp2_with fail
    go_ret
    rw [E.out]
    exact ⟨by first | rfl | simp, lowf⟩
  cases rZ
  case false =>
    refine wp_region_quiet_below (by kernel_rfl) (by kernel_rfl) ?_
    repeat (first | go_big_quiet_step (first | with_reducible exact kC _ _ | with_reducible exact kN _ _ | with_reducible exact kL _ _ | with_reducible exact kZ _ _ | with_reducible exact kT _ _) | quiet_step (first | with_reducible exact kC _ _ | with_reducible exact kN _ _ | with_reducible exact kL _ _ | with_reducible exact kZ _ _ | with_reducible exact kT _ _))
    refine wpQuiet_nil ?_
    intro _ hw'
    obtain ⟨⟨dq, osq⟩, hw''⟩ := hw'
    subst hw''
    have lowf := L.out.trans ((below_regrown w0 dq osq).mono L.out.size)
    generalize Go.Sort.grow (redrawn w0 dq) osq = wz at *
    clear kC kN kL kZ kT
    go_wp2_with fail
    go_ret
    rw [E.out]
    exact ⟨by first | rfl | simp, lowf⟩
  refine wp_region_quiet_below (by kernel_rfl) (by kernel_rfl) ?_
  repeat (first | go_big_quiet_step (first | with_reducible exact kC _ _ | with_reducible exact kN _ _ | with_reducible exact kL _ _ | with_reducible exact kZ _ _ | with_reducible exact kT _ _) | quiet_step (first | with_reducible exact kC _ _ | with_reducible exact kN _ _ | with_reducible exact kL _ _ | with_reducible exact kZ _ _ | with_reducible exact kT _ _))
  refine wpQuiet_nil ?_
  intro _ hw'
  obtain ⟨⟨dq, osq⟩, hw''⟩ := hw'
  subst hw''
  have lowf := L.out.trans ((below_regrown w0 dq osq).mono L.out.size)
  generalize Go.Sort.grow (redrawn w0 dq) osq = wz at *
  clear kC kN kL kZ kT
  go_wp2_with fail
  go_ret
  rw [E.out]
  exact ⟨by first | rfl | simp, lowf⟩
end Go.Proofs.Ytfpcjgolcbjnjaa

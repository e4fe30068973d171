/- FlowOk: the program's and the model's. No condition. -/
import Derived.Test.YtklmhkckhdmelaaProg
import Derived.Test.YtklmhkckhdmelaaFlowD
namespace Go.Proofs.Ytklmhkckhdmelaa
open Go Go.RowKit
theorem within_bad {ds al : List Int} {k : Nat} (hk : k < ds.length) (h : al.getD k 0 < 0 ∨ ¬ bits .andNot .i64 (ds.getD k 0) (al.getD k 0) = 0) : ¬ within ds al := fun e => by
  have := e.2 k hk
  rcases h with h | h
  · omega
  · exact h this.2
set_option maxRecDepth 100000 in
set_option maxHeartbeats 1000000 in
theorem impl_FlowOk (A : Option Addr) (n cp : Nat) (ss : List St) (B : Option Addr) (nb cb : Nat) (al : List Int) (w : World) (hr : Ints w A (flat ss)) (hl : ss.length = n) (hn : n ≤ 2000000) (hb : Ints w B al) (lb : al.length = nb) (mb : nb ≤ 2000000) :
    Calls Try.prog 12 #[.slice A n cp, .slice B nb cb] w fun e w' => e = .returned (.bool (decide (flowOkI ss al))) ∧ Below w.heap.size w w' := by
  have c1 := impl_OutputDeps A n cp ss w hr hl hn
  have hlen := depsI_length ss
  have hbb := hb.bound
  by_cases hu : unrI ss
  case neg =>
    rw [decide_eq_false hu] at c1
    rw [decide_eq_false (fun h => hu h.1)]
    clear hu hr hb hbb hlen
    go_enter Try.func12, Try.ntmps12
    go_wp2_with fail
    refine c1.mono ?_
    rintro e w1 ⟨D, m, c, rfl, -, hb1⟩
    go_wp2_with fail
    go_ret
    exact ⟨rfl, hb1⟩
  have hiff : flowOkI ss al ↔ within (depsI ss) al := by unfold flowOkI depsI; rw [if_pos hu]; exact ⟨fun h => h.2, fun h => ⟨hu, h⟩⟩
  rw [decide_eq_true hu] at c1
  have Hiff := Lib.hid hiff
  generalize depsI ss = ds at *
  clear hu hr hiff
  by_cases hne : ds.length = nb
  case neg =>
    have Hr := Lib.hid (decide_eq_false (fun h : flowOkI ss al => hne (by rw [← lb]; exact (Hiff.out.1 h).1)))
    go_enter Try.func12, Try.ntmps12
    go_wp2_with fail
    refine c1.mono ?_
    rintro e w1 ⟨D, m, c, rfl, o, hb1⟩
    have hm := o.len1
    have hmn : ¬ (m : Int) = (nb : Int) := by omega
    clear o hm hne c1 hlen hb hbb lb
    go_wp2_with fail
    go_ret
    exact ⟨ret_bool Hr.out.symm, hb1⟩
  have LB := Lib.hid lb
  have LD := Lib.hid hne
  clear lb hne hb
  go_enter Try.func12, Try.ntmps12
  go_wp2_with fail
  refine c1.mono ?_
  rintro e w1 ⟨D, m, c, rfl, o, hb1⟩
  obtain rfl : m = nb := by rw [← o.len1, LD.out]
  have iD := o.ints
  have iB := (hbb.below hb1).ints hb1.size
  clear o c1 hbb hlen
  go_wp2_with fail
  go_loopw [25] (fun i wr => ∃ k : Nat, k ≤ m ∧ i = .int .i64 k ∧ Hid (∀ j, j < k → 0 ≤ al.getD j 0 ∧ bits .andNot .i64 (ds.getD j 0) (al.getD j 0) = 0) ∧ Hid (wr = w1)) (fun i _ => m - (intOf i).toNat)
  case atStart => exact ⟨0, Nat.zero_le _, rfl, Lib.hid (fun j hj => by omega), Lib.hid rfl⟩
  case round =>
    obtain ⟨k, hk, rfl, hall, hw⟩ := hrel
    obtain rfl : w1 = wr := hw.out.symm
    clear hw
    by_cases hlt : k < m
    · have hkd : k < ds.length := by rw [LD.out]; exact hlt
      obtain ⟨g, o, rfl, _, q0⟩ := iD.at_ hkd
      obtain ⟨g2, o2, rfl, _, q1⟩ := iB.at_ (j := k) (by rw [LB.out]; exact hlt)
      have hbad := Lib.hid (within_bad (al := al) hkd)
      generalize hx : ds.getD k 0 = x at *
      generalize hy : al.getD k 0 = y at *
      have Hx := Lib.hid hx
      have Hy := Lib.hid hy
      have k0 : (0 : Int) ≤ k := by omega
      have k1 : (k : Int) < m := by omega
      clear hx hy iD iB hkd
      by_cases hy0 : y < 0
      · have Hr := Lib.hid (decide_eq_false (fun h : flowOkI ss al => hbad.out (.inl hy0) (Hiff.out.1 h)))
        go_wp2_with fail
        go_ret
        exact ⟨ret_bool Hr.out.symm, hb1⟩
      · by_cases hz : bits .andNot .i64 x y = 0
        · have Hn : Hid (∀ j, j < k + 1 → 0 ≤ al.getD j 0 ∧ bits .andNot .i64 (ds.getD j 0) (al.getD j 0) = 0) := Lib.hid (fun j hj => by
            rcases Nat.lt_or_ge j k with h | h
            · exact hall.out j h
            · obtain rfl : j = k := by omega
              rw [Hx.out, Hy.out]
              exact ⟨by omega, hz⟩)
          clear hbad hall
          go_wp2_with fail
          go_roundw
          case rel => exact ⟨k + 1, by omega, by go_num, Hn, Lib.hid (by trivial)⟩
          case measure => simp [intOf]; omega
        · have Hr := Lib.hid (decide_eq_false (fun h : flowOkI ss al => hbad.out (.inr hz) (Hiff.out.1 h)))
          go_wp2_with fail
          go_ret
          exact ⟨ret_bool Hr.out.symm, hb1⟩
    · obtain rfl : k = m := by omega
      have Hr := Lib.hid (decide_eq_true (Hiff.out.2 ⟨by rw [LD.out, LB.out], fun j hj => hall.out j (by rw [← LD.out]; exact hj)⟩))
      clear iD iB hall
      go_wp2_with fail
      go_ret
      exact ⟨ret_bool Hr.out.symm, hb1⟩
set_option maxRecDepth 100000 in
set_option maxHeartbeats 1000000 in
theorem spec_FlowOk (A : Option Addr) (n cp : Nat) (ss : List St) (B : Option Addr) (nb cb : Nat) (al : List Int) (w : World) (hr : Ints w A (flat ss)) (hl : ss.length = n) (hn : n ≤ 2000000) (hb : Ints w B al) (lb : al.length = nb) (mb : nb ≤ 2000000) :
    Calls Try.prog 32 #[.slice A n cp, .slice B nb cb] w fun e w' => e = .returned (.bool (decide (flowOkI ss al))) ∧ Below w.heap.size w w' := by
  have c1 := spec_OutputDeps A n cp ss w hr hl hn
  have hlen := depsI_length ss
  have hbb := hb.bound
  by_cases hu : unrI ss
  case neg =>
    rw [decide_eq_false hu] at c1
    rw [decide_eq_false (fun h => hu h.1)]
    clear hu hr hb hbb hlen
    go_enter Try.func32, Try.ntmps32
    go_wp2_with fail
    refine c1.mono ?_
    rintro e w1 ⟨D, m, c, rfl, -, hb1⟩
    go_wp2_with fail
    go_ret
    exact ⟨rfl, hb1⟩
  have hiff : flowOkI ss al ↔ within (depsI ss) al := by unfold flowOkI depsI; rw [if_pos hu]; exact ⟨fun h => h.2, fun h => ⟨hu, h⟩⟩
  rw [decide_eq_true hu] at c1
  have Hiff := Lib.hid hiff
  generalize depsI ss = ds at *
  clear hu hr hiff
  by_cases hne : ds.length = nb
  case neg =>
    have Hr := Lib.hid (decide_eq_false (fun h : flowOkI ss al => hne (by rw [← lb]; exact (Hiff.out.1 h).1)))
    go_enter Try.func32, Try.ntmps32
    go_wp2_with fail
    refine c1.mono ?_
    rintro e w1 ⟨D, m, c, rfl, o, hb1⟩
    have hm := o.len1
    have hmn : ¬ (m : Int) = (nb : Int) := by omega
    clear o hm hne c1 hlen hb hbb lb
    go_wp2_with fail
    go_ret
    exact ⟨ret_bool Hr.out.symm, hb1⟩
  have LB := Lib.hid lb
  have LD := Lib.hid hne
  clear lb hne hb
  go_enter Try.func32, Try.ntmps32
  go_wp2_with fail
  refine c1.mono ?_
  rintro e w1 ⟨D, m, c, rfl, o, hb1⟩
  obtain rfl : m = nb := by rw [← o.len1, LD.out]
  have iD := o.ints
  have iB := (hbb.below hb1).ints hb1.size
  clear o c1 hbb hlen
  go_wp2_with fail
  go_loopw [7] (fun i wr => ∃ k : Nat, k ≤ m ∧ i = .int .i64 k ∧ Hid (∀ j, j < k → 0 ≤ al.getD j 0 ∧ bits .andNot .i64 (ds.getD j 0) (al.getD j 0) = 0) ∧ (∃ nd, wr = w1.drewN nd)) (fun i _ => m - (intOf i).toNat)
  case atStart => exact ⟨0, Nat.zero_le _, rfl, Lib.hid (fun j hj => by omega), 0, rfl⟩
  case round =>
    obtain ⟨k, hk, rfl, hall, nd, rfl⟩ := hrel
    have hlow : Below w1.heap.size w1 (w1.drewN nd) := below_drewN (Below.refl _ _) nd
    have hb2 := hb1.trans (hlow.mono hb1.size)
    have iD2 := (iD.bound.below hlow).ints hlow.size
    have iB2 := (iB.bound.below hlow).ints hlow.size
    have hwr := Lib.hid (rfl : w1.drewN nd = w1.drewN nd)
    generalize hww : w1.drewN nd = wr at iD2 iB2 hb2 ⊢
    replace hwr := Lib.hid hww
    clear hww hlow iD iB
    by_cases hlt : k < m
    · have hkd : k < ds.length := by rw [LD.out]; exact hlt
      obtain ⟨g, o, rfl, _, q0⟩ := iD2.at_ hkd
      obtain ⟨g2, o2, rfl, _, q1⟩ := iB2.at_ (j := k) (by rw [LB.out]; exact hlt)
      have hbad := Lib.hid (within_bad (al := al) hkd)
      generalize hx : ds.getD k 0 = x at *
      generalize hy : al.getD k 0 = y at *
      have Hx := Lib.hid hx
      have Hy := Lib.hid hy
      have k0 : (0 : Int) ≤ k := by omega
      have k1 : (k : Int) < m := by omega
      clear hx hy iD2 iB2 hkd
      by_cases hy0 : y < 0
      · have Hr := Lib.hid (decide_eq_false (fun h : flowOkI ss al => hbad.out (.inl hy0) (Hiff.out.1 h)))
        go_wp2_with fail
        go_quiet (fail)
        go_wp2_with fail
        go_ret
        exact ⟨ret_bool Hr.out.symm, below_drewN hb2 _⟩
      · by_cases hz : bits .andNot .i64 x y = 0
        · have Hn : Hid (∀ j, j < k + 1 → 0 ≤ al.getD j 0 ∧ bits .andNot .i64 (ds.getD j 0) (al.getD j 0) = 0) := Lib.hid (fun j hj => by
            rcases Nat.lt_or_ge j k with h | h
            · exact hall.out j h
            · obtain rfl : j = k := by omega
              rw [Hx.out, Hy.out]
              exact ⟨by omega, hz⟩)
          clear hbad hall
          go_wp2_with fail
          go_quiet (fail)
          go_wp2_with fail
          go_roundw
          case rel => exact ⟨k + 1, by omega, by go_num, Hn, _, by rw [← hwr.out]; exact (World.drewN_drewN ..)⟩
          case measure => simp [intOf]; omega
        · have Hr := Lib.hid (decide_eq_false (fun h : flowOkI ss al => hbad.out (.inr hz) (Hiff.out.1 h)))
          have hz2 : (bits .andNot .i64 x y != 0) = true := bne_iff_ne.2 hz
          go_wp2_with fail
          go_quiet (fail)
          go_wp2_with fail
          go_ret
          exact ⟨ret_bool Hr.out.symm, below_drewN hb2 _⟩
    · obtain rfl : k = m := by omega
      have Hr := Lib.hid (decide_eq_true (Hiff.out.2 ⟨by rw [LD.out, LB.out], fun j hj => hall.out j (by rw [← LD.out]; exact hj)⟩))
      clear iD2 iB2 hall
      go_wp2_with fail
      go_ret
      exact ⟨ret_bool Hr.out.symm, hb2⟩
end Go.Proofs.Ytklmhkckhdmelaa

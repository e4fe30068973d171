/- Boolean circuits: the model's AndDepth. No condition. -/
import Derived.Test.YtjihlpebnhgepaaProg
import Derived.Test.YtjihlpebnhgepaaCirB
import Derived.Test.YtjihlpebnhgepaaB1
import Derived.BigRegion
namespace Go.Proofs.Ytjihlpebnhgepaa
open Go Go.RowKit
set_option maxRecDepth 100000 in
set_option maxHeartbeats 2000000 in
theorem spec_AndDepth (A0 : Option Addr) (n0 c0 : Nat) (z0 : List Int) (A1 : Option Addr) (n1 c1 : Nat) (z1 : List Int) (w : World) (h0 : Ints w A0 z0) (l0 : z0.length = n0 * 3) (m0 : n0 ≤ 1000000000000) (h1 : Ints w A1 z1) (l1 : z1.length = n1) (m1 : n1 ≤ 1000000000000) :
    Calls Try.prog 33 #[.agg #[.slice A0 n0 c0, .slice A1 n1 c1]] w fun e w' => e = .returned (.int .i64 (depI z0 n0 z1)) ∧ Below w.heap.size w w' := by
  have low := below_alloc w (.cells #[.slice A0 n0 c0, .slice A1 n1 c1] 27)
  have bx := heap_alloc (heap_alloc_new w (.cells #[.slice A0 n0 c0, .slice A1 n1 c1] 27)) (.cells #[] 3)
  have j0 := (h0.al (.cells #[.slice A0 n0 c0, .slice A1 n1 c1] 27)).al (.cells #[] 3)
  have j1 := (h1.al (.cells #[.slice A0 n0 c0, .slice A1 n1 c1] 27)).al (.cells #[] 3)
  have i0 := (h0.bound.below low).below ((below_alloc _ (.cells #[] 3)).mono low.size)
  clear h0 h1
  generalize hw0 : w.alloc (.cells #[.slice A0 n0 c0, .slice A1 n1 c1] 27) = w0 at *
  have hs0 : w.heap.size < w0.heap.size := by rw [← hw0]; simp
  have g0 := Grow.empty (Below.refl w0.heap.size w0)
  have bc0 := (blk (i := 0) bx rfl).1
  have bc1 := (blk (i := 1) bx rfl).1
  by_cases hc : cirOk z0 n0 z1
  case neg =>
    rw [show depI z0 n0 z1 = -1 from if_neg hc]
    have cC := spec_CircuitOk A0 n0 c0 z0 A1 n1 c1 z1 false (decide_eq_false hc) _ j0 l0 m0 j1 l1 m1
    clear hc l0 l1 bx j0 j1 i0
    go_enter Try.func33, Try.ntmps33
    go_wp2_with fail
    refine cC.mono ?_
    rintro e w1 ⟨rfl, hb1⟩
    have lowx := low.trans ((g0.next hb1).low.mono low.size)
    clear hb1 g0 cC bc0 bc1 low
    go_wp2_with fail
    go_ret
    exact ⟨rfl, lowx⟩
  have cC := spec_CircuitOk A0 n0 c0 z0 A1 n1 c1 z1 true (decide_eq_true hc) _ j0 l0 m0 j1 l1 m1
  rw [show depI z0 n0 z1 = mxd z0 n0 from if_pos hc]
  have n6 := hc.1
  have HG := Lib.hid hc.2.1
  have L0 := Lib.hid l0
  clear hc l0 l1 m0 j0 j1
  go_enter Try.func33, Try.ntmps33
  go_wp2_with fail
  refine cC.mono ?_
  rintro e w1 ⟨rfl, hb1⟩
  have Hg := Lib.hid (g0.next hb1)
  have sz1 := Nat.le_trans low.size g0.size
  have bx1 := heap_below bx hb1
  replace i0 := i0.below (hb1.mono sz1)
  have sz2 := Nat.le_trans low.size Hg.out.size
  clear hb1 g0 cC bx hw0 bc0 bc1
  have bb0 := (blk (i := 0) bx1 rfl).1
  go_wp2_with fail
  go_loopw [3, 4, 5] (fun v mx i wr => ∃ k : Nat, k ≤ n0 ∧ i = .int .i64 k ∧ mx = .int .i64 (mxd z0 k) ∧ Grow w0 wr v k (dps z0 k) ∧ Below w.heap.size w1 wr ∧ wr.heap[w.heap.size]? = some (.cells #[.slice A0 n0 c0, .slice A1 n1 c1] 27 (0, 0))) (fun _ _ i _ => n0 - (intOf i).toNat)
  case atStart => exact ⟨0, Nat.zero_le _, rfl, rfl, Hg.out, Below.refl _ _, bx1⟩
  case round =>
    obtain ⟨k, hk, rfl, rfl, gr, hbr, bxr⟩ := hrel
    clear Hg bx1 bb0
    have bb0 := (blk (i := 0) bxr rfl).1
    have szr := Nat.le_trans low.size gr.size
    have hlw := heap_lt bxr
    by_cases hlt : k < n0
    · obtain ⟨Av, KK, cv, rfl, rfl⟩ := ownsRow_slice gr.own
      obtain ⟨g, o, rfl, -, q0⟩ := (i0.below hbr).at_ (j := k * 3) (by rw [L0.out]; omega)
      obtain ⟨_, _, e1, -, q1⟩ := (i0.below hbr).at_ (j := k * 3 + 1) (by rw [L0.out]; omega)
      injection e1 with e1; injection e1 with e11 e12; subst e11 e12
      rw [← Nat.add_assoc] at q1
      obtain ⟨_, _, e1, -, q2⟩ := (i0.below hbr).at_ (j := k * 3 + 2) (by rw [L0.out]; omega)
      injection e1 with e1; injection e1 with e11 e12; subst e11 e12
      rw [← Nat.add_assoc] at q2
      have hgo : gateOk (z0.getD (k * 3) 0) (z0.getD (k * 3 + 1) 0) (z0.getD (k * 3 + 2) 0) k := HG.out k hlt
      have hD : Hid (∀ i, 0 ≤ (dps z0 k).getD i 0 ∧ (dps z0 k).getD i 0 ≤ 6000) := fun i => by
        have := dps_range z0 k i
        have := cnt_le z0 4 k
        omega
      have Hv : Hid (∀ X, gdep (z0.getD (k * 3) 0) (z0.getD (k * 3 + 1) 0) (z0.getD (k * 3 + 2) 0) (dps z0 k) = X → intVals (dps z0 k) ++ (#[Value.int .i64 X] : Array Value).toList = intVals (dps z0 (k + 1)) ∧ mxd z0 (k + 1) = max (mxd z0 k) X) := fun X hx => ⟨snoc_vals (by rw [← hx]; rfl), by rw [mxd]; exact congrArg _ hx⟩
      generalize z0.getD (k * 3) 0 = x at q0 hgo Hv
      generalize z0.getD (k * 3 + 1) 0 = y at q1 hgo Hv
      generalize z0.getD (k * 3 + 2) 0 = z at q2 hgo Hv
      have hmx := mxd_ge z0 k
      have hmc : mxd z0 k ≤ 6000 := by have := mxd_le z0 k; have := cnt_le z0 4 k; omega
      have hm0 := hmx.1
      clear hmx
      have ga := gr.alloc (.cells #[.int .i64 x, .int .i64 y, .int .i64 z] 34)
      have ia := Ints.of_own ga.own
      have la := ga.len
      have hba := hbr.alloc szr (.cells #[.int .i64 x, .int .i64 y, .int .i64 z] 34)
      have bxa := heap_alloc bxr (.cells #[.int .i64 x, .int .i64 y, .int .i64 z] 34)
      have k0 : (0 : Int) ≤ k := by omega
      have k1 : (k : Int) < n0 := by omega
      generalize dps z0 k = vs at *
      generalize hv2 : dps z0 (k + 1) = vs2 at *
      have HV2 := Lib.hid hv2
      generalize hv3 : mxd z0 (k + 1) = mx2 at *
      have HV3 := Lib.hid hv3
      generalize mxd z0 k = mx at *
      clear gr hv2 hv3 hbr bxr i0
      rcases hgo with ⟨rfl, ⟨a0, a1⟩, rfl⟩ | ⟨rfl, ⟨a0, a1⟩, rfl⟩ | ⟨h34, ⟨a0, a1⟩, b0, b1⟩ | ⟨rfl, ⟨a0, a1⟩, rfl⟩
      · skip
        obtain ⟨Hv1, Hm1⟩ := Hv.out (0) (by simp [gdep])
        have Hv2 := Lib.hid Hv1
        have Hm2 := Lib.hid Hm1
        clear Hv Hv1 Hm1 ia
        have gq := ga
        have hbq := hba
        have bxq := bxa
        clear ga hba bxa
        have g4 := gq.alloc (.cells #[.int .i64 (0)] 3)
        have hb4 := hbq.alloc (Nat.le_trans low.size gq.size) (.cells #[.int .i64 (0)] 3)
        have bx4 := heap_alloc bxq (.cells #[.int .i64 (0)] 3)
        go_wp2_with (first | (at_builtin; refine app_list (e' := 3) elemInt rfl _ _ rfl w0.heap.size _ k (intVals vs) rfl g4.own (wr.heap.size + 1) 1 1 _ (0, 0) rfl (new_at (wr.alloc (.cells #[.int .i64 1, .int .i64 y, .int .i64 0] 34)) _ _ (by first | rfl | simp)) rfl (oneCell_i64 [_]) (by omega) (by unfold maxLen; omega) (by omega) g4.size (wr.heap.size + 1 + 1) (by simp) ?_))
        intro g5 c5 w5 ho5 hg5 _ _
        have Hg := Lib.hid (g4.app ho5 hg5 Hv2.out)
        have Hb := Lib.hid (below_own hb4 g4.own hg5 low.size (Nat.le_trans low.size g4.size))
        have Hx := Lib.hid (heap_grown bx4 hg5 (fun e => by have := (g4.own.lt _ e).1; omega))
        clear ho5 hg5 g4 hb4 bx4 gq hbq bxq
        go_wp2_with fail
        go_roundw
        case rel => exact ⟨k + 1, by omega, by go_num, by rw [HV3.out, Hm2.out]; first | (congr 1; (try (split <;> omega)); omega) | (congr 1; repeat (first | omega | split)), by rw [HV2.out]; exact Hg.out, Hb.out, Hx.out⟩
        case measure => simp [intOf]; omega
      · skip
        obtain ⟨Hv1, Hm1⟩ := Hv.out (0) (by simp [gdep])
        have Hv2 := Lib.hid Hv1
        have Hm2 := Lib.hid Hm1
        clear Hv Hv1 Hm1 ia
        have gq := ga
        have hbq := hba
        have bxq := bxa
        clear ga hba bxa
        have g4 := gq.alloc (.cells #[.int .i64 (0)] 3)
        have hb4 := hbq.alloc (Nat.le_trans low.size gq.size) (.cells #[.int .i64 (0)] 3)
        have bx4 := heap_alloc bxq (.cells #[.int .i64 (0)] 3)
        go_wp2_with (first | (at_builtin; refine app_list (e' := 3) elemInt rfl _ _ rfl w0.heap.size _ k (intVals vs) rfl g4.own (wr.heap.size + 1) 1 1 _ (0, 0) rfl (new_at (wr.alloc (.cells #[.int .i64 2, .int .i64 y, .int .i64 0] 34)) _ _ (by first | rfl | simp)) rfl (oneCell_i64 [_]) (by omega) (by unfold maxLen; omega) (by omega) g4.size (wr.heap.size + 1 + 1) (by simp) ?_))
        intro g5 c5 w5 ho5 hg5 _ _
        have Hg := Lib.hid (g4.app ho5 hg5 Hv2.out)
        have Hb := Lib.hid (below_own hb4 g4.own hg5 low.size (Nat.le_trans low.size g4.size))
        have Hx := Lib.hid (heap_grown bx4 hg5 (fun e => by have := (g4.own.lt _ e).1; omega))
        clear ho5 hg5 g4 hb4 bx4 gq hbq bxq
        go_wp2_with fail
        go_roundw
        case rel => exact ⟨k + 1, by omega, by go_num, by rw [HV3.out, Hm2.out]; first | (congr 1; (try (split <;> omega)); omega) | (congr 1; repeat (first | omega | split)), by rw [HV2.out]; exact Hg.out, Hb.out, Hx.out⟩
        case measure => simp [intOf]; omega
      · obtain ⟨g2, o2, rfl, -, q⟩ := ia.at_ (j := y.toNat) (by rw [la]; omega)
        obtain ⟨_, _, e1, -, p⟩ := ia.at_ (j := z.toNat) (by rw [la]; omega)
        injection e1 with e1; injection e1 with e11 e12; subst e11 e12
        obtain ⟨d0, d1⟩ := hD.out y.toNat
        obtain ⟨f0, f1⟩ := hD.out z.toNat
        rcases h34 with rfl | rfl
        · by_cases hp : vs.getD y.toNat 0 < vs.getD z.toNat 0
          · skip
            obtain ⟨Hv1, Hm1⟩ := Hv.out (vs.getD z.toNat 0) (by unfold gdep; rw [if_pos rfl]; omega)
            generalize vs.getD y.toNat 0 = p1 at *
            generalize vs.getD z.toNat 0 = p2 at *
            have Hv2 := Lib.hid Hv1
            have Hm2 := Lib.hid Hm1
            clear Hv Hv1 Hm1 ia
            go_upto_region 12 with (fail)
            go_region
            generalize hwq : World.drew (wr.alloc (.cells #[.int .i64 3, .int .i64 y, .int .i64 z] 34)) = wq
            have gq : Grow w0 wq (.slice (some ⟨g2, o2, none⟩) k cv) k vs := hwq ▸ ga.drew
            have hbq : Below w.heap.size w1 wq := hwq ▸ hba.drew
            have bxq : wq.heap[w.heap.size]? = some (.cells #[.slice (some ⟨g, o, none⟩) n0 c0, .slice A1 n1 c1] 27 (0, 0)) := hwq ▸ bxa
            clear hwq ga hba bxa q0 q1 q2
            have g4 := gq.alloc (.cells #[.int .i64 (p2)] 3)
            have hb4 := hbq.alloc (Nat.le_trans low.size gq.size) (.cells #[.int .i64 (p2)] 3)
            have bx4 := heap_alloc bxq (.cells #[.int .i64 (p2)] 3)
            go_wp2_with (first | (at_builtin; refine app_list (e' := 3) elemInt rfl _ _ rfl w0.heap.size _ k (intVals vs) rfl g4.own (wq.heap.size) 1 1 _ (0, 0) rfl (new_at wq _ _ (by first | rfl | simp)) rfl (oneCell_i64 [_]) (by omega) (by unfold maxLen; omega) (by omega) g4.size (wq.heap.size + 1) (by simp) ?_))
            intro g5 c5 w5 ho5 hg5 _ _
            have Hg := Lib.hid (g4.app ho5 hg5 Hv2.out)
            have Hb := Lib.hid (below_own hb4 g4.own hg5 low.size (Nat.le_trans low.size g4.size))
            have Hx := Lib.hid (heap_grown bx4 hg5 (fun e => by have := (g4.own.lt _ e).1; omega))
            clear ho5 hg5 g4 hb4 bx4 gq hbq bxq
            go_wp2_with fail
            go_roundw
            case rel => exact ⟨k + 1, by omega, by go_num, by rw [HV3.out, Hm2.out]; first | (congr 1; (try (split <;> omega)); omega) | (congr 1; repeat (first | omega | split)), by rw [HV2.out]; exact Hg.out, Hb.out, Hx.out⟩
            case measure => simp [intOf]; omega
          · skip
            obtain ⟨Hv1, Hm1⟩ := Hv.out (vs.getD y.toNat 0) (by unfold gdep; rw [if_pos rfl]; omega)
            generalize vs.getD y.toNat 0 = p1 at *
            generalize vs.getD z.toNat 0 = p2 at *
            have Hv2 := Lib.hid Hv1
            have Hm2 := Lib.hid Hm1
            clear Hv Hv1 Hm1 ia
            go_upto_region 12 with (fail)
            go_region
            generalize hwq : World.drew (wr.alloc (.cells #[.int .i64 3, .int .i64 y, .int .i64 z] 34)) = wq
            have gq : Grow w0 wq (.slice (some ⟨g2, o2, none⟩) k cv) k vs := hwq ▸ ga.drew
            have hbq : Below w.heap.size w1 wq := hwq ▸ hba.drew
            have bxq : wq.heap[w.heap.size]? = some (.cells #[.slice (some ⟨g, o, none⟩) n0 c0, .slice A1 n1 c1] 27 (0, 0)) := hwq ▸ bxa
            clear hwq ga hba bxa q0 q1 q2
            have g4 := gq.alloc (.cells #[.int .i64 (p1)] 3)
            have hb4 := hbq.alloc (Nat.le_trans low.size gq.size) (.cells #[.int .i64 (p1)] 3)
            have bx4 := heap_alloc bxq (.cells #[.int .i64 (p1)] 3)
            go_wp2_with (first | (at_builtin; refine app_list (e' := 3) elemInt rfl _ _ rfl w0.heap.size _ k (intVals vs) rfl g4.own (wq.heap.size) 1 1 _ (0, 0) rfl (new_at wq _ _ (by first | rfl | simp)) rfl (oneCell_i64 [_]) (by omega) (by unfold maxLen; omega) (by omega) g4.size (wq.heap.size + 1) (by simp) ?_))
            intro g5 c5 w5 ho5 hg5 _ _
            have Hg := Lib.hid (g4.app ho5 hg5 Hv2.out)
            have Hb := Lib.hid (below_own hb4 g4.own hg5 low.size (Nat.le_trans low.size g4.size))
            have Hx := Lib.hid (heap_grown bx4 hg5 (fun e => by have := (g4.own.lt _ e).1; omega))
            clear ho5 hg5 g4 hb4 bx4 gq hbq bxq
            go_wp2_with fail
            go_roundw
            case rel => exact ⟨k + 1, by omega, by go_num, by rw [HV3.out, Hm2.out]; first | (congr 1; (try (split <;> omega)); omega) | (congr 1; repeat (first | omega | split)), by rw [HV2.out]; exact Hg.out, Hb.out, Hx.out⟩
            case measure => simp [intOf]; omega
        · by_cases hp : vs.getD y.toNat 0 < vs.getD z.toNat 0
          · skip
            obtain ⟨Hv1, Hm1⟩ := Hv.out (1 + vs.getD z.toNat 0) (by unfold gdep; rw [if_neg (by omega), if_pos rfl]; omega)
            generalize vs.getD y.toNat 0 = p1 at *
            generalize vs.getD z.toNat 0 = p2 at *
            have Hv2 := Lib.hid Hv1
            have Hm2 := Lib.hid Hm1
            clear Hv Hv1 Hm1 ia
            go_upto_region 14 with (fail)
            go_region
            generalize hwq : World.drew (wr.alloc (.cells #[.int .i64 4, .int .i64 y, .int .i64 z] 34)) = wq
            have gq : Grow w0 wq (.slice (some ⟨g2, o2, none⟩) k cv) k vs := hwq ▸ ga.drew
            have hbq : Below w.heap.size w1 wq := hwq ▸ hba.drew
            have bxq : wq.heap[w.heap.size]? = some (.cells #[.slice (some ⟨g, o, none⟩) n0 c0, .slice A1 n1 c1] 27 (0, 0)) := hwq ▸ bxa
            clear hwq ga hba bxa q0 q1 q2
            have g4 := gq.alloc (.cells #[.int .i64 (1 + p2)] 3)
            have hb4 := hbq.alloc (Nat.le_trans low.size gq.size) (.cells #[.int .i64 (1 + p2)] 3)
            have bx4 := heap_alloc bxq (.cells #[.int .i64 (1 + p2)] 3)
            go_wp2_with (first | (at_builtin; refine app_list (e' := 3) elemInt rfl _ _ rfl w0.heap.size _ k (intVals vs) rfl g4.own (wq.heap.size) 1 1 _ (0, 0) rfl (new_at wq _ _ (by first | rfl | simp)) rfl (oneCell_i64 [_]) (by omega) (by unfold maxLen; omega) (by omega) g4.size (wq.heap.size + 1) (by simp) ?_))
            intro g5 c5 w5 ho5 hg5 _ _
            have Hg := Lib.hid (g4.app ho5 hg5 Hv2.out)
            have Hb := Lib.hid (below_own hb4 g4.own hg5 low.size (Nat.le_trans low.size g4.size))
            have Hx := Lib.hid (heap_grown bx4 hg5 (fun e => by have := (g4.own.lt _ e).1; omega))
            clear ho5 hg5 g4 hb4 bx4 gq hbq bxq
            go_wp2_with fail
            go_roundw
            case rel => exact ⟨k + 1, by omega, by go_num, by rw [HV3.out, Hm2.out]; first | (congr 1; (try (split <;> omega)); omega) | (congr 1; repeat (first | omega | split)), by rw [HV2.out]; exact Hg.out, Hb.out, Hx.out⟩
            case measure => simp [intOf]; omega
          · skip
            obtain ⟨Hv1, Hm1⟩ := Hv.out (1 + vs.getD y.toNat 0) (by unfold gdep; rw [if_neg (by omega), if_pos rfl]; omega)
            generalize vs.getD y.toNat 0 = p1 at *
            generalize vs.getD z.toNat 0 = p2 at *
            have Hv2 := Lib.hid Hv1
            have Hm2 := Lib.hid Hm1
            clear Hv Hv1 Hm1 ia
            go_upto_region 14 with (fail)
            go_region
            generalize hwq : World.drew (wr.alloc (.cells #[.int .i64 4, .int .i64 y, .int .i64 z] 34)) = wq
            have gq : Grow w0 wq (.slice (some ⟨g2, o2, none⟩) k cv) k vs := hwq ▸ ga.drew
            have hbq : Below w.heap.size w1 wq := hwq ▸ hba.drew
            have bxq : wq.heap[w.heap.size]? = some (.cells #[.slice (some ⟨g, o, none⟩) n0 c0, .slice A1 n1 c1] 27 (0, 0)) := hwq ▸ bxa
            clear hwq ga hba bxa q0 q1 q2
            have g4 := gq.alloc (.cells #[.int .i64 (1 + p1)] 3)
            have hb4 := hbq.alloc (Nat.le_trans low.size gq.size) (.cells #[.int .i64 (1 + p1)] 3)
            have bx4 := heap_alloc bxq (.cells #[.int .i64 (1 + p1)] 3)
            go_wp2_with (first | (at_builtin; refine app_list (e' := 3) elemInt rfl _ _ rfl w0.heap.size _ k (intVals vs) rfl g4.own (wq.heap.size) 1 1 _ (0, 0) rfl (new_at wq _ _ (by first | rfl | simp)) rfl (oneCell_i64 [_]) (by omega) (by unfold maxLen; omega) (by omega) g4.size (wq.heap.size + 1) (by simp) ?_))
            intro g5 c5 w5 ho5 hg5 _ _
            have Hg := Lib.hid (g4.app ho5 hg5 Hv2.out)
            have Hb := Lib.hid (below_own hb4 g4.own hg5 low.size (Nat.le_trans low.size g4.size))
            have Hx := Lib.hid (heap_grown bx4 hg5 (fun e => by have := (g4.own.lt _ e).1; omega))
            clear ho5 hg5 g4 hb4 bx4 gq hbq bxq
            go_wp2_with fail
            go_roundw
            case rel => exact ⟨k + 1, by omega, by go_num, by rw [HV3.out, Hm2.out]; first | (congr 1; (try (split <;> omega)); omega) | (congr 1; repeat (first | omega | split)), by rw [HV2.out]; exact Hg.out, Hb.out, Hx.out⟩
            case measure => simp [intOf]; omega
      · obtain ⟨g2, o2, rfl, -, q⟩ := ia.at_ (j := y.toNat) (by rw [la]; omega)
        obtain ⟨d0, d1⟩ := hD.out y.toNat
        obtain ⟨Hv1, Hm1⟩ := Hv.out (vs.getD y.toNat 0) (by simp [gdep])
        generalize vs.getD y.toNat 0 = p1 at *
        have Hv2 := Lib.hid Hv1
        have Hm2 := Lib.hid Hm1
        clear Hv Hv1 Hm1 ia
        have gq := ga
        have hbq := hba
        have bxq := bxa
        clear ga hba bxa
        have g4 := gq.alloc (.cells #[.int .i64 (p1)] 3)
        have hb4 := hbq.alloc (Nat.le_trans low.size gq.size) (.cells #[.int .i64 (p1)] 3)
        have bx4 := heap_alloc bxq (.cells #[.int .i64 (p1)] 3)
        go_wp2_with (first | (at_builtin; refine app_list (e' := 3) elemInt rfl _ _ rfl w0.heap.size _ k (intVals vs) rfl g4.own (wr.heap.size + 1) 1 1 _ (0, 0) rfl (new_at (wr.alloc (.cells #[.int .i64 5, .int .i64 y, .int .i64 0] 34)) _ _ (by first | rfl | simp)) rfl (oneCell_i64 [_]) (by omega) (by unfold maxLen; omega) (by omega) g4.size (wr.heap.size + 1 + 1) (by simp) ?_))
        intro g5 c5 w5 ho5 hg5 _ _
        have Hg := Lib.hid (g4.app ho5 hg5 Hv2.out)
        have Hb := Lib.hid (below_own hb4 g4.own hg5 low.size (Nat.le_trans low.size g4.size))
        have Hx := Lib.hid (heap_grown bx4 hg5 (fun e => by have := (g4.own.lt _ e).1; omega))
        clear ho5 hg5 g4 hb4 bx4 gq hbq bxq
        go_wp2_with fail
        go_roundw
        case rel => exact ⟨k + 1, by omega, by go_num, by rw [HV3.out, Hm2.out]; first | (congr 1; (try (split <;> omega)); omega) | (congr 1; repeat (first | omega | split)), by rw [HV2.out]; exact Hg.out, Hb.out, Hx.out⟩
        case measure => simp [intOf]; omega
    · obtain rfl : k = n0 := by omega
      have lowx := Lib.hid (low.trans (gr.low.mono low.size))
      clear gr hbr bxr i0
      go_wp2_with fail
      go_ret
      exact ⟨rfl, lowx.out⟩
end Go.Proofs.Ytjihlpebnhgepaa

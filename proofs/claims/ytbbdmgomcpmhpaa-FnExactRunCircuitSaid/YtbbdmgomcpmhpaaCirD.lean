/- Boolean circuits: the model's values of wires. No condition. -/
import Derived.Test.YtbbdmgomcpmhpaaProg
import Derived.Test.YtbbdmgomcpmhpaaCirB
import Derived.Test.YtbbdmgomcpmhpaaB1
namespace Go.Proofs.Ytbbdmgomcpmhpaa
open Go Go.RowKit
set_option maxRecDepth 100000 in
set_option maxHeartbeats 2000000 in
theorem spec_EvalWires (A0 : Option Addr) (n0 c0 : Nat) (z0 : List Int) (A1 : Option Addr) (n1 c1 : Nat) (z1 : List Int) (Ab : Option Addr) (nb cb : Nat) (bs : List Int) (w : World) (h0 : Ints w A0 z0) (l0 : z0.length = n0 * 3) (m0 : n0 ≤ 1000000000000) (h1 : Ints w A1 z1) (l1 : z1.length = n1) (m1 : n1 ≤ 1000000000) (hb : Ints w Ab bs) (lb : bs.length = nb) (mb : nb ≤ 1000000000000) :
    Calls Try.prog 68 #[.agg #[.slice A0 n0 c0, .slice A1 n1 c1], .slice Ab nb cb] w (Post_A (evW z0 n0 z1 bs) w) := by
  have low := below_alloc w (.cells #[.slice A0 n0 c0, .slice A1 n1 c1] 27)
  have bx := heap_alloc (heap_alloc_new w (.cells #[.slice A0 n0 c0, .slice A1 n1 c1] 27)) (.cells #[] 3)
  have j0 := (h0.al (.cells #[.slice A0 n0 c0, .slice A1 n1 c1] 27)).al (.cells #[] 3)
  have j1 := (h1.al (.cells #[.slice A0 n0 c0, .slice A1 n1 c1] 27)).al (.cells #[] 3)
  have jb := (hb.bound.below low).below ((below_alloc _ (.cells #[] 3)).mono low.size)
  have i0 := (h0.bound.below low).below ((below_alloc _ (.cells #[] 3)).mono low.size)
  have i1 := (h1.bound.below low).below ((below_alloc _ (.cells #[] 3)).mono low.size)
  clear h0 h1 hb
  generalize hw0 : w.alloc (.cells #[.slice A0 n0 c0, .slice A1 n1 c1] 27) = w0 at *
  have hs0 : w.heap.size < w0.heap.size := by rw [← hw0]; simp
  have g0 := Grow.empty (Below.refl w0.heap.size w0)
  have bc0 := (blk (i := 0) bx rfl).1
  have bc1 := (blk (i := 1) bx rfl).1
  by_cases hc : cirOk z0 n0 z1
  case neg =>
    rw [show evW z0 n0 z1 bs = [] from if_neg (fun e => hc e.1)]
    have cC := spec_CircuitOk A0 n0 c0 z0 A1 n1 c1 z1 false (decide_eq_false hc) _ j0 l0 m0 j1 l1 (by omega)
    clear hc l0 l1 lb bx j0 j1 jb i0 i1
    go_enter Try.func68, Try.ntmps68
    go_wp2_with fail
    refine cC.mono ?_
    rintro e w1 ⟨rfl, hb1⟩
    have gr := g0.next hb1
    clear hb1 g0 cC bc0 bc1
    go_wp2_with fail
    go_ret
    obtain ⟨A, m, c, he, hl, ho, hb⟩ := gr.done
    injection he with he
    injection he with he1 he2 he3
    subst he1 he2 he3
    exact ⟨_, _, _, rfl, ho.any.wide low.size (Nat.le_refl _), low.trans (hb.mono low.size)⟩
  have cC := spec_CircuitOk A0 n0 c0 z0 A1 n1 c1 z1 true (decide_eq_true hc) _ j0 l0 m0 j1 l1 (by omega)
  have cB := fun W (k : Ints W Ab bs) => spec_l13Bits Ab nb cb bs (decide (bitsOk bs)) rfl W k lb mb
  by_cases hbo : bitsOk bs
  case neg =>
    rw [show evW z0 n0 z1 bs = [] from if_neg (fun e => hbo e.2)]
    rw [decide_eq_false hbo] at cB
    clear hc hbo l0 l1 lb bx j0 j1 i0 i1
    go_enter Try.func68, Try.ntmps68
    go_wp2_with fail
    refine cC.mono ?_
    rintro e w1 ⟨rfl, hb1⟩
    have gr := g0.next hb1
    have jb2 := (jb.below (hb1.mono (Nat.le_trans low.size g0.size))).ints (Nat.le_trans low.size gr.size)
    clear hb1 g0 cC jb bc0 bc1
    go_wp2_with fail
    refine (cB _ jb2).mono ?_
    rintro e w2 ⟨rfl, rfl⟩
    go_wp2_with fail
    go_ret
    obtain ⟨A, m, c, he, hl, ho, hb⟩ := gr.done
    injection he with he
    injection he with he1 he2 he3
    subst he1 he2 he3
    exact ⟨_, _, _, rfl, ho.any.wide low.size (Nat.le_refl _), low.trans (hb.mono low.size)⟩
  rw [show evW z0 n0 z1 bs = wv z0 bs n0 from if_pos ⟨hc, hbo⟩]
  rw [decide_eq_true hbo] at cB
  have n6 := hc.1
  obtain rfl : nb = 80 := lb.symm.trans hbo.1
  have HG := Lib.hid hc.2.1
  have HB := Lib.hid hbo.2
  have L0 := Lib.hid l0
  have LB := Lib.hid lb
  clear hc hbo l0 l1 lb m0 j0 j1 i1
  go_enter Try.func68, Try.ntmps68
  go_wp2_with fail
  refine cC.mono ?_
  rintro e w1 ⟨rfl, hb1⟩
  have Hg := Lib.hid (g0.next hb1)
  have sz1 := Nat.le_trans low.size g0.size
  have bx1 := heap_below bx hb1
  replace i0 := i0.below (hb1.mono sz1)
  replace jb := jb.below (hb1.mono sz1)
  have low1 := hb1.mono sz1
  have sz2 := Nat.le_trans low.size Hg.out.size
  clear hb1 g0 cC bx hw0 bc0 bc1
  go_wp2_with fail
  refine (cB _ (jb.ints sz2)).mono ?_
  rintro e w2 ⟨rfl, rfl⟩
  clear cB
  have bb0 := (blk (i := 0) bx1 rfl).1
  go_wp2_with fail
  go_loopw [5, 6] (fun v i wr => ∃ k : Nat, k ≤ n0 ∧ i = .int .i64 k ∧ Grow w0 wr v k (wv z0 bs k) ∧ Below w.heap.size w1 wr ∧ wr.heap[w.heap.size]? = some (.cells #[.slice A0 n0 c0, .slice A1 n1 c1] 27 (0, 0))) (fun _ i _ => n0 - (intOf i).toNat)
  case atStart => exact ⟨0, Nat.zero_le _, rfl, Hg.out, Below.refl _ _, bx1⟩
  case round =>
    obtain ⟨k, hk, rfl, gr, hbr, bxr⟩ := hrel
    clear Hg bx1 bb0
    have bb0 := (blk (i := 0) bxr rfl).1
    have szr := Nat.le_trans low.size gr.size
    have hlw := heap_lt bxr
    by_cases hlt : k < n0
    · obtain ⟨Av, KK, cv, rfl, rfl⟩ := ownsRow_slice gr.own
      obtain ⟨g, o, rfl, -, q0⟩ := (i0.below hbr).at_ (j := k * 3) (by rw [L0.out]; omega)
      obtain ⟨_, _, e1, -, q1⟩ := (i0.below hbr).at_ (j := k * 3 + 1) (by rw [L0.out]; omega)
      injection e1 with e1; injection e1 with e11 e12; subst e11 e12
      rw [← Nat.add_assoc] at q1
      obtain ⟨_, _, e1, -, q2⟩ := (i0.below hbr).at_ (j := k * 3 + 2) (by rw [L0.out]; omega)
      injection e1 with e1; injection e1 with e11 e12; subst e11 e12
      rw [← Nat.add_assoc] at q2
      have hgo : gateOk (z0.getD (k * 3) 0) (z0.getD (k * 3 + 1) 0) (z0.getD (k * 3 + 2) 0) k := HG.out k hlt
      have Hv : Hid (∀ x, gval (z0.getD (k * 3) 0) (z0.getD (k * 3 + 1) 0) (z0.getD (k * 3 + 2) 0) (wv z0 bs k) bs = x → intVals (wv z0 bs k) ++ (#[Value.int .i64 x] : Array Value).toList = intVals (wv z0 bs (k + 1))) := fun x hx => snoc_vals (by rw [← hx]; rfl)
      have Hvb := Lib.hid (wv_bit HG.out HB.out k hk)
      generalize z0.getD (k * 3) 0 = x at q0 hgo Hv
      generalize z0.getD (k * 3 + 1) 0 = y at q1 hgo Hv
      generalize z0.getD (k * 3 + 2) 0 = z at q2 hgo Hv
      have ga := gr.alloc (.cells #[.int .i64 x, .int .i64 y, .int .i64 z] 115)
      have ia := Ints.of_own ga.own
      have la := ga.len
      have ib := (jb.below hbr).ints szr |>.al (.cells #[.int .i64 x, .int .i64 y, .int .i64 z] 115)
      have hba := hbr.alloc szr (.cells #[.int .i64 x, .int .i64 y, .int .i64 z] 115)
      have bxa := heap_alloc bxr (.cells #[.int .i64 x, .int .i64 y, .int .i64 z] 115)
      have k0 : (0 : Int) ≤ k := by omega
      have k1 : (k : Int) < n0 := by omega
      generalize wv z0 bs k = vs at *
      generalize hv2 : wv z0 bs (k + 1) = vs2 at *
      have HV2 := Lib.hid hv2
      clear gr hv2 hbr bxr i0
      rcases hgo with ⟨rfl, ⟨a0, a1⟩, rfl⟩ | ⟨rfl, ⟨a0, a1⟩, rfl⟩ | ⟨h34, ⟨a0, a1⟩, b0, b1⟩ | ⟨rfl, ⟨a0, a1⟩, rfl⟩
      · obtain ⟨g2, o2, rfl, -, q⟩ := ib.at_ (j := y.toNat) (by rw [LB.out]; omega)
        have Hv2 := Lib.hid (Hv.out (bs.getD y.toNat 0) (by simp [gval]))
        generalize bs.getD y.toNat 0 = p1 at *
        clear Hv ia ib
        have gq := ga
        have hbq := hba
        have bxq := bxa
        clear ga hba bxa
        have g4 := gq.alloc (.cells #[.int .i64 (p1)] 3)
        have hb4 := hbq.alloc (Nat.le_trans low.size gq.size) (.cells #[.int .i64 (p1)] 3)
        have bx4 := heap_alloc bxq (.cells #[.int .i64 (p1)] 3)
        go_wp2_with (first | (at_builtin; refine app_list (e' := 3) elemInt rfl _ _ rfl w0.heap.size _ k (intVals vs) rfl g4.own (wr.heap.size + 1) 1 1 _ (0, 0) rfl (new_at (wr.alloc (.cells #[.int .i64 1, .int .i64 y, .int .i64 0] 115)) _ _ (by first | rfl | simp)) rfl (oneCell_i64 [_]) (by omega) (by unfold maxLen; omega) (by omega) g4.size (wr.heap.size + 1 + 1) (by simp) ?_))
        intro g5 c5 w5 ho5 hg5 _ _
        have Hg := Lib.hid (g4.app ho5 hg5 Hv2.out)
        have Hb := Lib.hid (below_own hb4 g4.own hg5 low.size (Nat.le_trans low.size g4.size))
        have Hx := Lib.hid (heap_grown bx4 hg5 (fun e => by have := (g4.own.lt _ e).1; omega))
        clear ho5 hg5 g4 hb4 bx4 gq hbq bxq
        go_wp2_with fail
        go_roundw
        case rel => exact ⟨k + 1, by omega, by go_num, by rw [HV2.out]; exact Hg.out, Hb.out, Hx.out⟩
        case measure => simp [intOf]; omega
      · skip
        have Hv2 := Lib.hid (Hv.out (y) (by simp [gval]))
        clear Hv ia ib
        have gq := ga
        have hbq := hba
        have bxq := bxa
        clear ga hba bxa
        have g4 := gq.alloc (.cells #[.int .i64 (y)] 3)
        have hb4 := hbq.alloc (Nat.le_trans low.size gq.size) (.cells #[.int .i64 (y)] 3)
        have bx4 := heap_alloc bxq (.cells #[.int .i64 (y)] 3)
        go_wp2_with (first | (at_builtin; refine app_list (e' := 3) elemInt rfl _ _ rfl w0.heap.size _ k (intVals vs) rfl g4.own (wr.heap.size + 1) 1 1 _ (0, 0) rfl (new_at (wr.alloc (.cells #[.int .i64 2, .int .i64 y, .int .i64 0] 115)) _ _ (by first | rfl | simp)) rfl (oneCell_i64 [_]) (by omega) (by unfold maxLen; omega) (by omega) g4.size (wr.heap.size + 1 + 1) (by simp) ?_))
        intro g5 c5 w5 ho5 hg5 _ _
        have Hg := Lib.hid (g4.app ho5 hg5 Hv2.out)
        have Hb := Lib.hid (below_own hb4 g4.own hg5 low.size (Nat.le_trans low.size g4.size))
        have Hx := Lib.hid (heap_grown bx4 hg5 (fun e => by have := (g4.own.lt _ e).1; omega))
        clear ho5 hg5 g4 hb4 bx4 gq hbq bxq
        go_wp2_with fail
        go_roundw
        case rel => exact ⟨k + 1, by omega, by go_num, by rw [HV2.out]; exact Hg.out, Hb.out, Hx.out⟩
        case measure => simp [intOf]; omega
      · obtain ⟨g2, o2, rfl, -, q⟩ := ia.at_ (j := y.toNat) (by rw [la]; omega)
        obtain ⟨_, _, e1, -, p⟩ := ia.at_ (j := z.toNat) (by rw [la]; omega)
        injection e1 with e1; injection e1 with e11 e12; subst e11 e12
        rcases h34 with rfl | rfl
        · skip
          have Hv2 := Lib.hid (Hv.out (bits .xor .i64 (vs.getD y.toNat 0) (vs.getD z.toNat 0)) (by rw [xor_bit (Hvb.out.at_ _) (Hvb.out.at_ _)]; simp [gval]))
          generalize vs.getD y.toNat 0 = p1 at *
          generalize vs.getD z.toNat 0 = p2 at *
          clear Hv ia ib
          go_wp2_with fail
          go_quiet (fail)
          generalize hwq : World.drewN (wr.alloc (.cells #[.int .i64 3, .int .i64 y, .int .i64 z] 115)) _ = wq
          have gq : Grow w0 wq (.slice (some ⟨g2, o2, none⟩) k cv) k vs := hwq ▸ ga.drewN _
          have hbq : Below w.heap.size w1 wq := hwq ▸ below_drewN hba _
          have bxq : wq.heap[w.heap.size]? = some (.cells #[.slice (some ⟨g, o, none⟩) n0 c0, .slice A1 n1 c1] 27 (0, 0)) := hwq ▸ bxa
          clear hwq ga hba bxa q0 q1 q2
          have g4 := gq.alloc (.cells #[.int .i64 (bits .xor .i64 p1 p2)] 3)
          have hb4 := hbq.alloc (Nat.le_trans low.size gq.size) (.cells #[.int .i64 (bits .xor .i64 p1 p2)] 3)
          have bx4 := heap_alloc bxq (.cells #[.int .i64 (bits .xor .i64 p1 p2)] 3)
          go_wp2_with (first | (at_builtin; refine app_list (e' := 3) elemInt rfl _ _ rfl w0.heap.size _ k (intVals vs) rfl g4.own (wq.heap.size) 1 1 _ (0, 0) rfl (new_at wq _ _ (by first | rfl | simp)) rfl (oneCell_i64 [_]) (by omega) (by unfold maxLen; omega) (by omega) g4.size (wq.heap.size + 1) (by simp) ?_))
          intro g5 c5 w5 ho5 hg5 _ _
          have Hg := Lib.hid (g4.app ho5 hg5 Hv2.out)
          have Hb := Lib.hid (below_own hb4 g4.own hg5 low.size (Nat.le_trans low.size g4.size))
          have Hx := Lib.hid (heap_grown bx4 hg5 (fun e => by have := (g4.own.lt _ e).1; omega))
          clear ho5 hg5 g4 hb4 bx4 gq hbq bxq
          go_wp2_with fail
          go_roundw
          case rel => exact ⟨k + 1, by omega, by go_num, by rw [HV2.out]; exact Hg.out, Hb.out, Hx.out⟩
          case measure => simp [intOf]; omega
        · skip
          have Hv2 := Lib.hid (Hv.out (bits .and .i64 (vs.getD y.toNat 0) (vs.getD z.toNat 0)) (by rw [and_bit (Hvb.out.at_ _) (Hvb.out.at_ _)]; simp [gval]))
          generalize vs.getD y.toNat 0 = p1 at *
          generalize vs.getD z.toNat 0 = p2 at *
          clear Hv ia ib
          go_wp2_with fail
          go_quiet (fail)
          generalize hwq : World.drewN (wr.alloc (.cells #[.int .i64 4, .int .i64 y, .int .i64 z] 115)) _ = wq
          have gq : Grow w0 wq (.slice (some ⟨g2, o2, none⟩) k cv) k vs := hwq ▸ ga.drewN _
          have hbq : Below w.heap.size w1 wq := hwq ▸ below_drewN hba _
          have bxq : wq.heap[w.heap.size]? = some (.cells #[.slice (some ⟨g, o, none⟩) n0 c0, .slice A1 n1 c1] 27 (0, 0)) := hwq ▸ bxa
          clear hwq ga hba bxa q0 q1 q2
          have g4 := gq.alloc (.cells #[.int .i64 (bits .and .i64 p1 p2)] 3)
          have hb4 := hbq.alloc (Nat.le_trans low.size gq.size) (.cells #[.int .i64 (bits .and .i64 p1 p2)] 3)
          have bx4 := heap_alloc bxq (.cells #[.int .i64 (bits .and .i64 p1 p2)] 3)
          go_wp2_with (first | (at_builtin; refine app_list (e' := 3) elemInt rfl _ _ rfl w0.heap.size _ k (intVals vs) rfl g4.own (wq.heap.size) 1 1 _ (0, 0) rfl (new_at wq _ _ (by first | rfl | simp)) rfl (oneCell_i64 [_]) (by omega) (by unfold maxLen; omega) (by omega) g4.size (wq.heap.size + 1) (by simp) ?_))
          intro g5 c5 w5 ho5 hg5 _ _
          have Hg := Lib.hid (g4.app ho5 hg5 Hv2.out)
          have Hb := Lib.hid (below_own hb4 g4.own hg5 low.size (Nat.le_trans low.size g4.size))
          have Hx := Lib.hid (heap_grown bx4 hg5 (fun e => by have := (g4.own.lt _ e).1; omega))
          clear ho5 hg5 g4 hb4 bx4 gq hbq bxq
          go_wp2_with fail
          go_roundw
          case rel => exact ⟨k + 1, by omega, by go_num, by rw [HV2.out]; exact Hg.out, Hb.out, Hx.out⟩
          case measure => simp [intOf]; omega
      · obtain ⟨g2, o2, rfl, -, q⟩ := ia.at_ (j := y.toNat) (by rw [la]; omega)
        obtain ⟨y0, y1⟩ := Hvb.out.at_ y.toNat
        have Hv2 := Lib.hid (Hv.out (1 - vs.getD y.toNat 0) (by simp [gval]))
        generalize vs.getD y.toNat 0 = p1 at *
        clear Hv ia ib
        have gq := ga
        have hbq := hba
        have bxq := bxa
        clear ga hba bxa
        have g4 := gq.alloc (.cells #[.int .i64 (1 - p1)] 3)
        have hb4 := hbq.alloc (Nat.le_trans low.size gq.size) (.cells #[.int .i64 (1 - p1)] 3)
        have bx4 := heap_alloc bxq (.cells #[.int .i64 (1 - p1)] 3)
        go_wp2_with (first | (at_builtin; refine app_list (e' := 3) elemInt rfl _ _ rfl w0.heap.size _ k (intVals vs) rfl g4.own (wr.heap.size + 1) 1 1 _ (0, 0) rfl (new_at (wr.alloc (.cells #[.int .i64 5, .int .i64 y, .int .i64 0] 115)) _ _ (by first | rfl | simp)) rfl (oneCell_i64 [_]) (by omega) (by unfold maxLen; omega) (by omega) g4.size (wr.heap.size + 1 + 1) (by simp) ?_))
        intro g5 c5 w5 ho5 hg5 _ _
        have Hg := Lib.hid (g4.app ho5 hg5 Hv2.out)
        have Hb := Lib.hid (below_own hb4 g4.own hg5 low.size (Nat.le_trans low.size g4.size))
        have Hx := Lib.hid (heap_grown bx4 hg5 (fun e => by have := (g4.own.lt _ e).1; omega))
        clear ho5 hg5 g4 hb4 bx4 gq hbq bxq
        go_wp2_with fail
        go_roundw
        case rel => exact ⟨k + 1, by omega, by go_num, by rw [HV2.out]; exact Hg.out, Hb.out, Hx.out⟩
        case measure => simp [intOf]; omega
    · obtain rfl : k = n0 := by omega
      obtain ⟨A, m, c, he, hl, ho, hb⟩ := gr.done
      injection he with he
      subst he
      have O := Lib.hid (ho.any.wide low.size (Nat.le_refl _))
      have lowx := low.trans (hb.mono low.size)
      clear gr ho hb hbr bxr i0 jb
      go_wp2_with fail
      go_ret
      exact ⟨A, m, c, rfl, O.out, lowx⟩
set_option maxRecDepth 100000 in
set_option maxHeartbeats 2000000 in
theorem spec_EvalCircuit (A0 : Option Addr) (n0 c0 : Nat) (z0 : List Int) (A1 : Option Addr) (n1 c1 : Nat) (z1 : List Int) (Ab : Option Addr) (nb cb : Nat) (bs : List Int) (w : World) (h0 : Ints w A0 z0) (l0 : z0.length = n0 * 3) (m0 : n0 ≤ 1000000000000) (h1 : Ints w A1 z1) (l1 : z1.length = n1) (m1 : n1 ≤ 1000000000) (hb : Ints w Ab bs) (lb : bs.length = nb) (mb : nb ≤ 1000000000000) :
    Calls Try.prog 40 #[.agg #[.slice A0 n0 c0, .slice A1 n1 c1], .slice Ab nb cb] w (Post_A_bool (evC z0 n0 z1 bs) (decide (evOk z0 n0 z1 bs)) w) := by
  have low := below_alloc w (.cells #[.slice A0 n0 c0, .slice A1 n1 c1] 27)
  have bx := heap_alloc (heap_alloc_new w (.cells #[.slice A0 n0 c0, .slice A1 n1 c1] 27)) (.cells #[] 3)
  have j0 := (h0.al (.cells #[.slice A0 n0 c0, .slice A1 n1 c1] 27)).al (.cells #[] 3)
  have j1 := (h1.al (.cells #[.slice A0 n0 c0, .slice A1 n1 c1] 27)).al (.cells #[] 3)
  have jb := (hb.bound.below low).below ((below_alloc _ (.cells #[] 3)).mono low.size)
  have i0 := (h0.bound.below low).below ((below_alloc _ (.cells #[] 3)).mono low.size)
  have i1 := (h1.bound.below low).below ((below_alloc _ (.cells #[] 3)).mono low.size)
  clear h0 h1 hb
  generalize hw0 : w.alloc (.cells #[.slice A0 n0 c0, .slice A1 n1 c1] 27) = w0 at *
  have hs0 : w.heap.size < w0.heap.size := by rw [← hw0]; simp
  have g0 := Grow.empty (Below.refl w0.heap.size w0)
  have bc0 := (blk (i := 0) bx rfl).1
  have bc1 := (blk (i := 1) bx rfl).1
  by_cases hc : cirOk z0 n0 z1
  case neg =>
    rw [show evC z0 n0 z1 bs = [] from if_neg (fun e => hc e.1), decide_eq_false (fun e : evOk z0 n0 z1 bs => hc e.1)]
    have cC := spec_CircuitOk A0 n0 c0 z0 A1 n1 c1 z1 false (decide_eq_false hc) _ j0 l0 m0 j1 l1 (by omega)
    clear hc l0 l1 lb bx j0 j1 jb i0 i1
    go_enter Try.func40, Try.ntmps40
    go_wp2_with fail
    refine cC.mono ?_
    rintro e w1 ⟨rfl, hb1⟩
    have gr := g0.next hb1
    clear hb1 g0 cC bc0 bc1
    go_wp2_with fail
    go_ret2
    obtain ⟨A, m, c, he, hl, ho, hb⟩ := gr.done
    injection he with he
    injection he with he1 he2 he3
    subst he1 he2 he3
    exact ⟨_, _, _, rfl, ho.any.wide low.size (Nat.le_refl _), low.trans (hb.mono low.size)⟩
  have cC := spec_CircuitOk A0 n0 c0 z0 A1 n1 c1 z1 true (decide_eq_true hc) _ j0 l0 m0 j1 l1 (by omega)
  have cB := fun W (k : Ints W Ab bs) => spec_l13Bits Ab nb cb bs (decide (bitsOk bs)) rfl W k lb mb
  by_cases hbo : bitsOk bs
  case neg =>
    rw [show evC z0 n0 z1 bs = [] from if_neg (fun e => hbo e.2), decide_eq_false (fun e : evOk z0 n0 z1 bs => hbo e.2)]
    rw [decide_eq_false hbo] at cB
    clear hc hbo l0 l1 lb bx j0 j1 i0 i1
    go_enter Try.func40, Try.ntmps40
    go_wp2_with fail
    refine cC.mono ?_
    rintro e w1 ⟨rfl, hb1⟩
    have gr := g0.next hb1
    have jb2 := (jb.below (hb1.mono (Nat.le_trans low.size g0.size))).ints (Nat.le_trans low.size gr.size)
    clear hb1 g0 cC jb bc0 bc1
    go_wp2_with fail
    refine (cB _ jb2).mono ?_
    rintro e w2 ⟨rfl, rfl⟩
    go_wp2_with fail
    go_ret2
    obtain ⟨A, m, c, he, hl, ho, hb⟩ := gr.done
    injection he with he
    injection he with he1 he2 he3
    subst he1 he2 he3
    exact ⟨_, _, _, rfl, ho.any.wide low.size (Nat.le_refl _), low.trans (hb.mono low.size)⟩
  rw [show evC z0 n0 z1 bs = outV (wv z0 bs n0) z1 from if_pos ⟨hc, hbo⟩, decide_eq_true (show evOk z0 n0 z1 bs from ⟨hc, hbo⟩)]
  rw [decide_eq_true hbo] at cB
  have n6 := hc.1
  have cW := fun W k0 k1 kb => spec_EvalWires A0 n0 c0 z0 A1 n1 c1 z1 Ab nb cb bs W k0 l0 m0 k1 l1 m1 kb lb mb
  rw [show evW z0 n0 z1 bs = wv z0 bs n0 from if_pos ⟨hc, hbo⟩] at cW
  have HW := Lib.hid hc.2.2
  have LV := Lib.hid (wv_length z0 bs n0)
  have L1 := Lib.hid l1
  generalize wv z0 bs n0 = vs at *
  clear hc hbo l0 l1 lb m0 j0 j1
  go_enter Try.func40, Try.ntmps40
  go_wp2_with fail
  refine cC.mono ?_
  rintro e w1 ⟨rfl, hb1⟩
  have g1 := g0.next hb1
  have sz0 := hb1.size
  have sz1 := Nat.le_trans low.size g0.size
  have bx1 := heap_below bx hb1
  replace i0 := i0.below (hb1.mono sz1)
  replace i1 := i1.below (hb1.mono sz1)
  replace jb := jb.below (hb1.mono sz1)
  have sz2 := Nat.le_trans low.size g1.size
  clear hb1 g0 cC bx hw0 bc0 bc1
  go_wp2_with fail
  refine (cB _ (jb.ints sz2)).mono ?_
  rintro e w2 ⟨rfl, rfl⟩
  clear cB
  have bb0 := (blk (i := 0) bx1 rfl).1
  have bb1 := (blk (i := 1) bx1 rfl).1
  go_wp2_with fail
  refine (cW _ (i0.ints sz2) (i1.ints sz2) (jb.ints sz2)).mono ?_
  rintro e w2 ⟨A, m, c, rfl, ho, hb2⟩
  obtain rfl : m = n0 := by rw [← ho.len1, LV.out]
  have Hg := Lib.hid (g1.next hb2)
  have gsz : w0.heap.size < w1.heap.size := Nat.lt_of_lt_of_le (by simp) sz0
  have bx2 := heap_below bx1 hb2
  have sz3 := hb2.size
  replace i1 := i1.below (hb2.mono sz2)
  have ov := Lib.hid ho
  clear i0 jb g1 cW ho bx1 bb0 bb1
  have bb1 := (blk (i := 1) bx2 rfl).1
  go_wp2_with fail
  go_loopw [6, 8] (fun v i wr => ∃ k : Nat, k ≤ n1 ∧ i = .int .i64 k ∧ Grow w0 wr v k (outV vs (z1.take k)) ∧ Below w.heap.size w2 wr ∧ wr.heap[w.heap.size]? = some (.cells #[.slice A0 m c0, .slice A1 n1 c1] 27 (0, 0)) ∧ OwnA 1 w1.heap.size w2.heap.size wr (.slice A m c) m vs ∧ w2.heap.size ≤ wr.heap.size ∧ (∀ b, v.ownBlock = some b → b < w1.heap.size ∨ w2.heap.size ≤ b)) (fun _ i _ => n1 - (intOf i).toNat)
  case atStart => exact ⟨0, Nat.zero_le _, rfl, Hg.out, Below.refl _ _, bx2, ov.out, Nat.le_refl _, fun b e => .inl (by
    have e' : w0.heap.size = b := by simpa [Value.ownBlock] using e
    omega)⟩
  case round =>
    obtain ⟨k, hk, rfl, gr, hbr, bxr, ow, szr, hat⟩ := hrel
    clear Hg bx2 bb1 ov
    have bb1 := (blk (i := 1) bxr rfl).1
    have hlw := heap_lt bxr
    by_cases hlt : k < n1
    · obtain ⟨Av, KK, cv, rfl, rfl⟩ := ownsRow_slice gr.own
      have hlt' : k < z1.length := by rw [L1.out]; exact hlt
      obtain ⟨y0, y1⟩ := HW.out _ (gD_mem (d := 0) hlt')
      obtain ⟨g, o, rfl, -, q0⟩ := (i1.below hbr).at_ hlt'
      obtain ⟨g2, o2, rfl, -, q⟩ := ow.ints.at_ (j := (z1.getD k 0).toNat) (by rw [LV.out]; omega)
      have Hv := Lib.hid (snoc_vals (outV_take vs z1 hlt'))
      generalize z1.getD k 0 = y at *
      generalize vs.getD y.toNat 0 = x at *
      have g4 := gr.alloc (.cells #[.int .i64 x] 3)
      have hb4 := hbr.alloc (Nat.le_trans low.size gr.size) (.cells #[.int .i64 x] 3)
      have bx4 := heap_alloc bxr (.cells #[.int .i64 x] 3)
      have ow4 := ow.alloc (.cells #[.int .i64 x] 3)
      have hap : apart (.slice (some ⟨g2, o2, none⟩) m c) (.slice Av k cv) := fun b e e' => by
        have := ow.ltB e
        have := hat b e'
        omega
      have k0 : (0 : Int) ≤ k := by omega
      have k1 : (k : Int) < n1 := by omega
      generalize outV vs (z1.take k) = us at *
      generalize hv2 : outV vs (z1.take (k + 1)) = us2 at *
      have HV2 := Lib.hid hv2
      have Hat := Lib.hid hat
      have Hap := Lib.hid hap
      have Ow4 := Lib.hid ow4
      clear gr hv2 hbr bxr ow ow4 hap hat hlt' i1
      go_wp2_with (first | (at_builtin; refine app_list (e' := 3) elemInt rfl _ _ rfl w0.heap.size _ k (intVals us) rfl g4.own wr.heap.size 1 1 _ (0, 0) rfl (heap_alloc_new wr _) rfl (oneCell_i64 [_]) (by omega) (by unfold maxLen; omega) (by omega) g4.size (wr.heap.size + 1) (by simp) ?_))
      intro g5 c5 w5 ho5 hg5 hh5 _
      have Hg := Lib.hid (g4.app ho5 hg5 Hv.out)
      have Hb := Lib.hid (below_own hb4 g4.own hg5 low.size (Nat.le_trans low.size g4.size))
      have Hx := Lib.hid (heap_grown bx4 hg5 (fun e => by have := (g4.own.lt _ e).1; omega))
      have Hw := Lib.hid (Ow4.out.keep hg5 Hap.out)
      have Hs : Hid (w2.heap.size ≤ w5.heap.size) := Nat.le_trans szr (Nat.le_trans (by simp) hg5.size)
      have Hq : Hid (∀ b, (Value.slice (some ⟨g5, 0, none⟩) (k + 1) c5).ownBlock = some b → b < w1.heap.size ∨ w2.heap.size ≤ b) := fun b e => by
        have e' : g5 = b := by simpa [Value.ownBlock] using e
        subst e'
        rcases hh5 with h | h
        · exact Hat.out _ h
        · right; omega
      clear ho5 hg5 g4 hb4 bx4 hh5 Ow4
      go_wp2_with fail
      go_roundw
      case rel => exact ⟨k + 1, by omega, by go_num, by rw [HV2.out]; exact Hg.out, Hb.out, Hx.out, Hw.out, Hs.out, Hq.out⟩
      case measure => simp [intOf]; omega
    · obtain rfl : k = n1 := by omega
      rw [← L1.out, List.take_length, L1.out] at gr
      obtain ⟨A', m', c', he, hl, ho, hb⟩ := gr.done
      injection he with he
      subst he
      have O := Lib.hid (ho.any.wide low.size (Nat.le_refl _))
      have lowx := low.trans (hb.mono low.size)
      clear gr ho hb hbr bxr ow hat i1 hl
      go_wp2_with fail
      go_ret2
      exact ⟨A', m', c', rfl, O.out, lowx⟩
end Go.Proofs.Ytbbdmgomcpmhpaa

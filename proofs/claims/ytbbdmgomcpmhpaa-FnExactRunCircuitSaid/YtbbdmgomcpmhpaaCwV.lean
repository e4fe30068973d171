/- Circuit builders: equality and choice of words, the program's. No condition. -/
import Derived.Test.YtbbdmgomcpmhpaaProg
import Derived.Test.YtbbdmgomcpmhpaaW2
namespace Go.Proofs.Ytbbdmgomcpmhpaa
open Go Go.RowKit
set_option maxRecDepth 100000 in
set_option maxHeartbeats 2000000 in
theorem impl_equal (B g n : Nat) (v : Value) (v1 : Rest) (z : List Int) (A : Option Addr) (c : Nat) (us : List Int) (A' : Option Addr) (c' : Nat) (ws : List Int) (w : World) (h : Cir B g w v v1 n z) (hB : B ≤ w.heap.size) (ho : Off g v w A us) (lu : us.length = 4) (ho' : Off g v w A' ws) (lw : ws.length = 4) (hn : n ≤ 970000) :
    Calls Try.prog 119 #[.pointer (some ⟨g, 0, none⟩), .slice A 4 c, .slice A' 4 c'] w (PutW B g v1 (n + 2 * 4 + 3) (equalA z us ws).1 (equalA z us ws).2 v w) := by
  go_enter Try.func119, Try.ntmps119
  go_wp2_with (first | (refine make_list elemInt rfl _ _ rfl w.heap.size _ _ 4 4 rfl rfl (by omega) (by omega) (by unfold maxLen; omega) (Nat.le_refl _) ?_))
  intro w3 hown3 hg3
  have hb3 : Below w.heap.size w w3 := (Below.refl _ _).grown hg3 (Nat.le_refl _) (fun k h => by cases h)
  have S0 := Lib.hid (show Bl B g v w w3 v v1 n z _ 0 [] from ⟨h.below hb3, (Turn.refl g v w).below hb3, Wl.fresh (us := []) h hown3 (Nat.le_refl _)⟩)
  have LU := Lib.hid lu
  have LW := Lib.hid lw
  clear hown3 hg3 h hb3 lw lu
  go_wp2_with fail
  go_loopw [7, 17] (fun u i wr => ∃ (k : Nat) (v' : Value), k ≤ 4 ∧ i = .int .i64 k ∧ Bl B g v w wr v' v1 (n + 2 * k) (xnorAt z us ws k).1 u k (xnorAt z us ws k).2) (fun _ i _ => 4 - (intOf i).toNat)
  case atStart => exact ⟨0, v, by omega, rfl, S0.out⟩
  case round =>
    obtain ⟨k, v', hk, rfl, hs⟩ := hrel
    clear S0
    by_cases hlt : k < 4
    · have k0 : (0 : Int) ≤ k := by omega
      have k1 : (k : Int) < 4 := by omega
      obtain ⟨b, o, rfl, q0⟩ := (ho.turn hs.turn).at_ (j := k) (by rw [LU.out]; exact hlt)
      obtain ⟨b', o', rfl, q1⟩ := (ho'.turn hs.turn).at_ (j := k) (by rw [LW.out]; omega)
      have B1 := Nat.le_trans hB hs.size
      obtain ⟨A4, c4, rfl⟩ := hs.wl.form
      have hsd := hs.drew
      have B2 : B ≤ wr.drew.heap.size := B1
      have HN := Lib.hid (show xnorAt z us ws (k + 1) = (putG (putG (xnorAt z us ws k).1 3 (us.getD k 0) (ws.getD k 0)) 5 (nG (xnorAt z us ws k).1) 0, (xnorAt z us ws k).2 ++ [nG (putG (xnorAt z us ws k).1 3 (us.getD k 0) (ws.getD k 0))]) from rfl)
      generalize us.getD k 0 = ux at *
      generalize ws.getD k 0 = wx at *
      generalize xnorAt z us ws k = R at *
      have c5 := impl_xor B g (n + 2 * k) v' v1 R.1 ux wx
      have C6 := Lib.hid (fun u W (H : Cir B g W u v1 (n + 2 * k + 1) (putG R.1 3 ux wx)) HB => impl_not B g (n + 2 * k + 1) u v1 (putG R.1 3 ux wx) (nG R.1) W H HB (by omega))
      clear ho ho' hs
      go_upto_region 5 with (fail)
      go_region_law (first
        | (refine app_step (e' := 3) elemInt (by rfl) _ _ (by rfl) w.heap.size (.slice A4 k c4) k (intVals R.2) (by rfl) (hs6.alloc (.cells #[.int .i64 (nG (putG R.1 3 ux wx))] 3)).wl.own w6.heap.size 1 1 _ (0, 0) (by rfl) (heap_alloc_new w6 _) (by rfl) (oneCell_i64 [_]) (by omega) (by unfold maxLen; omega) (by omega) (by simp; omega) (w6.heap.size + 1) (by simp) ?_; intro g5 e5 w7 ho5 hg5 hat5 hl5)
        | (go_simp; go_at_call 84; (with_reducible refine (c5 _ hsd.cir B2 (by omega)).mono ?_); rintro e w5 ⟨v5, rfl, h5, t5⟩; (have hs5 := hsd.next h5 t5); (have B5 := Nat.le_trans B2 t5.size))
        | (go_simp; go_at_call 122; (with_reducible refine (C6.out v5 _ hs5.cir B5).mono ?_); rintro e w6 ⟨v6, rfl, h6, t6⟩; (have hs6 := hs5.next h6 t6); (have sz6 := hs6.size)))
      all_goals
        have H := Lib.hid (hs6.app ho5 hg5 hat5)
        clear h5 t5 h6 t6 hs5 hs6 hsd ho5 hg5 hat5 hl5 C6 c5 q0 q1
        go_wp2_with fail
        go_roundw
        case rel => exact ⟨k + 1, v6, by omega, by go_num, by rw [HN.out, show n + 2 * (k + 1) = n + 2 * k + 1 + 1 by omega]; exact H.out⟩
        case measure => simp [intOf]; omega
    · obtain rfl : k = 4 := by omega
      have hX := xnorAt_length z us ws 4
      have E := Lib.hid (show equalA z us ws = andAt (xnorAt z us ws 4).1 (xnorAt z us ws 4).2 3 from rfl)
      generalize xnorAt z us ws 4 = R at *
      obtain ⟨A4, c4, rfl⟩ := hs.wl.form
      have hcap := hs.wl.cap
      obtain ⟨b4, rfl, _⟩ := own_addr hs.wl.own (by omega)
      have q0 := (hs.wl.at_ (j := 0) (by omega)).1
      obtain ⟨y0, hy0⟩ : ∃ y, R.2.getD 0 0 = y := ⟨_, rfl⟩
      rw [hy0] at q0
      have B1 := Nat.le_trans hB hs.size
      have HX := Lib.hid hX
      have x1 : (1 : Int) ≤ (c4 : Int) := by omega
      have x2 : ¬ c4 - 1 = 0 := by omega
      have x3 : ¬ c4 = 1 := by omega
      have S := Lib.hid (show Bl B g v w wr v' v1 (n + 2 * 4 + 0) (andAt R.1 R.2 0).1 (.slice (some ⟨b4, 0, none⟩) 4 c4) 4 R.2 from hs)
      have Y0 := Lib.hid (show y0 = (andAt R.1 R.2 0).2 from hy0.symm)
      clear hX hs ho ho' LU LW hy0
      obtain ⟨wo, rfl⟩ : ∃ wo : World, wo = wr := ⟨_, rfl⟩
      go_wp2_with fail
      rw [show ((4 : Nat) : Int) = 4 from rfl]
      go_loopw [9, 42] (fun q i wq => ∃ (k : Nat) (x : Int) (v' : Value), k ≤ 3 ∧ i = .int .i64 k ∧ q = .int .i64 x ∧ Hid (x = (andAt R.1 R.2 k).2) ∧ Bl B g v w wq v' v1 (n + 2 * 4 + k) (andAt R.1 R.2 k).1 (.slice (some ⟨b4, 0, none⟩) 4 c4) 4 R.2) (fun _ i _ => 3 - (intOf i).toNat)
      case atStart => exact ⟨0, y0, v', by omega, rfl, rfl, Y0, S.out⟩
      case round =>
        obtain ⟨k, x, v'', hk, rfl, rfl, hx, hs⟩ := hrel
        clear S Y0 q0
        by_cases hlt : k < 3
        · have k0 : (0 : Int) ≤ k := by omega
          have k1 : (k : Int) < 3 := by omega
          have q0 := (hs.wl.at_ (j := 1 + k) (by omega)).1
          have B2 := Nat.le_trans hB hs.size
          have HN := Lib.hid (show andAt R.1 R.2 (k + 1) = (putG (andAt R.1 R.2 k).1 4 x (R.2.getD (1 + k) 0), nG (andAt R.1 R.2 k).1) from by rw [hx.out, Nat.add_comm 1 k]; rfl)
          generalize R.2.getD (1 + k) 0 = y at *
          generalize (andAt R.1 R.2 k).1 = zk at *
          go_wp2_with fail
          refine (impl_and B g (n + 2 * 4 + k) v'' v1 zk x y wr hs.cir B2 (by omega)).mono ?_
          rintro e w5 ⟨v5, rfl, h5, t5⟩
          have H := Lib.hid (hs.next h5 t5)
          clear h5 t5 hs q0
          go_wp2_with fail
          go_roundw
          case rel => exact ⟨k + 1, nG zk, v5, by omega, by go_num, rfl, Lib.hid (by rw [HN.out]), by rw [HN.out]; exact H.out⟩
          case measure => simp [intOf]; omega
        · obtain rfl : k = 3 := by omega
          have H := Lib.hid hs
          clear hs
          go_wp2_with fail
          go_ret
          exact ⟨v'', ret_int (by rw [E.out]; exact hx.out), by rw [E.out]; exact H.out.cir, H.out.turn⟩
set_option maxRecDepth 100000 in
set_option maxHeartbeats 2000000 in
theorem impl_mux (B g n : Nat) (v : Value) (v1 : Rest) (z : List Int) (s : Int) (A : Option Addr) (c : Nat) (us : List Int) (A' : Option Addr) (c' : Nat) (ws : List Int) (w : World) (h : Cir B g w v v1 n z) (hB : B ≤ w.heap.size) (ho : Off g v w A us) (lu : us.length = 4) (ho' : Off g v w A' ws) (lw : ws.length = 4) (hn : n ≤ 970000) :
    Calls Try.prog 63 #[.pointer (some ⟨g, 0, none⟩), .int .i64 s, .slice A 4 c, .slice A' 4 c'] w (PutL B g v1 (n + 3 * 4) (muxAt z s us ws 4).1 (muxAt z s us ws 4).2 v w) := by
  go_enter Try.func63, Try.ntmps63
  go_wp2_with (first | (refine make_list elemInt rfl _ _ rfl w.heap.size _ _ 4 4 rfl rfl (by omega) (by omega) (by unfold maxLen; omega) (Nat.le_refl _) ?_))
  intro w3 hown3 hg3
  have hb3 : Below w.heap.size w w3 := (Below.refl _ _).grown hg3 (Nat.le_refl _) (fun k h => by cases h)
  have S0 := Lib.hid (show Bl B g v w w3 v v1 n z _ 0 [] from ⟨h.below hb3, (Turn.refl g v w).below hb3, Wl.fresh (us := []) h hown3 (Nat.le_refl _)⟩)
  have LU := Lib.hid lu
  have LW := Lib.hid lw
  clear hown3 hg3 h hb3 lw lu
  go_wp2_with fail
  go_loopw [9, 17] (fun u i wr => ∃ (k : Nat) (v' : Value), k ≤ 4 ∧ i = .int .i64 k ∧ Bl B g v w wr v' v1 (n + 3 * k) (muxAt z s us ws k).1 u k (muxAt z s us ws k).2) (fun _ i _ => 4 - (intOf i).toNat)
  case atStart => exact ⟨0, v, by omega, rfl, S0.out⟩
  case round =>
    obtain ⟨k, v', hk, rfl, hs⟩ := hrel
    clear S0
    by_cases hlt : k < 4
    · have k0 : (0 : Int) ≤ k := by omega
      have k1 : (k : Int) < 4 := by omega
      obtain ⟨b, o, rfl, q0⟩ := (ho.turn hs.turn).at_ (j := k) (by rw [LU.out]; exact hlt)
      obtain ⟨b', o', rfl, q1⟩ := (ho'.turn hs.turn).at_ (j := k) (by rw [LW.out]; omega)
      have B1 := Nat.le_trans hB hs.size
      obtain ⟨A4, c4, rfl⟩ := hs.wl.form
      have hsd := hs.drew
      have B2 : B ≤ wr.drew.heap.size := B1
      have HN := Lib.hid (show muxAt z s us ws (k + 1) = (putG (putG (putG (muxAt z s us ws k).1 3 (us.getD k 0) (ws.getD k 0)) 4 s (nG (muxAt z s us ws k).1)) 3 (nG (putG (muxAt z s us ws k).1 3 (us.getD k 0) (ws.getD k 0))) (ws.getD k 0), (muxAt z s us ws k).2 ++ [nG (putG (putG (muxAt z s us ws k).1 3 (us.getD k 0) (ws.getD k 0)) 4 s (nG (muxAt z s us ws k).1))]) from rfl)
      obtain ⟨wx, hwx⟩ : ∃ y, ws.getD k 0 = y := ⟨_, rfl⟩
      have HW := Lib.hid hwx
      rw [hwx] at q1 HN
      clear hwx
      generalize us.getD k 0 = ux at *
      generalize muxAt z s us ws k = R at *
      have c5 := impl_xor B g (n + 3 * k) v' v1 R.1 ux wx
      have C6 := Lib.hid (fun u W (H : Cir B g W u v1 (n + 3 * k + 1) (putG R.1 3 ux wx)) HB => impl_and B g (n + 3 * k + 1) u v1 (putG R.1 3 ux wx) s (nG R.1) W H HB (by omega))
      have C7 := Lib.hid (fun u W (H : Cir B g W u v1 (n + 3 * k + 1 + 1) (putG (putG R.1 3 ux wx) 4 s (nG R.1))) HB => impl_xor B g (n + 3 * k + 1 + 1) u v1 (putG (putG R.1 3 ux wx) 4 s (nG R.1)) (nG (putG R.1 3 ux wx)) wx W H HB (by omega))
      have od := ho'.turn hs.turn
      clear ho hs
      go_upto_region 5 with (fail)
      go_region_law (first
        | (go_simp; go_at_call 84; (with_reducible refine (c5 _ hsd.cir B2 (by omega)).mono ?_); rintro e w5 ⟨v5, rfl, h5, t5⟩; (have hs5 := hsd.next h5 t5); (have B5 := Nat.le_trans B2 t5.size); (have od5 := od.drew.turn t5)))
      all_goals
        obtain ⟨_, _, e1, q2⟩ := od5.at_ (j := k) (by rw [LW.out]; omega)
        injection e1 with e1; injection e1 with e11 e12; subst e11 e12
        rw [HW.out] at q2
        have hd5 := hs5.drew
        have B6 : B ≤ w5.drew.heap.size := B5
        have e6 := od5.drew
        clear q0 q1 od h5 t5 hsd c5 hs5
        go_upto_region 6 with (fail)
        go_region_law (first
          | (refine app_step (e' := 3) elemInt (by rfl) _ _ (by rfl) w.heap.size (.slice A4 k c4) k (intVals R.2) (by rfl) (hs7.alloc (.cells #[.int .i64 (nG (putG (putG R.1 3 ux wx) 4 s (nG R.1)))] 3)).wl.own w7.heap.size 1 1 _ (0, 0) (by rfl) (heap_alloc_new w7 _) (by rfl) (oneCell_i64 [_]) (by omega) (by unfold maxLen; omega) (by omega) (by simp; omega) (w7.heap.size + 1) (by simp) ?_; intro g8 e8 w8 ho8 hg8 hat8 hl8)
          | (go_simp; go_at_call 85; (with_reducible refine (C6.out v5 _ hd5.cir B6).mono ?_); rintro e w6 ⟨v6, rfl, h6, t6⟩; (have hs6 := hd5.next h6 t6); (have B7 := Nat.le_trans B6 t6.size); (obtain ⟨_, _, e1, q3⟩ := (e6.turn t6).at_ (j := k) (by rw [LW.out]; omega)); (injection e1 with e1); (injection e1 with e11 e12); (subst e11 e12); (rw [HW.out] at q3))
          | (go_simp; go_at_call 84; (with_reducible refine (C7.out v6 _ hs6.cir B7).mono ?_); rintro e w7 ⟨v7, rfl, h7, t7⟩; (have hs7 := hs6.next h7 t7); (have sz7 := hs7.size)))
        all_goals
          have H := Lib.hid (hs7.app ho8 hg8 hat8)
          clear h6 t6 hs6 hs7 h7 t7 hd5 ho8 hg8 hat8 hl8 C6 C7 q2 q3
          go_wp2_with fail
          go_roundw
          case rel => exact ⟨k + 1, v7, by omega, by go_num, by rw [HN.out, show n + 3 * (k + 1) = n + 3 * k + 1 + 1 + 1 by omega]; exact H.out⟩
          case measure => simp [intOf]; omega
    · obtain rfl : k = 4 := by omega
      obtain ⟨A, c, rfl⟩ := hs.wl.form
      have H := Lib.hid hs
      clear hs
      go_wp2_with fail
      go_ret
      exact ⟨v', A, 4, c, rfl, H.out.wl.len, H.out.cir, H.out.turn, H.out.wl⟩
end Go.Proofs.Ytbbdmgomcpmhpaa

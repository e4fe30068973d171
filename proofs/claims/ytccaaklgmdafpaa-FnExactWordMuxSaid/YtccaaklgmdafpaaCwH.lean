/- Circuit builders: lists of wires, sums, comparisons, the model's. No condition. -/
import Derived.Test.YtccaaklgmdafpaaProg
import Derived.Test.YtccaaklgmdafpaaCwR
import Derived.Test.YtccaaklgmdafpaaB1
namespace Go.Proofs.Ytccaaklgmdafpaa
open Go Go.RowKit
/-- An empty list is made. -/
theorem Bl.empty {B g n : Nat} {w : World} {v v1 : Value} {z : List Int} (h : Cir B g w v v1 n z) : Bl B g v w (w.alloc (.cells #[] 3)) v v1 n z (.slice (some ⟨w.heap.size, 0, none⟩) 0 0) 0 [] :=
  ⟨h.alloc _, (Turn.refl g v w).alloc _, Wl.fresh h (own_nil (heap_alloc_new w _) (Nat.le_refl _)) (Nat.le_refl _)⟩
set_option maxRecDepth 100000 in
set_option maxHeartbeats 1000000 in
theorem spec_l14Const (B g n : Nat) (v v1 : Value) (z : List Int) (N : Int) (hN : 0 ≤ N ∧ N ≤ 15) (w : World) (h : Cir B g w v v1 n z) (hB : B ≤ w.heap.size) (hn : n ≤ 990000) :
    Calls Try.prog 68 #[.pointer (some ⟨g, 0, none⟩), .int .i64 N] w (PutL B g v1 (n + 4) (constAt z N 4).1 (constAt z N 4).2 v w) := by
  go_enter Try.func68, Try.ntmps68
  have s0 := Bl.empty h
  go_wp2_with fail
  generalize hw3 : w.alloc (.cells #[] 3) = w3 at *
  clear hw3
  have S0 := Lib.hid s0
  clear s0 h
  go_loopw [5, 6] (fun u i wr => ∃ (k : Nat) (v' : Value), k ≤ 4 ∧ i = .int .i64 k ∧ Bl B g v w wr v' v1 (n + k) (constAt z N k).1 u k (constAt z N k).2) (fun _ i _ => 4 - (intOf i).toNat)
  case atStart => exact ⟨0, v, by omega, rfl, S0.out⟩
  case round =>
    obtain ⟨k, v', hk, rfl, hs⟩ := hrel
    clear S0
    by_cases hlt : k < 4
    · have k0 : (0 : Int) ≤ k := by omega
      have k1 : (k : Int) < 4 := by omega
      have hbit := bit_at hlt hN
      have B1 := Nat.le_trans hB hs.size
      go_wp2_with fail
      refine (spec_l14Put B g (n + k) v' v1 (constAt z N k).1 2 (N / 2 ^ k % 2) 0 wr hs.cir B1 (by omega)).mono ?_
      rintro e w4 ⟨v4, rfl, h4, t4⟩
      have h5 := hs.next h4 t4
      have sz := h5.size
      clear h4 t4 hs
      go_wp2_with (first | (at_builtin; refine app_list (e' := 3) elemInt rfl _ _ rfl w.heap.size _ k (intVals (constAt z N k).2) rfl (h5.alloc (.cells #[.int .i64 (nG (constAt z N k).1)] 3)).wl.own w4.heap.size 1 1 _ (0, 0) rfl (heap_alloc_new w4 _) rfl (oneCell_i64 [_]) (by omega) (by unfold maxLen; omega) (by omega) (by simp; omega) (w4.heap.size + 1) (by simp) ?_))
      intro g5 c5 w5 ho5 hg5 hat5 _
      have H := Lib.hid (h5.app ho5 hg5 hat5)
      clear h5 ho5 hg5 hat5
      go_wp2_with fail
      go_roundw
      case rel => exact ⟨k + 1, v4, by omega, by go_num, H.out⟩
      case measure => simp [intOf]; omega
    · obtain rfl : k = 4 := by omega
      obtain ⟨A, c, rfl⟩ := hs.wl.form
      have H := Lib.hid hs
      clear hs
      go_wp2_with fail
      go_ret
      exact ⟨v', A, 4, c, rfl, H.out.wl.len, H.out.cir, H.out.turn, H.out.wl⟩
set_option maxRecDepth 100000 in
set_option maxHeartbeats 1000000 in
theorem spec_l14Nots (B g n : Nat) (v v1 : Value) (z : List Int) (A : Option Addr) (m c : Nat) (ws : List Int) (w : World) (h : Cir B g w v v1 n z) (hB : B ≤ w.heap.size) (ho : Off g v w A ws) (lw : ws.length = m) (hm : m ≤ 1000) (hn : n ≤ 990000) :
    Calls Try.prog 75 #[.pointer (some ⟨g, 0, none⟩), .slice A m c] w (PutL B g v1 (n + m) (notsAt z ws m).1 (notsAt z ws m).2 v w) := by
  have LW := Lib.hid lw
  clear lw
  go_enter Try.func75, Try.ntmps75
  have s0 := Bl.empty h
  go_wp2_with fail
  generalize hw3 : w.alloc (.cells #[] 3) = w3 at *
  clear hw3
  have S0 := Lib.hid s0
  clear s0 h
  go_loopw [5, 6] (fun u i wr => ∃ (k : Nat) (v' : Value), k ≤ m ∧ i = .int .i64 k ∧ Bl B g v w wr v' v1 (n + k) (notsAt z ws k).1 u k (notsAt z ws k).2) (fun _ i _ => m - (intOf i).toNat)
  case atStart => exact ⟨0, v, by omega, rfl, S0.out⟩
  case round =>
    obtain ⟨k, v', hk, rfl, hs⟩ := hrel
    clear S0
    by_cases hlt : k < m
    · have k0 : (0 : Int) ≤ k := by omega
      have k1 : (k : Int) < m := by omega
      obtain ⟨b, o, rfl, q0⟩ := (ho.turn hs.turn).at_ (j := k) (by rw [LW.out]; exact hlt)
      have B1 := Nat.le_trans hB hs.size
      clear ho
      go_wp2_with fail
      refine (spec_l14Put B g (n + k) v' v1 (notsAt z ws k).1 5 (ws.getD k 0) 0 wr hs.cir B1 (by omega)).mono ?_
      rintro e w4 ⟨v4, rfl, h4, t4⟩
      have h5 := hs.next h4 t4
      have sz := h5.size
      clear h4 t4 hs
      go_wp2_with (first | (at_builtin; refine app_list (e' := 3) elemInt rfl _ _ rfl w.heap.size _ k (intVals (notsAt z ws k).2) rfl (h5.alloc (.cells #[.int .i64 (nG (notsAt z ws k).1)] 3)).wl.own w4.heap.size 1 1 _ (0, 0) rfl (heap_alloc_new w4 _) rfl (oneCell_i64 [_]) (by omega) (by unfold maxLen; omega) (by omega) (by simp; omega) (w4.heap.size + 1) (by simp) ?_))
      intro g5 c5 w5 ho5 hg5 hat5 _
      have H := Lib.hid (h5.app ho5 hg5 hat5)
      clear h5 ho5 hg5 hat5
      go_wp2_with fail
      go_roundw
      case rel => exact ⟨k + 1, v4, by omega, by go_num, H.out⟩
      case measure => simp [intOf]; omega
    · obtain rfl : k = m := by omega
      obtain ⟨A, c, rfl⟩ := hs.wl.form
      have H := Lib.hid hs
      clear hs
      go_wp2_with fail
      go_ret
      exact ⟨v', A, k, c, rfl, H.out.wl.len, H.out.cir, H.out.turn, H.out.wl⟩
set_option maxRecDepth 100000 in
set_option maxHeartbeats 2000000 in
theorem spec_l14Sum (B g n : Nat) (v v1 : Value) (z : List Int) (A : Option Addr) (m c : Nat) (us : List Int) (A' : Option Addr) (c' : Nat) (ws : List Int) (f : Int) (w : World) (h : Cir B g w v v1 n z) (hB : B ≤ w.heap.size) (ho : Off g v w A us) (lu : us.length = m + 1) (ho' : Off g v w A' ws) (lw : ws.length = m + 1) (hm : m ≤ 900) (hn : n ≤ 980000) :
    Calls Try.prog 74 #[.pointer (some ⟨g, 0, none⟩), .slice A (m + 1) c, .slice A' (m + 1) c', .int .i64 f] w (PutL B g v1 (n + 1 + 5 * m + 1 + 1) (sumA z us ws f m).1 (sumA z us ws f m).2 v w) := by
  have LU := Lib.hid lu
  have LW := Lib.hid lw
  have km : ((m + 1 : Nat) : Int) - 1 = (m : Int) := by omega
  clear lu lw
  go_enter Try.func74, Try.ntmps74
  have s0 := Bl.empty h
  go_wp2_with fail
  generalize hw3 : w.alloc (.cells #[] 3) = w3 at *
  clear hw3
  refine (spec_l14Put B g n v v1 z 2 f 0 w3 s0.cir (Nat.le_trans hB s0.size) (by omega)).mono ?_
  rintro e w4 ⟨v4, rfl, h4, t4⟩
  have S0 := Lib.hid (show Bl B g v w w4 v4 v1 (n + 1 + 5 * 0) (sumAt z us ws f 0).1 _ 0 (sumAt z us ws f 0).2.1 from s0.next h4 t4)
  have X0 := Lib.hid (show nG z = (sumAt z us ws f 0).2.2 from rfl)
  generalize nG z = x0 at *
  clear h4 t4 s0 h
  go_wp2_with fail
  go_loopw [9, 10, 12] (fun u q i wr => ∃ (k : Nat) (x : Int) (v' : Value), k ≤ m ∧ i = .int .i64 k ∧ q = .int .i64 x ∧ Hid (x = (sumAt z us ws f k).2.2) ∧ Bl B g v w wr v' v1 (n + 1 + 5 * k) (sumAt z us ws f k).1 u k (sumAt z us ws f k).2.1) (fun _ _ i _ => m - (intOf i).toNat)
  case atStart => exact ⟨0, x0, v4, by omega, rfl, rfl, X0, S0.out⟩
  case round =>
    obtain ⟨k, x, v', hk, rfl, rfl, hx, hs⟩ := hrel
    clear S0 X0
    obtain ⟨b, o, rfl, q0⟩ := (ho.turn hs.turn).at_ (j := k) (by rw [LU.out]; omega)
    obtain ⟨b', o', rfl, q1⟩ := (ho'.turn hs.turn).at_ (j := k) (by rw [LW.out]; omega)
    have k0 : (0 : Int) ≤ k := by omega
    have B1 := Nat.le_trans hB hs.size
    obtain ⟨A4, c4, rfl⟩ := hs.wl.form
    have hsd := hs.drew
    have B2 : B ≤ wr.drew.heap.size := B1
    by_cases hlt : k < m
    · have k1 : (k : Int) < m := by omega
      have k2 : (k : Int) < ((m + 1 : Nat) : Int) := by omega
      have k3 : (k : Int) < (m : Int) + 1 := by omega
      have HN := Lib.hid (show sumAt z us ws f (k + 1) = ((fullA (sumAt z us ws f k).1 (us.getD k 0) (ws.getD k 0) x).1, (sumAt z us ws f k).2.1 ++ [(fullA (sumAt z us ws f k).1 (us.getD k 0) (ws.getD k 0) x).2.1], (fullA (sumAt z us ws f k).1 (us.getD k 0) (ws.getD k 0) x).2.2) from by rw [hx.out]; rfl)
      have c5 := spec_fullAdder B g (n + 1 + 5 * k) v' v1 (sumAt z us ws f k).1 (us.getD k 0) (ws.getD k 0) x
      generalize fullA (sumAt z us ws f k).1 (us.getD k 0) (ws.getD k 0) x = F at c5 HN
      generalize us.getD k 0 = ux at *
      generalize ws.getD k 0 = wx at *
      generalize sumAt z us ws f k = R at *
      clear ho ho' hs
      go_upto_region 7 with (fail)
      go_region_law (go_simp; go_at_call 102; (with_reducible refine (c5 _ hsd.cir B2 (by omega)).mono ?_); rintro e w4 ⟨v4, rfl, h4, t4⟩)
      all_goals
        have h5 := hsd.next h4 t4
        have sz := h5.size
        clear h4 t4 hsd c5 q0 q1
        go_wp2_with (first | (at_builtin; refine app_list (e' := 3) elemInt rfl _ _ rfl w.heap.size _ k (intVals R.2.1) rfl (h5.alloc (.cells #[.int .i64 (F.2.1)] 3)).wl.own w4.heap.size 1 1 _ (0, 0) rfl (heap_alloc_new w4 _) rfl (oneCell_i64 [_]) (by omega) (by unfold maxLen; omega) (by omega) (by simp; omega) (w4.heap.size + 1) (by simp) ?_))
        intro g5 c5 w5 ho5 hg5 hat5 _
        have H := Lib.hid (h5.app ho5 hg5 hat5)
        clear h5 ho5 hg5 hat5
        go_wp2_with fail
        go_roundw
        case rel => exact ⟨k + 1, F.2.2, v4, by omega, by go_num, rfl, Lib.hid (by rw [HN.out]), by rw [HN.out, show n + 1 + 5 * (k + 1) = n + 1 + 5 * k + 5 by omega]; exact H.out⟩
        case measure => simp [intOf]; omega
    · obtain rfl : k = m := by omega
      have k2 : (k : Int) < ((k + 1 : Nat) : Int) := by omega
      have k3 : (k : Int) < (k : Int) + 1 := by omega
      have E := Lib.hid (show sumA z us ws f k = (putG (putG (sumAt z us ws f k).1 3 (us.getD k 0) (ws.getD k 0)) 3 (nG (sumAt z us ws f k).1) x, (sumAt z us ws f k).2.1 ++ [nG (putG (sumAt z us ws f k).1 3 (us.getD k 0) (ws.getD k 0))]) from by rw [hx.out]; rfl)
      generalize us.getD k 0 = ux at *
      generalize ws.getD k 0 = wx at *
      generalize sumAt z us ws f k = R at *
      have c5 := spec_l14Put B g (n + 1 + 5 * k) v' v1 R.1 3 ux wx
      have C6 := Lib.hid (fun u W (H : Cir B g W u v1 (n + 1 + 5 * k + 1) (putG R.1 3 ux wx)) HB => spec_l14Put B g (n + 1 + 5 * k + 1) u v1 (putG R.1 3 ux wx) 3 (nG R.1) x W H HB (by omega))
      clear ho ho' hs hB
      go_upto_region 10 with (fail)
      go_region_law (go_simp; go_at_call 98; (with_reducible refine (c5 _ hsd.cir B2 (by omega)).mono ?_); rintro e w4 ⟨v4, rfl, h4, t4⟩)
      all_goals
        have h5 := hsd.next h4 t4
        have B4 := Nat.le_trans B2 t4.size
        clear h4 t4 hsd c5 q0 q1
        go_wp2_with fail
        refine (C6.out v4 w4 h5.cir B4).mono ?_
        rintro e w6 ⟨v6, rfl, h6, t6⟩
        have h7 := h5.next h6 t6
        have sz := h7.size
        clear h5 h6 t6 C6
        go_wp2_with (first | (at_builtin; refine app_list (e' := 3) elemInt rfl _ _ rfl w.heap.size _ k (intVals R.2.1) rfl (h7.alloc (.cells #[.int .i64 (nG (putG R.1 3 ux wx))] 3)).wl.own w6.heap.size 1 1 _ (0, 0) rfl (heap_alloc_new w6 _) rfl (oneCell_i64 [_]) (by omega) (by unfold maxLen; omega) (by omega) (by simp; omega) (w6.heap.size + 1) (by simp) ?_))
        intro g5 c5 w5 ho5 hg5 hat5 _
        have H := Lib.hid (h7.app ho5 hg5 hat5)
        clear h7 ho5 hg5 hat5
        go_wp2_with fail
        go_ret
        exact ⟨v6, _, _, _, rfl, by rw [E.out]; exact H.out.wl.len, by rw [E.out]; exact H.out.cir, H.out.turn, by rw [E.out]; exact H.out.wl⟩
set_option maxRecDepth 100000 in
set_option maxHeartbeats 2000000 in
theorem spec_l14Less (B g n : Nat) (v v1 : Value) (z : List Int) (A : Option Addr) (c : Nat) (us : List Int) (A' : Option Addr) (c' : Nat) (ws : List Int) (w : World) (h : Cir B g w v v1 n z) (hB : B ≤ w.heap.size) (ho : Off g v w A us) (lu : us.length = 4) (ho' : Off g v w A' ws) (lw : ws.length = 4) (hn : n ≤ 970000) :
    Calls Try.prog 76 #[.pointer (some ⟨g, 0, none⟩), .slice A 4 c, .slice A' 4 c'] w (PutW B g v1 (n + 4 + 1 + 5 * 4 + 1) (lessA z us ws).1 (lessA z us ws).2 v w) := by
  have c0 := spec_l14Nots B g n v v1 z A' 4 c' ws w h hB ho' lw (by omega) (by omega)
  have hN := notsAt_length z ws 4
  have E := Lib.hid (show lessA z us ws = (putG (carryAt (notsAt z ws 4).1 us (notsAt z ws 4).2 4).1 5 (carryAt (notsAt z ws 4).1 us (notsAt z ws 4).2 4).2 0, nG (carryAt (notsAt z ws 4).1 us (notsAt z ws 4).2 4).1) from rfl)
  generalize notsAt z ws 4 = Q at *
  have LU := Lib.hid lu
  have LN := Lib.hid hN
  clear lu hN lw
  go_enter Try.func76, Try.ntmps76
  go_wp2_with fail
  refine c0.mono ?_
  rintro e w1 ⟨u1, A1, k1, d1, rfl, l1, h1, t1, wl1⟩
  obtain rfl : k1 = 4 := by rw [← l1]; exact LN.out
  have B1 := Nat.le_trans hB t1.size
  clear c0 h ho' l1
  go_wp2_with fail
  refine (spec_l14Put B g (n + 4) u1 v1 Q.1 2 1 0 w1 h1 B1 (by omega)).mono ?_
  rintro e w2 ⟨u2, rfl, h2, t2⟩
  have S0 := Lib.hid (show Cir B g w2 u2 v1 (n + 4 + 1 + 5 * 0) (carryAt Q.1 us Q.2 0).1 ∧ Turn g v w u2 w2 ∧ Off g u2 w2 A1 Q.2 from ⟨h2, t1.trans t2, (wl1.turn t2).off⟩)
  have X0 := Lib.hid (show nG Q.1 = (carryAt Q.1 us Q.2 0).2 from rfl)
  generalize nG Q.1 = x0 at *
  clear h1 t1 wl1 h2 t2 B1
  go_wp2_with fail
  go_loopw [8, 9] (fun q i wr => ∃ (k : Nat) (x : Int) (v' : Value), k ≤ 4 ∧ i = .int .i64 k ∧ q = .int .i64 x ∧ Hid (x = (carryAt Q.1 us Q.2 k).2) ∧ (Cir B g wr v' v1 (n + 4 + 1 + 5 * k) (carryAt Q.1 us Q.2 k).1 ∧ Turn g v w v' wr ∧ Off g v' wr A1 Q.2)) (fun _ i _ => 4 - (intOf i).toNat)
  case atStart => exact ⟨0, x0, u2, by omega, rfl, rfl, X0, S0.out⟩
  case round =>
    obtain ⟨k, x, v', hk, rfl, rfl, hx, hc, ht, hof⟩ := hrel
    clear S0 X0
    have B1 := Nat.le_trans hB ht.size
    by_cases hlt : k < 4
    · obtain ⟨b, o, rfl, q0⟩ := (ho.turn ht).at_ (j := k) (by rw [LU.out]; omega)
      obtain ⟨b', o', rfl, q1⟩ := hof.at_ (j := k) (by rw [LN.out]; omega)
      have k0 : (0 : Int) ≤ k := by omega
      have k1 : (k : Int) < 4 := by omega
      have B2 : B ≤ wr.drew.heap.size := B1
      have HN := Lib.hid (show carryAt Q.1 us Q.2 (k + 1) = ((fullA (carryAt Q.1 us Q.2 k).1 (us.getD k 0) (Q.2.getD k 0) x).1, (fullA (carryAt Q.1 us Q.2 k).1 (us.getD k 0) (Q.2.getD k 0) x).2.2) from by rw [hx.out]; rfl)
      have c5 := spec_fullAdder B g (n + 4 + 1 + 5 * k) v' v1 (carryAt Q.1 us Q.2 k).1 (us.getD k 0) (Q.2.getD k 0) x wr.drew hc.drew B2 (by omega)
      generalize fullA (carryAt Q.1 us Q.2 k).1 (us.getD k 0) (Q.2.getD k 0) x = F at c5 HN
      generalize us.getD k 0 = ux at *
      generalize Q.2.getD k 0 = wx at *
      clear ho
      go_upto_region 6 with (fail)
      go_region_law (go_simp; go_at_call 102; (with_reducible refine c5.mono ?_); rintro e w4 ⟨v4, rfl, h4, t4⟩)
      all_goals
        have t5 := t4.ofDrew
        have H := Lib.hid (show Cir B g w4 v4 v1 (n + 4 + 1 + 5 * k + 5) F.1 ∧ Turn g v w v4 w4 ∧ Off g v4 w4 (some ⟨b', o', none⟩) Q.2 from ⟨h4, ht.trans t5, hof.turn t5⟩)
        clear h4 t4 t5 hc ht hof c5 q0 q1
        go_wp2_with fail
        go_roundw
        case rel => exact ⟨k + 1, F.2.2, v4, by omega, by go_num, rfl, Lib.hid (by rw [HN.out]), by rw [HN.out, show n + 4 + 1 + 5 * (k + 1) = n + 4 + 1 + 5 * k + 5 by omega]; exact H.out⟩
        case measure => simp [intOf]; omega
    · obtain rfl : k = 4 := by omega
      have c3 := spec_l14Put B g (n + 4 + 1 + 5 * 4) v' v1 (carryAt Q.1 us Q.2 4).1 5 x 0 wr hc B1 (by omega)
      clear ho hof
      go_wp2_with fail
      refine c3.mono ?_
      rintro e w4 ⟨v4, rfl, h5, t5⟩
      have H := Lib.hid h5
      have T := Lib.hid (ht.trans t5)
      clear hc ht h5 t5 c3
      go_wp2_with fail
      go_ret
      exact ⟨v4, by rw [E.out]; rfl, by rw [E.out, ← hx.out]; exact H.out, T.out⟩
end Go.Proofs.Ytccaaklgmdafpaa

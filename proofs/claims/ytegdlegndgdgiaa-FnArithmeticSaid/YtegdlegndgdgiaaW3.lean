/- Circuit builders: lists of wires, sums, comparisons, the model's. No condition. And what goes with it. -/
import Derived.Test.YtegdlegndgdgiaaProg
import Derived.Test.YtegdlegndgdgiaaW2
import Derived.Test.YtegdlegndgdgiaaB1
import Derived.Test.YtegdlegndgdgiaaCwW
namespace Go.Proofs.Ytegdlegndgdgiaa
open Go Go.RowKit
/-- An empty list is made. -/
theorem Bl.empty {B g n : Nat} {w : World} {v : Value} {v1 : Rest} {z : List Int} (h : Cir B g w v v1 n z) : Bl B g v w (w.alloc (.cells #[] 3)) v v1 n z (.slice (some ⟨w.heap.size, 0, none⟩) 0 0) 0 [] :=
  ⟨h.alloc _, (Turn.refl g v w).alloc _, Wl.fresh h (own_nil (heap_alloc_new w _) (Nat.le_refl _)) (Nat.le_refl _)⟩
set_option maxRecDepth 100000 in
set_option maxHeartbeats 1000000 in
theorem spec_l14Const (B g n : Nat) (v : Value) (v1 : Rest) (z : List Int) (N : Int) (hN : 0 ≤ N ∧ N ≤ 15) (w : World) (h : Cir B g w v v1 n z) (hB : B ≤ w.heap.size) (hn : n ≤ 990000) :
    Calls Try.prog 110 #[.pointer (some ⟨g, 0, none⟩), .int .i64 N] w (PutL B g v1 (n + 4) (constAt z N 4).1 (constAt z N 4).2 v w) := by
  go_enter Try.func110, Try.ntmps110
  have s0 := Bl.empty h
  go_wp2_with fail
  generalize hw3 : w.alloc (.cells #[] 3) = w3 at *
  clear hw3
  have S0 := Lib.hid s0
  clear s0 h
  go_loopw [5, 6] (fun u i wr => ∃ (k : Nat) (v' : Value), k ≤ 4 ∧ i = .int .i64 k ∧ Bl B g v w wr v' v1 (n + k) (constAt z N k).1 u k (constAt z N k).2) (fun _ i _ => 4 - (intOf i).toNat)
  case atStart => exact ⟨0, v, by omega, rfl, S0.out⟩
  case round =>
    obtain ⟨k, v', hk, rfl, hs⟩ := hrel
    clear S0
    by_cases hlt : k < 4
    · have k0 : (0 : Int) ≤ k := by omega
      have k1 : (k : Int) < 4 := by omega
      have hbit := bit_at hlt hN
      have B1 := Nat.le_trans hB hs.size
      go_wp2_with fail
      refine (spec_l14Put B g (n + k) v' v1 (constAt z N k).1 2 (N / 2 ^ k % 2) 0 wr hs.cir B1 (by omega)).mono ?_
      rintro e w4 ⟨v4, rfl, h4, t4⟩
      have h5 := hs.next h4 t4
      have sz := h5.size
      clear h4 t4 hs
      go_wp2_with (first | (at_builtin; refine app_list (e' := 3) elemInt rfl _ _ rfl w.heap.size _ k (intVals (constAt z N k).2) rfl (h5.alloc (.cells #[.int .i64 (nG (constAt z N k).1)] 3)).wl.own w4.heap.size 1 1 _ (0, 0) rfl (heap_alloc_new w4 _) rfl (oneCell_i64 [_]) (by omega) (by unfold maxLen; omega) (by omega) (by simp; omega) (w4.heap.size + 1) (by simp) ?_))
      intro g5 c5 w5 ho5 hg5 hat5 _
      have H := Lib.hid (h5.app ho5 hg5 hat5)
      clear h5 ho5 hg5 hat5
      go_wp2_with fail
      go_roundw
      case rel => exact ⟨k + 1, v4, by omega, by go_num, H.out⟩
      case measure => simp [intOf]; omega
    · obtain rfl : k = 4 := by omega
      obtain ⟨A, c, rfl⟩ := hs.wl.form
      have H := Lib.hid hs
      clear hs
      go_wp2_with fail
      go_ret
      exact ⟨v', A, 4, c, rfl, H.out.wl.len, H.out.cir, H.out.turn, H.out.wl⟩
set_option maxRecDepth 100000 in
set_option maxHeartbeats 2000000 in
theorem spec_l14Sum (B g n : Nat) (v : Value) (v1 : Rest) (z : List Int) (A : Option Addr) (m c : Nat) (us : List Int) (A' : Option Addr) (c' : Nat) (ws : List Int) (f : Int) (w : World) (h : Cir B g w v v1 n z) (hB : B ≤ w.heap.size) (ho : Off g v w A us) (lu : us.length = m + 1) (ho' : Off g v w A' ws) (lw : ws.length = m + 1) (hm : m ≤ 900) (hn : n ≤ 980000) :
    Calls Try.prog 113 #[.pointer (some ⟨g, 0, none⟩), .slice A (m + 1) c, .slice A' (m + 1) c', .int .i64 f] w (PutL B g v1 (n + 1 + 5 * m + 1 + 1) (sumA z us ws f m).1 (sumA z us ws f m).2 v w) := by
  have LU := Lib.hid lu
  have LW := Lib.hid lw
  have km : ((m + 1 : Nat) : Int) - 1 = (m : Int) := by omega
  clear lu lw
  go_enter Try.func113, Try.ntmps113
  have s0 := Bl.empty h
  go_wp2_with fail
  generalize hw3 : w.alloc (.cells #[] 3) = w3 at *
  clear hw3
  refine (spec_l14Put B g n v v1 z 2 f 0 w3 s0.cir (Nat.le_trans hB s0.size) (by omega)).mono ?_
  rintro e w4 ⟨v4, rfl, h4, t4⟩
  have S0 := Lib.hid (show Bl B g v w w4 v4 v1 (n + 1 + 5 * 0) (sumAt z us ws f 0).1 _ 0 (sumAt z us ws f 0).2.1 from s0.next h4 t4)
  have X0 := Lib.hid (show nG z = (sumAt z us ws f 0).2.2 from rfl)
  generalize nG z = x0 at *
  clear h4 t4 s0 h
  go_wp2_with fail
  go_loopw [9, 10, 12] (fun u q i wr => ∃ (k : Nat) (x : Int) (v' : Value), k ≤ m ∧ i = .int .i64 k ∧ q = .int .i64 x ∧ Hid (x = (sumAt z us ws f k).2.2) ∧ Bl B g v w wr v' v1 (n + 1 + 5 * k) (sumAt z us ws f k).1 u k (sumAt z us ws f k).2.1) (fun _ _ i _ => m - (intOf i).toNat)
  case atStart => exact ⟨0, x0, v4, by omega, rfl, rfl, X0, S0.out⟩
  case round =>
    obtain ⟨k, x, v', hk, rfl, rfl, hx, hs⟩ := hrel
    clear S0 X0
    obtain ⟨b, o, rfl, q0⟩ := (ho.turn hs.turn).at_ (j := k) (by rw [LU.out]; omega)
    obtain ⟨b', o', rfl, q1⟩ := (ho'.turn hs.turn).at_ (j := k) (by rw [LW.out]; omega)
    have k0 : (0 : Int) ≤ k := by omega
    have B1 := Nat.le_trans hB hs.size
    obtain ⟨A4, c4, rfl⟩ := hs.wl.form
    have hsd := hs.drew
    have B2 : B ≤ wr.drew.heap.size := B1
    by_cases hlt : k < m
    · have k1 : (k : Int) < m := by omega
      have k2 : (k : Int) < ((m + 1 : Nat) : Int) := by omega
      have k3 : (k : Int) < (m : Int) + 1 := by omega
      have HN := Lib.hid (show sumAt z us ws f (k + 1) = ((fullA (sumAt z us ws f k).1 (us.getD k 0) (ws.getD k 0) x).1, (sumAt z us ws f k).2.1 ++ [(fullA (sumAt z us ws f k).1 (us.getD k 0) (ws.getD k 0) x).2.1], (fullA (sumAt z us ws f k).1 (us.getD k 0) (ws.getD k 0) x).2.2) from by rw [hx.out]; rfl)
      have c5 := spec_fullAdder B g (n + 1 + 5 * k) v' v1 (sumAt z us ws f k).1 (us.getD k 0) (ws.getD k 0) x
      generalize fullA (sumAt z us ws f k).1 (us.getD k 0) (ws.getD k 0) x = F at c5 HN
      generalize us.getD k 0 = ux at *
      generalize ws.getD k 0 = wx at *
      generalize sumAt z us ws f k = R at *
      clear ho ho' hs
      go_upto_region 7 with (fail)
      go_region_law (go_simp; go_at_call 151; (with_reducible refine (c5 _ hsd.cir B2 (by omega)).mono ?_); rintro e w4 ⟨v4, rfl, h4, t4⟩)
      all_goals
        have h5 := hsd.next h4 t4
        have sz := h5.size
        clear h4 t4 hsd c5 q0 q1
        go_wp2_with (first | (at_builtin; refine app_list (e' := 3) elemInt rfl _ _ rfl w.heap.size _ k (intVals R.2.1) rfl (h5.alloc (.cells #[.int .i64 (F.2.1)] 3)).wl.own w4.heap.size 1 1 _ (0, 0) rfl (heap_alloc_new w4 _) rfl (oneCell_i64 [_]) (by omega) (by unfold maxLen; omega) (by omega) (by simp; omega) (w4.heap.size + 1) (by simp) ?_))
        intro g5 c5 w5 ho5 hg5 hat5 _
        have H := Lib.hid (h5.app ho5 hg5 hat5)
        clear h5 ho5 hg5 hat5
        go_wp2_with fail
        go_roundw
        case rel => exact ⟨k + 1, F.2.2, v4, by omega, by go_num, rfl, Lib.hid (by rw [HN.out]), by rw [HN.out, show n + 1 + 5 * (k + 1) = n + 1 + 5 * k + 5 by omega]; exact H.out⟩
        case measure => simp [intOf]; omega
    · obtain rfl : k = m := by omega
      have k2 : (k : Int) < ((k + 1 : Nat) : Int) := by omega
      have k3 : (k : Int) < (k : Int) + 1 := by omega
      have E := Lib.hid (show sumA z us ws f k = (putG (putG (sumAt z us ws f k).1 3 (us.getD k 0) (ws.getD k 0)) 3 (nG (sumAt z us ws f k).1) x, (sumAt z us ws f k).2.1 ++ [nG (putG (sumAt z us ws f k).1 3 (us.getD k 0) (ws.getD k 0))]) from by rw [hx.out]; rfl)
      generalize us.getD k 0 = ux at *
      generalize ws.getD k 0 = wx at *
      generalize sumAt z us ws f k = R at *
      have c5 := spec_l14Put B g (n + 1 + 5 * k) v' v1 R.1 3 ux wx
      have C6 := Lib.hid (fun u W (H : Cir B g W u v1 (n + 1 + 5 * k + 1) (putG R.1 3 ux wx)) HB => spec_l14Put B g (n + 1 + 5 * k + 1) u v1 (putG R.1 3 ux wx) 3 (nG R.1) x W H HB (by omega))
      clear ho ho' hs hB
      go_upto_region 10 with (fail)
      go_region_law (go_simp; go_at_call 149; (with_reducible refine (c5 _ hsd.cir B2 (by omega)).mono ?_); rintro e w4 ⟨v4, rfl, h4, t4⟩)
      all_goals
        have h5 := hsd.next h4 t4
        have B4 := Nat.le_trans B2 t4.size
        clear h4 t4 hsd c5 q0 q1
        go_wp2_with fail
        refine (C6.out v4 w4 h5.cir B4).mono ?_
        rintro e w6 ⟨v6, rfl, h6, t6⟩
        have h7 := h5.next h6 t6
        have sz := h7.size
        clear h5 h6 t6 C6
        go_wp2_with (first | (at_builtin; refine app_list (e' := 3) elemInt rfl _ _ rfl w.heap.size _ k (intVals R.2.1) rfl (h7.alloc (.cells #[.int .i64 (nG (putG R.1 3 ux wx))] 3)).wl.own w6.heap.size 1 1 _ (0, 0) rfl (heap_alloc_new w6 _) rfl (oneCell_i64 [_]) (by omega) (by unfold maxLen; omega) (by omega) (by simp; omega) (w6.heap.size + 1) (by simp) ?_))
        intro g5 c5 w5 ho5 hg5 hat5 _
        have H := Lib.hid (h7.app ho5 hg5 hat5)
        clear h7 ho5 hg5 hat5
        go_wp2_with fail
        go_ret
        exact ⟨v6, _, _, _, rfl, by rw [E.out]; exact H.out.wl.len, by rw [E.out]; exact H.out.cir, H.out.turn, by rw [E.out]; exact H.out.wl⟩
end Go.Proofs.Ytegdlegndgdgiaa

namespace Go.Proofs.Ytegdlegndgdgiaa
open Go Go.RowKit
end Go.Proofs.Ytegdlegndgdgiaa

namespace Go.Proofs.Ytegdlegndgdgiaa
open Go Go.RowKit
set_option maxRecDepth 100000 in
set_option maxHeartbeats 8000000 in
theorem spec_l14Mul (B g n : Nat) (v : Value) (v1 : Rest) (z : List Int) (A : Option Addr) (c : Nat) (us : List Int) (A' : Option Addr) (c' : Nat) (ws : List Int) (w : World) (h : Cir B g w v v1 n z) (hB : B ≤ w.heap.size) (ho : Off g v w A us) (lu : us.length = 4) (ho' : Off g v w A' ws) (lw : ws.length = 4) (hn : n ≤ 970000) :
    Calls Try.prog 112 #[.pointer (some ⟨g, 0, none⟩), .slice A 4 c, .slice A' 4 c'] w (PutL B g v1 (n + mulN 3) (mulAt z us ws 3).1 (mulAt z us ws 3).2 v w) := by
  obtain ⟨b', o', rfl, _⟩ := ho'.at_ (j := 0) (by omega)
  go_enter Try.func112, Try.ntmps112
  have s0 := Bl.empty h
  go_wp2_with fail
  generalize hw3 : w.alloc (.cells #[] 3) = w3 at *
  clear hw3
  have S0 := Lib.hid s0
  have LU := Lib.hid lu
  have LW := Lib.hid lw
  clear s0 h lu lw
  go_loopw [7, 8] (fun u i wr => ∃ (k : Nat) (v' : Value), k ≤ 4 ∧ i = .int .i64 k ∧ Bl B g v w wr v' v1 (n + k) (prodAt z (ws.getD 0 0) us k).1 u k (prodAt z (ws.getD 0 0) us k).2) (fun _ i _ => 4 - (intOf i).toNat)
  case atStart => exact ⟨0, v, by omega, rfl, S0.out⟩
  case round =>
    obtain ⟨k, v', hk, rfl, hs⟩ := hrel
    clear S0
    by_cases hlt : k < 4
    · have k0 : (0 : Int) ≤ k := by omega
      have k1 : (k : Int) < 4 := by omega
      obtain ⟨b, o, rfl, q0⟩ := (ho.turn hs.turn).at_ (j := k) (by rw [LU.out]; exact hlt)
      obtain ⟨_, _, e1, q1⟩ := (ho'.turn hs.turn).at_ (j := 0) (by rw [LW.out]; omega)
      injection e1 with e1; injection e1 with e11 e12; subst e11 e12
      rw [Nat.add_zero] at q1
      have B1 := Nat.le_trans hB hs.size
      obtain ⟨A4, c4, rfl⟩ := hs.wl.form
      have hsd := hs.drew
      have B2 : B ≤ wr.drew.heap.size := B1
      have HN := Lib.hid (show prodAt z (ws.getD 0 0) us (k + 1) = (putG (prodAt z (ws.getD 0 0) us k).1 4 (ws.getD 0 0) (us.getD k 0), (prodAt z (ws.getD 0 0) us k).2 ++ [nG (prodAt z (ws.getD 0 0) us k).1]) from rfl)
      obtain ⟨y0, hy0⟩ : ∃ y, ws.getD 0 0 = y := ⟨_, rfl⟩
      rw [hy0] at q1 HN hs hsd
      have HY := Lib.hid hy0
      generalize us.getD k 0 = ux at *
      generalize prodAt z y0 us k = R at *
      have c5 := spec_l14Put B g (n + k) v' v1 R.1 4 y0 ux
      clear ho ho' hs hy0
      go_upto_region 5 with (fail)
      go_region_law (first
        | (refine app_step (e' := 3) elemInt (by rfl) _ _ (by rfl) w.heap.size (.slice A4 k c4) k (intVals R.2) (by rfl) (hs5.alloc (.cells #[.int .i64 (nG R.1)] 3)).wl.own w5.heap.size 1 1 _ (0, 0) (by rfl) (heap_alloc_new w5 _) (by rfl) (oneCell_i64 [_]) (by omega) (by unfold maxLen; omega) (by omega) (by simp; omega) (w5.heap.size + 1) (by simp) ?_; intro g8 e8 w8 ho8 hg8 hat8 hl8)
        | (go_simp; go_at_call 149; (with_reducible refine (c5 _ hsd.cir B2 (by omega)).mono ?_); rintro e w5 ⟨v5, rfl, h5, t5⟩; (have hs5 := hsd.next h5 t5); (have sz5 := hs5.size)))
      all_goals
        have H := Lib.hid (hs5.app ho8 hg8 hat8)
        clear h5 t5 hs5 hsd ho8 hg8 hat8 hl8 c5 q0 q1
        go_wp2_with fail
        go_roundw
        case rel => exact ⟨k + 1, v5, by omega, by go_num, by rw [HY.out, HN.out]; exact H.out⟩
        case measure => simp [intOf]; omega
    · obtain rfl : k = 4 := by omega
      rw [show prodAt z (ws.getD 0 0) us 4 = mulAt z us ws 0 from rfl] at hs
      have hX := mulAt_length z us ws 0 (by omega)
      have S0 := Lib.hid (show Bl B g v w wr v' v1 (n + mulN 0) (mulAt z us ws 0).1 _ 4 (mulAt z us ws 0).2 from hs)
      obtain ⟨A0, c0, rfl⟩ := hs.wl.form
      clear hs hX
      obtain ⟨wo, rfl⟩ : ∃ wo : World, wo = wr := ⟨_, rfl⟩
      go_wp2_with fail
      rw [show ((4 : Nat) : Int) = 4 from rfl]
      go_loopw [7, 9] (fun u i wr => ∃ (k : Nat) (v' : Value), k ≤ 3 ∧ i = .int .i64 ((k + 1 : Nat) : Int) ∧ Bl B g v w wr v' v1 (n + mulN k) (mulAt z us ws k).1 u 4 (mulAt z us ws k).2) (fun _ i _ => 4 - (intOf i).toNat)
      case atStart => exact ⟨0, v', by omega, rfl, S0.out⟩
      case round =>
        obtain ⟨k, v', hk, rfl, hs⟩ := hrel
        clear S0
        have B1 := Nat.le_trans hB hs.size
        have hX := mulAt_length z us ws k hk
        have o1 := ho.turn hs.turn
        have o2 := ho'.turn hs.turn
        have HN := Lib.hid (show mulAt z us ws (k + 1) = ((sumA (prodAt (mulAt z us ws k).1 (ws.getD (k + 1) 0) us (4 - (k + 1))).1 ((mulAt z us ws k).2.drop (k + 1)) (prodAt (mulAt z us ws k).1 (ws.getD (k + 1) 0) us (4 - (k + 1))).2 0 (3 - (k + 1))).1, (mulAt z us ws k).2.take (k + 1) ++ (sumA (prodAt (mulAt z us ws k).1 (ws.getD (k + 1) 0) us (4 - (k + 1))).1 ((mulAt z us ws k).2.drop (k + 1)) (prodAt (mulAt z us ws k).1 (ws.getD (k + 1) 0) us (4 - (k + 1))).2 0 (3 - (k + 1))).2) from rfl)
        clear ho ho'
        obtain ⟨A4, c4, rfl⟩ := hs.wl.form
        have hcap := hs.wl.cap
        obtain ⟨b1, rfl, _⟩ := own_addr hs.wl.own (by omega)
        rcases (show k = 0 ∨ k = 1 ∨ k = 2 ∨ k = 3 by omega) with rfl | rfl | rfl | rfl
        · simp only [Nat.reduceAdd, Nat.reduceSub] at HN ⊢
          obtain ⟨y, hy⟩ : ∃ y, ws.getD 1 0 = y := ⟨_, rfl⟩
          have HY := Lib.hid hy
          rw [hy] at HN
          generalize mulAt z us ws 0 = R at *
          have s1 := Bl.empty hs.cir
          have lp := prodAt_length R.1 y us 3
          have LP := Lib.hid lp
          have LX := Lib.hid hX
          obtain ⟨wa, rfl⟩ : ∃ wa : World, wa = wr := ⟨_, rfl⟩
          clear hy lp hX
          go_wp2_with fail
          generalize hw5 : wa.alloc (.cells #[] 3) = w5 at *
          clear hw5
          have S1 := Lib.hid (show Bl B g v' wa w5 v' v1 (n + mulN 0 + 0) (prodAt R.1 y us 0).1 _ 0 (prodAt R.1 y us 0).2 from s1)
          clear s1
          go_loopw [10, 11] (fun u i wr => ∃ (j : Nat) (v'' : Value), j ≤ 3 ∧ i = .int .i64 j ∧ Bl B g v' wa wr v'' v1 (n + mulN 0 + j) (prodAt R.1 y us j).1 u j (prodAt R.1 y us j).2) (fun _ i _ => 3 - (intOf i).toNat)
          case atStart => exact ⟨0, v', by omega, rfl, S1.out⟩
          case round =>
            obtain ⟨j, v'', hj, rfl, hi⟩ := hrel
            clear S1
            have B3 := Nat.le_trans B1 hi.size
            by_cases hlt : j < 3
            · have j0 : (0 : Int) ≤ j := by omega
              have j1 : (j : Int) < 3 := by omega
              have j2 : (j : Int) < 4 := by omega
              obtain ⟨b, o, rfl, q0⟩ := (o1.turn hi.turn).at_ (j := j) (by rw [LU.out]; omega)
              obtain ⟨_, _, e1, q1⟩ := (o2.turn hi.turn).at_ (j := 1) (by rw [LW.out]; omega)
              injection e1 with e1; injection e1 with e11 e12; subst e11 e12
              rw [HY.out] at q1
              obtain ⟨A4, c4, rfl⟩ := hi.wl.form
              have hsd := hi.drew
              have B2 : B ≤ wr.drew.heap.size := B3
              have HN1 := Lib.hid (show prodAt R.1 y us (j + 1) = (putG (prodAt R.1 y us j).1 4 y (us.getD j 0), (prodAt R.1 y us j).2 ++ [nG (prodAt R.1 y us j).1]) from rfl)
              generalize us.getD j 0 = ux at *
              generalize prodAt R.1 y us j = Q at *
              have c5 := spec_l14Put B g (n + mulN 0 + j) v'' v1 Q.1 4 y ux
              clear hi o1 o2 hs
              go_upto_region 13 with (fail)
              go_region_law (first
                | (refine app_step (e' := 3) elemInt (by rfl) _ _ (by rfl) wa.heap.size (.slice A4 j c4) j (intVals Q.2) (by rfl) (hs5.alloc (.cells #[.int .i64 (nG Q.1)] 3)).wl.own w5.heap.size 1 1 _ (0, 0) (by rfl) (heap_alloc_new w5 _) (by rfl) (oneCell_i64 [_]) (by omega) (by unfold maxLen; omega) (by omega) (by simp; omega) (w5.heap.size + 1) (by simp) ?_; intro g8 e8 w8 ho8 hg8 hat8 hl8)
                | (go_simp; go_at_call 149; (with_reducible refine (c5 _ hsd.cir B2 (by simp only [mulN]; omega)).mono ?_); rintro e w5 ⟨v5, rfl, h5, t5⟩; (have hs5 := hsd.next h5 t5); (have sz5 := hs5.size)))
              all_goals
                have H := Lib.hid (hs5.app ho8 hg8 hat8)
                clear h5 t5 hs5 hsd ho8 hg8 hat8 hl8 c5 q0 q1
                go_wp2_with fail
                go_roundw
                case rel => first | exact ⟨j + 1, by omega, by omega, v5, by rw [HN1.out]; exact H.out⟩ | exact ⟨j + 1, v5, by omega, by go_num, by rw [HN1.out]; exact H.out⟩
                case measure => simp [intOf]; omega
            · obtain rfl : j = 3 := by omega
              obtain ⟨A5, d5, rfl⟩ := hi.wl.form
              have hs6 := hs.next hi.cir hi.turn
              have op := hi.wl.off
              have os : Off g v'' wr (some ⟨b1, 1, none⟩) (R.2.drop 1) := by have hh := hs6.wl.off.skip 1; rwa [Nat.zero_add] at hh
              have c6 := spec_l14Sum B g (n + mulN 0 + 3) v'' v1 (prodAt R.1 y us 3).1 (some ⟨b1, 1, none⟩) 2 (c4 - 1) (R.2.drop 1) A5 d5 (prodAt R.1 y us 3).2 0 wr hi.cir B3 os (by rw [List.length_drop, LX.out]) op LP.out (by omega) (by simp only [mulN]; omega)
              have la : (sumA (prodAt R.1 y us 3).1 (R.2.drop 1) (prodAt R.1 y us 3).2 0 2).2.length = 3 := by rw [sumA_add]; exact addA_length _ _ _ _ _
              generalize sumA (prodAt R.1 y us 3).1 (R.2.drop 1) (prodAt R.1 y us 3).2 0 2 = U at *
              have x2 : (1 : Int) ≤ (c4 : Int) := by omega
              have x3 : ¬ c4 - 1 = 0 := by omega
              have x4 : ¬ c4 = 1 := by omega
              have LA := Lib.hid la
              clear hs hi o1 o2 op os la
              go_wp2_with fail
              refine c6.mono ?_
              rintro e w7 ⟨v7, A7, k7, d7, rfl, l7, h7, t7, wl7⟩
              obtain rfl : k7 = 3 := by rw [← l7]; exact LA.out
              have hs7 := hs6.next h7 t7
              have iS : Ints (w7.alloc (.cells #[] 3)) (some ⟨b1, 0, none⟩) (R.2.take 1) := ((hs7.alloc (.cells #[] 3)).wl.off.cut 1).ints
              have iU := wl7.off.ints
              have g7 := heap_alloc_new w7 (.cells #[] 3)
              have low7 := below_alloc w7 (.cells #[] 3)
              have hs8 := hs7.size
              have LT := Lib.hid (show (R.2.take 1).length = 1 by rw [List.length_take, LX.out]; rfl)
              clear c6 hs6 l7 wl7 t7
              go_wp2_with (first | (at_builtin; refine app_ints elemInt rfl _ _ rfl w7.heap.size _ 0 [] rfl (own_nil g7 (Nat.le_refl _)) (some ⟨b1, 0, none⟩) 1 c4 (R.2.take 1) rfl iS LT.out (by unfold maxLen; omega) (by omega) (by simp) ?_))
              intro v8 w8 ho8 hg8 _
              have low8 := low7.grown hg8 low7.size (fun k e => by have e : w7.heap.size = k := by simpa [Value.ownBlock] using e
                                                                   omega)
              have iU8 := Ints.below iU low8
              clear hg8 g7 iS low7
              go_wp2_with (first | (at_builtin; refine app_ints elemInt rfl _ _ rfl w7.heap.size _ 1 (intVals (R.2.take 1)) rfl ho8 A7 3 d7 U.2 rfl iU8 LA.out (by unfold maxLen; omega) (by omega) low8.size ?_))
              intro v9 w9 ho9 hg9 _
              have low9 := low8.grown hg9 low8.size (fun k e => (ho8.lt k e).1)
              have H := Lib.hid (show Bl B g v w w9 v7 v1 (n + mulN 1) U.1 v9 4 (R.2.take 1 ++ U.2) from ⟨h7.below low9, hs7.turn.below low9, (Wl.fresh h7 (by rw [show intVals (R.2.take 1 ++ U.2) = intVals (R.2.take 1) ++ intVals U.2 by simp [intVals]]; exact ho9) (Nat.le_refl _)).mono hs8⟩)
              clear ho8 ho9 hg9 low8 low9 h7 hs7 iU iU8
              go_wp2_with fail
              go_roundw
              case rel => exact ⟨1, v7, by omega, by go_num, by rw [HN.out]; exact H.out⟩
              case measure => simp [intOf]
        · simp only [Nat.reduceAdd, Nat.reduceSub] at HN ⊢
          obtain ⟨y, hy⟩ : ∃ y, ws.getD 2 0 = y := ⟨_, rfl⟩
          have HY := Lib.hid hy
          rw [hy] at HN
          generalize mulAt z us ws 1 = R at *
          have s1 := Bl.empty hs.cir
          have lp := prodAt_length R.1 y us 2
          have LP := Lib.hid lp
          have LX := Lib.hid hX
          obtain ⟨wa, rfl⟩ : ∃ wa : World, wa = wr := ⟨_, rfl⟩
          clear hy lp hX
          go_wp2_with fail
          generalize hw5 : wa.alloc (.cells #[] 3) = w5 at *
          clear hw5
          have S1 := Lib.hid (show Bl B g v' wa w5 v' v1 (n + mulN 1 + 0) (prodAt R.1 y us 0).1 _ 0 (prodAt R.1 y us 0).2 from s1)
          clear s1
          go_loopw [10, 11] (fun u i wr => ∃ (j : Nat) (v'' : Value), j ≤ 2 ∧ i = .int .i64 j ∧ Bl B g v' wa wr v'' v1 (n + mulN 1 + j) (prodAt R.1 y us j).1 u j (prodAt R.1 y us j).2) (fun _ i _ => 2 - (intOf i).toNat)
          case atStart => exact ⟨0, v', by omega, rfl, S1.out⟩
          case round =>
            obtain ⟨j, v'', hj, rfl, hi⟩ := hrel
            clear S1
            have B3 := Nat.le_trans B1 hi.size
            by_cases hlt : j < 2
            · have j0 : (0 : Int) ≤ j := by omega
              have j1 : (j : Int) < 2 := by omega
              have j2 : (j : Int) < 4 := by omega
              obtain ⟨b, o, rfl, q0⟩ := (o1.turn hi.turn).at_ (j := j) (by rw [LU.out]; omega)
              obtain ⟨_, _, e1, q1⟩ := (o2.turn hi.turn).at_ (j := 2) (by rw [LW.out]; omega)
              injection e1 with e1; injection e1 with e11 e12; subst e11 e12
              rw [HY.out] at q1
              obtain ⟨A4, c4, rfl⟩ := hi.wl.form
              have hsd := hi.drew
              have B2 : B ≤ wr.drew.heap.size := B3
              have HN1 := Lib.hid (show prodAt R.1 y us (j + 1) = (putG (prodAt R.1 y us j).1 4 y (us.getD j 0), (prodAt R.1 y us j).2 ++ [nG (prodAt R.1 y us j).1]) from rfl)
              generalize us.getD j 0 = ux at *
              generalize prodAt R.1 y us j = Q at *
              have c5 := spec_l14Put B g (n + mulN 1 + j) v'' v1 Q.1 4 y ux
              clear hi o1 o2 hs
              go_upto_region 13 with (fail)
              go_region_law (first
                | (refine app_step (e' := 3) elemInt (by rfl) _ _ (by rfl) wa.heap.size (.slice A4 j c4) j (intVals Q.2) (by rfl) (hs5.alloc (.cells #[.int .i64 (nG Q.1)] 3)).wl.own w5.heap.size 1 1 _ (0, 0) (by rfl) (heap_alloc_new w5 _) (by rfl) (oneCell_i64 [_]) (by omega) (by unfold maxLen; omega) (by omega) (by simp; omega) (w5.heap.size + 1) (by simp) ?_; intro g8 e8 w8 ho8 hg8 hat8 hl8)
                | (go_simp; go_at_call 149; (with_reducible refine (c5 _ hsd.cir B2 (by simp only [mulN]; omega)).mono ?_); rintro e w5 ⟨v5, rfl, h5, t5⟩; (have hs5 := hsd.next h5 t5); (have sz5 := hs5.size)))
              all_goals
                have H := Lib.hid (hs5.app ho8 hg8 hat8)
                clear h5 t5 hs5 hsd ho8 hg8 hat8 hl8 c5 q0 q1
                go_wp2_with fail
                go_roundw
                case rel => first | exact ⟨j + 1, by omega, by omega, v5, by rw [HN1.out]; exact H.out⟩ | exact ⟨j + 1, v5, by omega, by go_num, by rw [HN1.out]; exact H.out⟩
                case measure => simp [intOf]; omega
            · obtain rfl : j = 2 := by omega
              obtain ⟨A5, d5, rfl⟩ := hi.wl.form
              have hs6 := hs.next hi.cir hi.turn
              have op := hi.wl.off
              have os : Off g v'' wr (some ⟨b1, 2, none⟩) (R.2.drop 2) := by have hh := hs6.wl.off.skip 2; rwa [Nat.zero_add] at hh
              have c6 := spec_l14Sum B g (n + mulN 1 + 2) v'' v1 (prodAt R.1 y us 2).1 (some ⟨b1, 2, none⟩) 1 (c4 - 2) (R.2.drop 2) A5 d5 (prodAt R.1 y us 2).2 0 wr hi.cir B3 os (by rw [List.length_drop, LX.out]) op LP.out (by omega) (by simp only [mulN]; omega)
              have la : (sumA (prodAt R.1 y us 2).1 (R.2.drop 2) (prodAt R.1 y us 2).2 0 1).2.length = 2 := by rw [sumA_add]; exact addA_length _ _ _ _ _
              generalize sumA (prodAt R.1 y us 2).1 (R.2.drop 2) (prodAt R.1 y us 2).2 0 1 = U at *
              have x2 : (2 : Int) ≤ (c4 : Int) := by omega
              have x3 : ¬ c4 - 2 = 0 := by omega
              have x4 : ¬ c4 = 2 := by omega
              have LA := Lib.hid la
              clear hs hi o1 o2 op os la
              go_wp2_with fail
              refine c6.mono ?_
              rintro e w7 ⟨v7, A7, k7, d7, rfl, l7, h7, t7, wl7⟩
              obtain rfl : k7 = 2 := by rw [← l7]; exact LA.out
              have hs7 := hs6.next h7 t7
              have iS : Ints (w7.alloc (.cells #[] 3)) (some ⟨b1, 0, none⟩) (R.2.take 2) := ((hs7.alloc (.cells #[] 3)).wl.off.cut 2).ints
              have iU := wl7.off.ints
              have g7 := heap_alloc_new w7 (.cells #[] 3)
              have low7 := below_alloc w7 (.cells #[] 3)
              have hs8 := hs7.size
              have LT := Lib.hid (show (R.2.take 2).length = 2 by rw [List.length_take, LX.out]; rfl)
              clear c6 hs6 l7 wl7 t7
              go_wp2_with (first | (at_builtin; refine app_ints elemInt rfl _ _ rfl w7.heap.size _ 0 [] rfl (own_nil g7 (Nat.le_refl _)) (some ⟨b1, 0, none⟩) 2 c4 (R.2.take 2) rfl iS LT.out (by unfold maxLen; omega) (by omega) (by simp) ?_))
              intro v8 w8 ho8 hg8 _
              have low8 := low7.grown hg8 low7.size (fun k e => by have e : w7.heap.size = k := by simpa [Value.ownBlock] using e
                                                                   omega)
              have iU8 := Ints.below iU low8
              clear hg8 g7 iS low7
              go_wp2_with (first | (at_builtin; refine app_ints elemInt rfl _ _ rfl w7.heap.size _ 2 (intVals (R.2.take 2)) rfl ho8 A7 2 d7 U.2 rfl iU8 LA.out (by unfold maxLen; omega) (by omega) low8.size ?_))
              intro v9 w9 ho9 hg9 _
              have low9 := low8.grown hg9 low8.size (fun k e => (ho8.lt k e).1)
              have H := Lib.hid (show Bl B g v w w9 v7 v1 (n + mulN 2) U.1 v9 4 (R.2.take 2 ++ U.2) from ⟨h7.below low9, hs7.turn.below low9, (Wl.fresh h7 (by rw [show intVals (R.2.take 2 ++ U.2) = intVals (R.2.take 2) ++ intVals U.2 by simp [intVals]]; exact ho9) (Nat.le_refl _)).mono hs8⟩)
              clear ho8 ho9 hg9 low8 low9 h7 hs7 iU iU8
              go_wp2_with fail
              go_roundw
              case rel => exact ⟨2, v7, by omega, by go_num, by rw [HN.out]; exact H.out⟩
              case measure => simp [intOf]
        · simp only [Nat.reduceAdd, Nat.reduceSub] at HN ⊢
          obtain ⟨y, hy⟩ : ∃ y, ws.getD 3 0 = y := ⟨_, rfl⟩
          have HY := Lib.hid hy
          rw [hy] at HN
          generalize mulAt z us ws 2 = R at *
          have s1 := Bl.empty hs.cir
          have lp := prodAt_length R.1 y us 1
          have LP := Lib.hid lp
          have LX := Lib.hid hX
          obtain ⟨wa, rfl⟩ : ∃ wa : World, wa = wr := ⟨_, rfl⟩
          clear hy lp hX
          go_wp2_with fail
          generalize hw5 : wa.alloc (.cells #[] 3) = w5 at *
          clear hw5
          have S1 := Lib.hid (show Bl B g v' wa w5 v' v1 (n + mulN 2 + 0) (prodAt R.1 y us 0).1 _ 0 (prodAt R.1 y us 0).2 from s1)
          clear s1
          go_loopw [10, 11] (fun u i wr => ∃ (j : Nat) (v'' : Value), j ≤ 1 ∧ i = .int .i64 j ∧ Bl B g v' wa wr v'' v1 (n + mulN 2 + j) (prodAt R.1 y us j).1 u j (prodAt R.1 y us j).2) (fun _ i _ => 1 - (intOf i).toNat)
          case atStart => exact ⟨0, v', by omega, rfl, S1.out⟩
          case round =>
            obtain ⟨j, v'', hj, rfl, hi⟩ := hrel
            clear S1
            have B3 := Nat.le_trans B1 hi.size
            by_cases hlt : j < 1
            · have j0 : (0 : Int) ≤ j := by omega
              have j1 : (j : Int) < 1 := by omega
              have j2 : (j : Int) < 4 := by omega
              obtain ⟨b, o, rfl, q0⟩ := (o1.turn hi.turn).at_ (j := j) (by rw [LU.out]; omega)
              obtain ⟨_, _, e1, q1⟩ := (o2.turn hi.turn).at_ (j := 3) (by rw [LW.out]; omega)
              injection e1 with e1; injection e1 with e11 e12; subst e11 e12
              rw [HY.out] at q1
              obtain ⟨A4, c4, rfl⟩ := hi.wl.form
              have hsd := hi.drew
              have B2 : B ≤ wr.drew.heap.size := B3
              have HN1 := Lib.hid (show prodAt R.1 y us (j + 1) = (putG (prodAt R.1 y us j).1 4 y (us.getD j 0), (prodAt R.1 y us j).2 ++ [nG (prodAt R.1 y us j).1]) from rfl)
              generalize us.getD j 0 = ux at *
              generalize prodAt R.1 y us j = Q at *
              have c5 := spec_l14Put B g (n + mulN 2 + j) v'' v1 Q.1 4 y ux
              clear hi o1 o2 hs
              go_upto_region 13 with (fail)
              go_region_law (first
                | (refine app_step (e' := 3) elemInt (by rfl) _ _ (by rfl) wa.heap.size (.slice A4 j c4) j (intVals Q.2) (by rfl) (hs5.alloc (.cells #[.int .i64 (nG Q.1)] 3)).wl.own w5.heap.size 1 1 _ (0, 0) (by rfl) (heap_alloc_new w5 _) (by rfl) (oneCell_i64 [_]) (by omega) (by unfold maxLen; omega) (by omega) (by simp; omega) (w5.heap.size + 1) (by simp) ?_; intro g8 e8 w8 ho8 hg8 hat8 hl8)
                | (go_simp; go_at_call 149; (with_reducible refine (c5 _ hsd.cir B2 (by simp only [mulN]; omega)).mono ?_); rintro e w5 ⟨v5, rfl, h5, t5⟩; (have hs5 := hsd.next h5 t5); (have sz5 := hs5.size)))
              all_goals
                have H := Lib.hid (hs5.app ho8 hg8 hat8)
                clear h5 t5 hs5 hsd ho8 hg8 hat8 hl8 c5 q0 q1
                go_wp2_with fail
                go_roundw
                case rel => first | exact ⟨j + 1, by omega, by omega, v5, by rw [HN1.out]; exact H.out⟩ | exact ⟨j + 1, v5, by omega, by go_num, by rw [HN1.out]; exact H.out⟩
                case measure => simp [intOf]; omega
            · obtain rfl : j = 1 := by omega
              obtain ⟨A5, d5, rfl⟩ := hi.wl.form
              have hs6 := hs.next hi.cir hi.turn
              have op := hi.wl.off
              have os : Off g v'' wr (some ⟨b1, 3, none⟩) (R.2.drop 3) := by have hh := hs6.wl.off.skip 3; rwa [Nat.zero_add] at hh
              have c6 := spec_l14Sum B g (n + mulN 2 + 1) v'' v1 (prodAt R.1 y us 1).1 (some ⟨b1, 3, none⟩) 0 (c4 - 3) (R.2.drop 3) A5 d5 (prodAt R.1 y us 1).2 0 wr hi.cir B3 os (by rw [List.length_drop, LX.out]) op LP.out (by omega) (by simp only [mulN]; omega)
              have la : (sumA (prodAt R.1 y us 1).1 (R.2.drop 3) (prodAt R.1 y us 1).2 0 0).2.length = 1 := by rw [sumA_add]; exact addA_length _ _ _ _ _
              generalize sumA (prodAt R.1 y us 1).1 (R.2.drop 3) (prodAt R.1 y us 1).2 0 0 = U at *
              have x2 : (3 : Int) ≤ (c4 : Int) := by omega
              have x3 : ¬ c4 - 3 = 0 := by omega
              have x4 : ¬ c4 = 3 := by omega
              have LA := Lib.hid la
              clear hs hi o1 o2 op os la
              go_wp2_with fail
              refine c6.mono ?_
              rintro e w7 ⟨v7, A7, k7, d7, rfl, l7, h7, t7, wl7⟩
              obtain rfl : k7 = 1 := by rw [← l7]; exact LA.out
              have hs7 := hs6.next h7 t7
              have iS : Ints (w7.alloc (.cells #[] 3)) (some ⟨b1, 0, none⟩) (R.2.take 3) := ((hs7.alloc (.cells #[] 3)).wl.off.cut 3).ints
              have iU := wl7.off.ints
              have g7 := heap_alloc_new w7 (.cells #[] 3)
              have low7 := below_alloc w7 (.cells #[] 3)
              have hs8 := hs7.size
              have LT := Lib.hid (show (R.2.take 3).length = 3 by rw [List.length_take, LX.out]; rfl)
              clear c6 hs6 l7 wl7 t7
              go_wp2_with (first | (at_builtin; refine app_ints elemInt rfl _ _ rfl w7.heap.size _ 0 [] rfl (own_nil g7 (Nat.le_refl _)) (some ⟨b1, 0, none⟩) 3 c4 (R.2.take 3) rfl iS LT.out (by unfold maxLen; omega) (by omega) (by simp) ?_))
              intro v8 w8 ho8 hg8 _
              have low8 := low7.grown hg8 low7.size (fun k e => by have e : w7.heap.size = k := by simpa [Value.ownBlock] using e
                                                                   omega)
              have iU8 := Ints.below iU low8
              clear hg8 g7 iS low7
              go_wp2_with (first | (at_builtin; refine app_ints elemInt rfl _ _ rfl w7.heap.size _ 3 (intVals (R.2.take 3)) rfl ho8 A7 1 d7 U.2 rfl iU8 LA.out (by unfold maxLen; omega) (by omega) low8.size ?_))
              intro v9 w9 ho9 hg9 _
              have low9 := low8.grown hg9 low8.size (fun k e => (ho8.lt k e).1)
              have H := Lib.hid (show Bl B g v w w9 v7 v1 (n + mulN 3) U.1 v9 4 (R.2.take 3 ++ U.2) from ⟨h7.below low9, hs7.turn.below low9, (Wl.fresh h7 (by rw [show intVals (R.2.take 3 ++ U.2) = intVals (R.2.take 3) ++ intVals U.2 by simp [intVals]]; exact ho9) (Nat.le_refl _)).mono hs8⟩)
              clear ho8 ho9 hg9 low8 low9 h7 hs7 iU iU8
              go_wp2_with fail
              go_roundw
              case rel => exact ⟨3, v7, by omega, by go_num, by rw [HN.out]; exact H.out⟩
              case measure => simp [intOf]
        · have H := Lib.hid hs
          clear hs o1 o2
          go_wp2_with fail
          go_ret
          exact ⟨v', _, 4, c4, rfl, hX, H.out.cir, H.out.turn, H.out.wl⟩
end Go.Proofs.Ytegdlegndgdgiaa

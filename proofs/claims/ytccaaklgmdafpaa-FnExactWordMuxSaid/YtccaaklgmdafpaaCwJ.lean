/- Circuit builders: products of words, the model's. No condition. -/
import Derived.Test.YtccaaklgmdafpaaProg
import Derived.Test.YtccaaklgmdafpaaCwH
import Derived.Test.YtccaaklgmdafpaaCwW
namespace Go.Proofs.Ytccaaklgmdafpaa
open Go Go.RowKit
set_option maxRecDepth 100000 in
set_option maxHeartbeats 8000000 in
theorem spec_l14Mul (B g n : Nat) (v v1 : Value) (z : List Int) (A : Option Addr) (c : Nat) (us : List Int) (A' : Option Addr) (c' : Nat) (ws : List Int) (w : World) (h : Cir B g w v v1 n z) (hB : B ≤ w.heap.size) (ho : Off g v w A us) (lu : us.length = 4) (ho' : Off g v w A' ws) (lw : ws.length = 4) (hn : n ≤ 970000) :
    Calls Try.prog 79 #[.pointer (some ⟨g, 0, none⟩), .slice A 4 c, .slice A' 4 c'] w (PutL B g v1 (n + mulN 3) (mulAt z us ws 3).1 (mulAt z us ws 3).2 v w) := by
  obtain ⟨b', o', rfl, _⟩ := ho'.at_ (j := 0) (by omega)
  go_enter Try.func79, Try.ntmps79
  have s0 := Bl.empty h
  go_wp2_with fail
  generalize hw3 : w.alloc (.cells #[] 3) = w3 at *
  clear hw3
  have S0 := Lib.hid s0
  have LU := Lib.hid lu
  have LW := Lib.hid lw
  clear s0 h lu lw
  go_loopw [7, 8] (fun u i wr => ∃ (k : Nat) (v' : Value), k ≤ 4 ∧ i = .int .i64 k ∧ Bl B g v w wr v' v1 (n + k) (prodAt z (ws.getD 0 0) us k).1 u k (prodAt z (ws.getD 0 0) us k).2) (fun _ i _ => 4 - (intOf i).toNat)
  case atStart => exact ⟨0, v, by omega, rfl, S0.out⟩
  case round =>
    obtain ⟨k, v', hk, rfl, hs⟩ := hrel
    clear S0
    by_cases hlt : k < 4
    · have k0 : (0 : Int) ≤ k := by omega
      have k1 : (k : Int) < 4 := by omega
      obtain ⟨b, o, rfl, q0⟩ := (ho.turn hs.turn).at_ (j := k) (by rw [LU.out]; exact hlt)
      obtain ⟨_, _, e1, q1⟩ := (ho'.turn hs.turn).at_ (j := 0) (by rw [LW.out]; omega)
      injection e1 with e1; injection e1 with e11 e12; subst e11 e12
      rw [Nat.add_zero] at q1
      have B1 := Nat.le_trans hB hs.size
      obtain ⟨A4, c4, rfl⟩ := hs.wl.form
      have hsd := hs.drew
      have B2 : B ≤ wr.drew.heap.size := B1
      have HN := Lib.hid (show prodAt z (ws.getD 0 0) us (k + 1) = (putG (prodAt z (ws.getD 0 0) us k).1 4 (ws.getD 0 0) (us.getD k 0), (prodAt z (ws.getD 0 0) us k).2 ++ [nG (prodAt z (ws.getD 0 0) us k).1]) from rfl)
      obtain ⟨y0, hy0⟩ : ∃ y, ws.getD 0 0 = y := ⟨_, rfl⟩
      rw [hy0] at q1 HN hs hsd
      have HY := Lib.hid hy0
      generalize us.getD k 0 = ux at *
      generalize prodAt z y0 us k = R at *
      have c5 := spec_l14Put B g (n + k) v' v1 R.1 4 y0 ux
      clear ho ho' hs hy0
      go_upto_region 5 with (fail)
      go_region_law (first
        | (refine app_step (e' := 3) elemInt (by rfl) _ _ (by rfl) w.heap.size (.slice A4 k c4) k (intVals R.2) (by rfl) (hs5.alloc (.cells #[.int .i64 (nG R.1)] 3)).wl.own w5.heap.size 1 1 _ (0, 0) (by rfl) (heap_alloc_new w5 _) (by rfl) (oneCell_i64 [_]) (by omega) (by unfold maxLen; omega) (by omega) (by simp; omega) (w5.heap.size + 1) (by simp) ?_; intro g8 e8 w8 ho8 hg8 hat8 hl8)
        | (go_simp; go_at_call 98; (with_reducible refine (c5 _ hsd.cir B2 (by omega)).mono ?_); rintro e w5 ⟨v5, rfl, h5, t5⟩; (have hs5 := hsd.next h5 t5); (have sz5 := hs5.size)))
      all_goals
        have H := Lib.hid (hs5.app ho8 hg8 hat8)
        clear h5 t5 hs5 hsd ho8 hg8 hat8 hl8 c5 q0 q1
        go_wp2_with fail
        go_roundw
        case rel => exact ⟨k + 1, v5, by omega, by go_num, by rw [HY.out, HN.out]; exact H.out⟩
        case measure => simp [intOf]; omega
    · obtain rfl : k = 4 := by omega
      rw [show prodAt z (ws.getD 0 0) us 4 = mulAt z us ws 0 from rfl] at hs
      have hX := mulAt_length z us ws 0 (by omega)
      have S0 := Lib.hid (show Bl B g v w wr v' v1 (n + mulN 0) (mulAt z us ws 0).1 _ 4 (mulAt z us ws 0).2 from hs)
      obtain ⟨A0, c0, rfl⟩ := hs.wl.form
      clear hs hX
      obtain ⟨wo, rfl⟩ : ∃ wo : World, wo = wr := ⟨_, rfl⟩
      go_wp2_with fail
      rw [show ((4 : Nat) : Int) = 4 from rfl]
      go_loopw [7, 9] (fun u i wr => ∃ (k : Nat) (v' : Value), k ≤ 3 ∧ i = .int .i64 ((k + 1 : Nat) : Int) ∧ Bl B g v w wr v' v1 (n + mulN k) (mulAt z us ws k).1 u 4 (mulAt z us ws k).2) (fun _ i _ => 4 - (intOf i).toNat)
      case atStart => exact ⟨0, v', by omega, rfl, S0.out⟩
      case round =>
        obtain ⟨k, v', hk, rfl, hs⟩ := hrel
        clear S0
        have B1 := Nat.le_trans hB hs.size
        have hX := mulAt_length z us ws k hk
        have o1 := ho.turn hs.turn
        have o2 := ho'.turn hs.turn
        have HN := Lib.hid (show mulAt z us ws (k + 1) = ((sumA (prodAt (mulAt z us ws k).1 (ws.getD (k + 1) 0) us (4 - (k + 1))).1 ((mulAt z us ws k).2.drop (k + 1)) (prodAt (mulAt z us ws k).1 (ws.getD (k + 1) 0) us (4 - (k + 1))).2 0 (3 - (k + 1))).1, (mulAt z us ws k).2.take (k + 1) ++ (sumA (prodAt (mulAt z us ws k).1 (ws.getD (k + 1) 0) us (4 - (k + 1))).1 ((mulAt z us ws k).2.drop (k + 1)) (prodAt (mulAt z us ws k).1 (ws.getD (k + 1) 0) us (4 - (k + 1))).2 0 (3 - (k + 1))).2) from rfl)
        clear ho ho'
        obtain ⟨A4, c4, rfl⟩ := hs.wl.form
        have hcap := hs.wl.cap
        obtain ⟨b1, rfl, _⟩ := own_addr hs.wl.own (by omega)
        rcases (show k = 0 ∨ k = 1 ∨ k = 2 ∨ k = 3 by omega) with rfl | rfl | rfl | rfl
        · simp only [Nat.reduceAdd, Nat.reduceSub] at HN ⊢
          obtain ⟨y, hy⟩ : ∃ y, ws.getD 1 0 = y := ⟨_, rfl⟩
          have HY := Lib.hid hy
          rw [hy] at HN
          generalize mulAt z us ws 0 = R at *
          have s1 := Bl.empty hs.cir
          have lp := prodAt_length R.1 y us 3
          have LP := Lib.hid lp
          have LX := Lib.hid hX
          obtain ⟨wa, rfl⟩ : ∃ wa : World, wa = wr := ⟨_, rfl⟩
          clear hy lp hX
          go_wp2_with fail
          generalize hw5 : wa.alloc (.cells #[] 3) = w5 at *
          clear hw5
          have S1 := Lib.hid (show Bl B g v' wa w5 v' v1 (n + mulN 0 + 0) (prodAt R.1 y us 0).1 _ 0 (prodAt R.1 y us 0).2 from s1)
          clear s1
          go_loopw [10, 11] (fun u i wr => ∃ (j : Nat) (v'' : Value), j ≤ 3 ∧ i = .int .i64 j ∧ Bl B g v' wa wr v'' v1 (n + mulN 0 + j) (prodAt R.1 y us j).1 u j (prodAt R.1 y us j).2) (fun _ i _ => 3 - (intOf i).toNat)
          case atStart => exact ⟨0, v', by omega, rfl, S1.out⟩
          case round =>
            obtain ⟨j, v'', hj, rfl, hi⟩ := hrel
            clear S1
            have B3 := Nat.le_trans B1 hi.size
            by_cases hlt : j < 3
            · have j0 : (0 : Int) ≤ j := by omega
              have j1 : (j : Int) < 3 := by omega
              have j2 : (j : Int) < 4 := by omega
              obtain ⟨b, o, rfl, q0⟩ := (o1.turn hi.turn).at_ (j := j) (by rw [LU.out]; omega)
              obtain ⟨_, _, e1, q1⟩ := (o2.turn hi.turn).at_ (j := 1) (by rw [LW.out]; omega)
              injection e1 with e1; injection e1 with e11 e12; subst e11 e12
              rw [HY.out] at q1
              obtain ⟨A4, c4, rfl⟩ := hi.wl.form
              have hsd := hi.drew
              have B2 : B ≤ wr.drew.heap.size := B3
              have HN1 := Lib.hid (show prodAt R.1 y us (j + 1) = (putG (prodAt R.1 y us j).1 4 y (us.getD j 0), (prodAt R.1 y us j).2 ++ [nG (prodAt R.1 y us j).1]) from rfl)
              generalize us.getD j 0 = ux at *
              generalize prodAt R.1 y us j = Q at *
              have c5 := spec_l14Put B g (n + mulN 0 + j) v'' v1 Q.1 4 y ux
              clear hi o1 o2 hs
              go_upto_region 13 with (fail)
              go_region_law (first
                | (refine app_step (e' := 3) elemInt (by rfl) _ _ (by rfl) wa.heap.size (.slice A4 j c4) j (intVals Q.2) (by rfl) (hs5.alloc (.cells #[.int .i64 (nG Q.1)] 3)).wl.own w5.heap.size 1 1 _ (0, 0) (by rfl) (heap_alloc_new w5 _) (by rfl) (oneCell_i64 [_]) (by omega) (by unfold maxLen; omega) (by omega) (by simp; omega) (w5.heap.size + 1) (by simp) ?_; intro g8 e8 w8 ho8 hg8 hat8 hl8)
                | (go_simp; go_at_call 98; (with_reducible refine (c5 _ hsd.cir B2 (by simp only [mulN]; omega)).mono ?_); rintro e w5 ⟨v5, rfl, h5, t5⟩; (have hs5 := hsd.next h5 t5); (have sz5 := hs5.size)))
              all_goals
                have H := Lib.hid (hs5.app ho8 hg8 hat8)
                clear h5 t5 hs5 hsd ho8 hg8 hat8 hl8 c5 q0 q1
                go_wp2_with fail
                go_roundw
                case rel => first | exact ⟨j + 1, by omega, by omega, v5, by rw [HN1.out]; exact H.out⟩ | exact ⟨j + 1, v5, by omega, by go_num, by rw [HN1.out]; exact H.out⟩
                case measure => simp [intOf]; omega
            · obtain rfl : j = 3 := by omega
              obtain ⟨A5, d5, rfl⟩ := hi.wl.form
              have hs6 := hs.next hi.cir hi.turn
              have op := hi.wl.off
              have os : Off g v'' wr (some ⟨b1, 1, none⟩) (R.2.drop 1) := by have hh := hs6.wl.off.skip 1; rwa [Nat.zero_add] at hh
              have c6 := spec_l14Sum B g (n + mulN 0 + 3) v'' v1 (prodAt R.1 y us 3).1 (some ⟨b1, 1, none⟩) 2 (c4 - 1) (R.2.drop 1) A5 d5 (prodAt R.1 y us 3).2 0 wr hi.cir B3 os (by rw [List.length_drop, LX.out]) op LP.out (by omega) (by simp only [mulN]; omega)
              have la : (sumA (prodAt R.1 y us 3).1 (R.2.drop 1) (prodAt R.1 y us 3).2 0 2).2.length = 3 := by rw [sumA_add]; exact addA_length _ _ _ _ _
              generalize sumA (prodAt R.1 y us 3).1 (R.2.drop 1) (prodAt R.1 y us 3).2 0 2 = U at *
              have x2 : (1 : Int) ≤ (c4 : Int) := by omega
              have x3 : ¬ c4 - 1 = 0 := by omega
              have x4 : ¬ c4 = 1 := by omega
              have LA := Lib.hid la
              clear hs hi o1 o2 op os la
              go_wp2_with fail
              refine c6.mono ?_
              rintro e w7 ⟨v7, A7, k7, d7, rfl, l7, h7, t7, wl7⟩
              obtain rfl : k7 = 3 := by rw [← l7]; exact LA.out
              have hs7 := hs6.next h7 t7
              have iS : Ints (w7.alloc (.cells #[] 3)) (some ⟨b1, 0, none⟩) (R.2.take 1) := ((hs7.alloc (.cells #[] 3)).wl.off.cut 1).ints
              have iU := wl7.off.ints
              have g7 := heap_alloc_new w7 (.cells #[] 3)
              have low7 := below_alloc w7 (.cells #[] 3)
              have hs8 := hs7.size
              have LT := Lib.hid (show (R.2.take 1).length = 1 by rw [List.length_take, LX.out]; rfl)
              clear c6 hs6 l7 wl7 t7
              go_wp2_with (first | (at_builtin; refine app_ints elemInt rfl _ _ rfl w7.heap.size _ 0 [] rfl (own_nil g7 (Nat.le_refl _)) (some ⟨b1, 0, none⟩) 1 c4 (R.2.take 1) rfl iS LT.out (by unfold maxLen; omega) (by omega) (by simp) ?_))
              intro v8 w8 ho8 hg8 _
              have low8 := low7.grown hg8 low7.size (fun k e => by have e : w7.heap.size = k := by simpa [Value.ownBlock] using e
                                                                   omega)
              have iU8 := Ints.below iU low8
              clear hg8 g7 iS low7
              go_wp2_with (first | (at_builtin; refine app_ints elemInt rfl _ _ rfl w7.heap.size _ 1 (intVals (R.2.take 1)) rfl ho8 A7 3 d7 U.2 rfl iU8 LA.out (by unfold maxLen; omega) (by omega) low8.size ?_))
              intro v9 w9 ho9 hg9 _
              have low9 := low8.grown hg9 low8.size (fun k e => (ho8.lt k e).1)
              have H := Lib.hid (show Bl B g v w w9 v7 v1 (n + mulN 1) U.1 v9 4 (R.2.take 1 ++ U.2) from ⟨h7.below low9, hs7.turn.below low9, (Wl.fresh h7 (by rw [show intVals (R.2.take 1 ++ U.2) = intVals (R.2.take 1) ++ intVals U.2 by simp [intVals]]; exact ho9) (Nat.le_refl _)).mono hs8⟩)
              clear ho8 ho9 hg9 low8 low9 h7 hs7 iU iU8
              go_wp2_with fail
              go_roundw
              case rel => exact ⟨1, v7, by omega, by go_num, by rw [HN.out]; exact H.out⟩
              case measure => simp [intOf]
        · simp only [Nat.reduceAdd, Nat.reduceSub] at HN ⊢
          obtain ⟨y, hy⟩ : ∃ y, ws.getD 2 0 = y := ⟨_, rfl⟩
          have HY := Lib.hid hy
          rw [hy] at HN
          generalize mulAt z us ws 1 = R at *
          have s1 := Bl.empty hs.cir
          have lp := prodAt_length R.1 y us 2
          have LP := Lib.hid lp
          have LX := Lib.hid hX
          obtain ⟨wa, rfl⟩ : ∃ wa : World, wa = wr := ⟨_, rfl⟩
          clear hy lp hX
          go_wp2_with fail
          generalize hw5 : wa.alloc (.cells #[] 3) = w5 at *
          clear hw5
          have S1 := Lib.hid (show Bl B g v' wa w5 v' v1 (n + mulN 1 + 0) (prodAt R.1 y us 0).1 _ 0 (prodAt R.1 y us 0).2 from s1)
          clear s1
          go_loopw [10, 11] (fun u i wr => ∃ (j : Nat) (v'' : Value), j ≤ 2 ∧ i = .int .i64 j ∧ Bl B g v' wa wr v'' v1 (n + mulN 1 + j) (prodAt R.1 y us j).1 u j (prodAt R.1 y us j).2) (fun _ i _ => 2 - (intOf i).toNat)
          case atStart => exact ⟨0, v', by omega, rfl, S1.out⟩
          case round =>
            obtain ⟨j, v'', hj, rfl, hi⟩ := hrel
            clear S1
            have B3 := Nat.le_trans B1 hi.size
            by_cases hlt : j < 2
            · have j0 : (0 : Int) ≤ j := by omega
              have j1 : (j : Int) < 2 := by omega
              have j2 : (j : Int) < 4 := by omega
              obtain ⟨b, o, rfl, q0⟩ := (o1.turn hi.turn).at_ (j := j) (by rw [LU.out]; omega)
              obtain ⟨_, _, e1, q1⟩ := (o2.turn hi.turn).at_ (j := 2) (by rw [LW.out]; omega)
              injection e1 with e1; injection e1 with e11 e12; subst e11 e12
              rw [HY.out] at q1
              obtain ⟨A4, c4, rfl⟩ := hi.wl.form
              have hsd := hi.drew
              have B2 : B ≤ wr.drew.heap.size := B3
              have HN1 := Lib.hid (show prodAt R.1 y us (j + 1) = (putG (prodAt R.1 y us j).1 4 y (us.getD j 0), (prodAt R.1 y us j).2 ++ [nG (prodAt R.1 y us j).1]) from rfl)
              generalize us.getD j 0 = ux at *
              generalize prodAt R.1 y us j = Q at *
              have c5 := spec_l14Put B g (n + mulN 1 + j) v'' v1 Q.1 4 y ux
              clear hi o1 o2 hs
              go_upto_region 13 with (fail)
              go_region_law (first
                | (refine app_step (e' := 3) elemInt (by rfl) _ _ (by rfl) wa.heap.size (.slice A4 j c4) j (intVals Q.2) (by rfl) (hs5.alloc (.cells #[.int .i64 (nG Q.1)] 3)).wl.own w5.heap.size 1 1 _ (0, 0) (by rfl) (heap_alloc_new w5 _) (by rfl) (oneCell_i64 [_]) (by omega) (by unfold maxLen; omega) (by omega) (by simp; omega) (w5.heap.size + 1) (by simp) ?_; intro g8 e8 w8 ho8 hg8 hat8 hl8)
                | (go_simp; go_at_call 98; (with_reducible refine (c5 _ hsd.cir B2 (by simp only [mulN]; omega)).mono ?_); rintro e w5 ⟨v5, rfl, h5, t5⟩; (have hs5 := hsd.next h5 t5); (have sz5 := hs5.size)))
              all_goals
                have H := Lib.hid (hs5.app ho8 hg8 hat8)
                clear h5 t5 hs5 hsd ho8 hg8 hat8 hl8 c5 q0 q1
                go_wp2_with fail
                go_roundw
                case rel => first | exact ⟨j + 1, by omega, by omega, v5, by rw [HN1.out]; exact H.out⟩ | exact ⟨j + 1, v5, by omega, by go_num, by rw [HN1.out]; exact H.out⟩
                case measure => simp [intOf]; omega
            · obtain rfl : j = 2 := by omega
              obtain ⟨A5, d5, rfl⟩ := hi.wl.form
              have hs6 := hs.next hi.cir hi.turn
              have op := hi.wl.off
              have os : Off g v'' wr (some ⟨b1, 2, none⟩) (R.2.drop 2) := by have hh := hs6.wl.off.skip 2; rwa [Nat.zero_add] at hh
              have c6 := spec_l14Sum B g (n + mulN 1 + 2) v'' v1 (prodAt R.1 y us 2).1 (some ⟨b1, 2, none⟩) 1 (c4 - 2) (R.2.drop 2) A5 d5 (prodAt R.1 y us 2).2 0 wr hi.cir B3 os (by rw [List.length_drop, LX.out]) op LP.out (by omega) (by simp only [mulN]; omega)
              have la : (sumA (prodAt R.1 y us 2).1 (R.2.drop 2) (prodAt R.1 y us 2).2 0 1).2.length = 2 := by rw [sumA_add]; exact addA_length _ _ _ _ _
              generalize sumA (prodAt R.1 y us 2).1 (R.2.drop 2) (prodAt R.1 y us 2).2 0 1 = U at *
              have x2 : (2 : Int) ≤ (c4 : Int) := by omega
              have x3 : ¬ c4 - 2 = 0 := by omega
              have x4 : ¬ c4 = 2 := by omega
              have LA := Lib.hid la
              clear hs hi o1 o2 op os la
              go_wp2_with fail
              refine c6.mono ?_
              rintro e w7 ⟨v7, A7, k7, d7, rfl, l7, h7, t7, wl7⟩
              obtain rfl : k7 = 2 := by rw [← l7]; exact LA.out
              have hs7 := hs6.next h7 t7
              have iS : Ints (w7.alloc (.cells #[] 3)) (some ⟨b1, 0, none⟩) (R.2.take 2) := ((hs7.alloc (.cells #[] 3)).wl.off.cut 2).ints
              have iU := wl7.off.ints
              have g7 := heap_alloc_new w7 (.cells #[] 3)
              have low7 := below_alloc w7 (.cells #[] 3)
              have hs8 := hs7.size
              have LT := Lib.hid (show (R.2.take 2).length = 2 by rw [List.length_take, LX.out]; rfl)
              clear c6 hs6 l7 wl7 t7
              go_wp2_with (first | (at_builtin; refine app_ints elemInt rfl _ _ rfl w7.heap.size _ 0 [] rfl (own_nil g7 (Nat.le_refl _)) (some ⟨b1, 0, none⟩) 2 c4 (R.2.take 2) rfl iS LT.out (by unfold maxLen; omega) (by omega) (by simp) ?_))
              intro v8 w8 ho8 hg8 _
              have low8 := low7.grown hg8 low7.size (fun k e => by have e : w7.heap.size = k := by simpa [Value.ownBlock] using e
                                                                   omega)
              have iU8 := Ints.below iU low8
              clear hg8 g7 iS low7
              go_wp2_with (first | (at_builtin; refine app_ints elemInt rfl _ _ rfl w7.heap.size _ 2 (intVals (R.2.take 2)) rfl ho8 A7 2 d7 U.2 rfl iU8 LA.out (by unfold maxLen; omega) (by omega) low8.size ?_))
              intro v9 w9 ho9 hg9 _
              have low9 := low8.grown hg9 low8.size (fun k e => (ho8.lt k e).1)
              have H := Lib.hid (show Bl B g v w w9 v7 v1 (n + mulN 2) U.1 v9 4 (R.2.take 2 ++ U.2) from ⟨h7.below low9, hs7.turn.below low9, (Wl.fresh h7 (by rw [show intVals (R.2.take 2 ++ U.2) = intVals (R.2.take 2) ++ intVals U.2 by simp [intVals]]; exact ho9) (Nat.le_refl _)).mono hs8⟩)
              clear ho8 ho9 hg9 low8 low9 h7 hs7 iU iU8
              go_wp2_with fail
              go_roundw
              case rel => exact ⟨2, v7, by omega, by go_num, by rw [HN.out]; exact H.out⟩
              case measure => simp [intOf]
        · simp only [Nat.reduceAdd, Nat.reduceSub] at HN ⊢
          obtain ⟨y, hy⟩ : ∃ y, ws.getD 3 0 = y := ⟨_, rfl⟩
          have HY := Lib.hid hy
          rw [hy] at HN
          generalize mulAt z us ws 2 = R at *
          have s1 := Bl.empty hs.cir
          have lp := prodAt_length R.1 y us 1
          have LP := Lib.hid lp
          have LX := Lib.hid hX
          obtain ⟨wa, rfl⟩ : ∃ wa : World, wa = wr := ⟨_, rfl⟩
          clear hy lp hX
          go_wp2_with fail
          generalize hw5 : wa.alloc (.cells #[] 3) = w5 at *
          clear hw5
          have S1 := Lib.hid (show Bl B g v' wa w5 v' v1 (n + mulN 2 + 0) (prodAt R.1 y us 0).1 _ 0 (prodAt R.1 y us 0).2 from s1)
          clear s1
          go_loopw [10, 11] (fun u i wr => ∃ (j : Nat) (v'' : Value), j ≤ 1 ∧ i = .int .i64 j ∧ Bl B g v' wa wr v'' v1 (n + mulN 2 + j) (prodAt R.1 y us j).1 u j (prodAt R.1 y us j).2) (fun _ i _ => 1 - (intOf i).toNat)
          case atStart => exact ⟨0, v', by omega, rfl, S1.out⟩
          case round =>
            obtain ⟨j, v'', hj, rfl, hi⟩ := hrel
            clear S1
            have B3 := Nat.le_trans B1 hi.size
            by_cases hlt : j < 1
            · have j0 : (0 : Int) ≤ j := by omega
              have j1 : (j : Int) < 1 := by omega
              have j2 : (j : Int) < 4 := by omega
              obtain ⟨b, o, rfl, q0⟩ := (o1.turn hi.turn).at_ (j := j) (by rw [LU.out]; omega)
              obtain ⟨_, _, e1, q1⟩ := (o2.turn hi.turn).at_ (j := 3) (by rw [LW.out]; omega)
              injection e1 with e1; injection e1 with e11 e12; subst e11 e12
              rw [HY.out] at q1
              obtain ⟨A4, c4, rfl⟩ := hi.wl.form
              have hsd := hi.drew
              have B2 : B ≤ wr.drew.heap.size := B3
              have HN1 := Lib.hid (show prodAt R.1 y us (j + 1) = (putG (prodAt R.1 y us j).1 4 y (us.getD j 0), (prodAt R.1 y us j).2 ++ [nG (prodAt R.1 y us j).1]) from rfl)
              generalize us.getD j 0 = ux at *
              generalize prodAt R.1 y us j = Q at *
              have c5 := spec_l14Put B g (n + mulN 2 + j) v'' v1 Q.1 4 y ux
              clear hi o1 o2 hs
              go_upto_region 13 with (fail)
              go_region_law (first
                | (refine app_step (e' := 3) elemInt (by rfl) _ _ (by rfl) wa.heap.size (.slice A4 j c4) j (intVals Q.2) (by rfl) (hs5.alloc (.cells #[.int .i64 (nG Q.1)] 3)).wl.own w5.heap.size 1 1 _ (0, 0) (by rfl) (heap_alloc_new w5 _) (by rfl) (oneCell_i64 [_]) (by omega) (by unfold maxLen; omega) (by omega) (by simp; omega) (w5.heap.size + 1) (by simp) ?_; intro g8 e8 w8 ho8 hg8 hat8 hl8)
                | (go_simp; go_at_call 98; (with_reducible refine (c5 _ hsd.cir B2 (by simp only [mulN]; omega)).mono ?_); rintro e w5 ⟨v5, rfl, h5, t5⟩; (have hs5 := hsd.next h5 t5); (have sz5 := hs5.size)))
              all_goals
                have H := Lib.hid (hs5.app ho8 hg8 hat8)
                clear h5 t5 hs5 hsd ho8 hg8 hat8 hl8 c5 q0 q1
                go_wp2_with fail
                go_roundw
                case rel => first | exact ⟨j + 1, by omega, by omega, v5, by rw [HN1.out]; exact H.out⟩ | exact ⟨j + 1, v5, by omega, by go_num, by rw [HN1.out]; exact H.out⟩
                case measure => simp [intOf]; omega
            · obtain rfl : j = 1 := by omega
              obtain ⟨A5, d5, rfl⟩ := hi.wl.form
              have hs6 := hs.next hi.cir hi.turn
              have op := hi.wl.off
              have os : Off g v'' wr (some ⟨b1, 3, none⟩) (R.2.drop 3) := by have hh := hs6.wl.off.skip 3; rwa [Nat.zero_add] at hh
              have c6 := spec_l14Sum B g (n + mulN 2 + 1) v'' v1 (prodAt R.1 y us 1).1 (some ⟨b1, 3, none⟩) 0 (c4 - 3) (R.2.drop 3) A5 d5 (prodAt R.1 y us 1).2 0 wr hi.cir B3 os (by rw [List.length_drop, LX.out]) op LP.out (by omega) (by simp only [mulN]; omega)
              have la : (sumA (prodAt R.1 y us 1).1 (R.2.drop 3) (prodAt R.1 y us 1).2 0 0).2.length = 1 := by rw [sumA_add]; exact addA_length _ _ _ _ _
              generalize sumA (prodAt R.1 y us 1).1 (R.2.drop 3) (prodAt R.1 y us 1).2 0 0 = U at *
              have x2 : (3 : Int) ≤ (c4 : Int) := by omega
              have x3 : ¬ c4 - 3 = 0 := by omega
              have x4 : ¬ c4 = 3 := by omega
              have LA := Lib.hid la
              clear hs hi o1 o2 op os la
              go_wp2_with fail
              refine c6.mono ?_
              rintro e w7 ⟨v7, A7, k7, d7, rfl, l7, h7, t7, wl7⟩
              obtain rfl : k7 = 1 := by rw [← l7]; exact LA.out
              have hs7 := hs6.next h7 t7
              have iS : Ints (w7.alloc (.cells #[] 3)) (some ⟨b1, 0, none⟩) (R.2.take 3) := ((hs7.alloc (.cells #[] 3)).wl.off.cut 3).ints
              have iU := wl7.off.ints
              have g7 := heap_alloc_new w7 (.cells #[] 3)
              have low7 := below_alloc w7 (.cells #[] 3)
              have hs8 := hs7.size
              have LT := Lib.hid (show (R.2.take 3).length = 3 by rw [List.length_take, LX.out]; rfl)
              clear c6 hs6 l7 wl7 t7
              go_wp2_with (first | (at_builtin; refine app_ints elemInt rfl _ _ rfl w7.heap.size _ 0 [] rfl (own_nil g7 (Nat.le_refl _)) (some ⟨b1, 0, none⟩) 3 c4 (R.2.take 3) rfl iS LT.out (by unfold maxLen; omega) (by omega) (by simp) ?_))
              intro v8 w8 ho8 hg8 _
              have low8 := low7.grown hg8 low7.size (fun k e => by have e : w7.heap.size = k := by simpa [Value.ownBlock] using e
                                                                   omega)
              have iU8 := Ints.below iU low8
              clear hg8 g7 iS low7
              go_wp2_with (first | (at_builtin; refine app_ints elemInt rfl _ _ rfl w7.heap.size _ 3 (intVals (R.2.take 3)) rfl ho8 A7 1 d7 U.2 rfl iU8 LA.out (by unfold maxLen; omega) (by omega) low8.size ?_))
              intro v9 w9 ho9 hg9 _
              have low9 := low8.grown hg9 low8.size (fun k e => (ho8.lt k e).1)
              have H := Lib.hid (show Bl B g v w w9 v7 v1 (n + mulN 3) U.1 v9 4 (R.2.take 3 ++ U.2) from ⟨h7.below low9, hs7.turn.below low9, (Wl.fresh h7 (by rw [show intVals (R.2.take 3 ++ U.2) = intVals (R.2.take 3) ++ intVals U.2 by simp [intVals]]; exact ho9) (Nat.le_refl _)).mono hs8⟩)
              clear ho8 ho9 hg9 low8 low9 h7 hs7 iU iU8
              go_wp2_with fail
              go_roundw
              case rel => exact ⟨3, v7, by omega, by go_num, by rw [HN.out]; exact H.out⟩
              case measure => simp [intOf]
        · have H := Lib.hid hs
          clear hs o1 o2
          go_wp2_with fail
          go_ret
          exact ⟨v', _, 4, c4, rfl, hX, H.out.cir, H.out.turn, H.out.wl⟩
end Go.Proofs.Ytccaaklgmdafpaa

/- InputLabels, the program's and the model's. No condition. -/
import Derived.Test.YtfpcjgolcbjnjaaProg
import Derived.Test.YtfpcjgolcbjnjaaGbI
import Derived.Test.YtfpcjgolcbjnjaaBitN
import Derived.Test.YtfpcjgolcbjnjaaB1
import Derived.BigQuiet
namespace Go.Proofs.Ytfpcjgolcbjnjaa
open Go Go.RowKit
theorem inL_next (s a d : Int) (bs : List Int) (k : Nat) (x : Int) (h : lblI (izI s a k) d (bs.getD k 0) = x) : inL s a d bs (k + 1) = inL s a d bs k ++ [x] := by rw [← h]; rfl
theorem ret_grow {w0 w wr : World} {v : Value} {k : Nat} {zs : List Int} (gr : Grow w0 wr v k zs) (low : Below w.heap.size w w0) : ∃ (A : Option Addr) (m c : Nat), v = .slice A m c ∧ Post_A zs w (.returned (.slice A m c)) wr := by
  obtain ⟨A, m, c, he, hl, ho, hb⟩ := gr.done
  injection he with he
  subst he
  exact ⟨A, m, c, rfl, A, m, c, rfl, ho.any.wide low.size (Nat.le_refl _), low.trans (hb.mono low.size)⟩
set_option maxRecDepth 100000 in
set_option maxHeartbeats 2000000 in
theorem spec_InputLabels (s a : Int) (A : Option Addr) (n c : Nat) (bs : List Int) (w : World) (hb : Ints w A bs) (lb : bs.length = n) (mb : n ≤ 2000000) :
    Calls Try.prog 38 #[.agg #[.int .i64 s, .int .i64 a], .slice A n c] w (Post_A (inI s a bs) w) := by
  have low := below_alloc w (.cells #[.int .i64 s, .int .i64 a] 29)
  have bx := heap_alloc_new w (.cells #[.int .i64 s, .int .i64 a] 29)
  have ib := hb.bound.below low
  have LB := Lib.hid lb
  have cB := fun r hr W h => spec_l13BitsN A n c bs r hr W h LB.out (by omega)
  have cT := spec_canStart s a
  clear hb lb
  go_enter Try.func38, Try.ntmps38
  go_upto_region 1 with (fail)
  generalize hw0 : w.alloc (.cells #[.int .i64 s, .int .i64 a] 29) = w0 at *
  clear hw0
  have g0 := Grow.empty (Below.refl w0.heap.size w0)
  have bx0 := heap_below bx g0.low
  have t0 := (box2 bx).1
  have t1 := (box2 bx).2.1
  have x0 := (box2 bx0).1
  have x1 := (box2 bx0).2.1
  by_cases ht : dOk s a
  case neg =>
    have E := Lib.hid (show inI s a bs = [] from if_neg (fun h => ht h.1))
    replace cT := cT false (decide_eq_false ht)
    clear ht cB
    go_wp2_with fail
    refine (cT _).mono ?_
    rintro e w1 ⟨rfl, hb1⟩
    obtain ⟨_, _, _, he, hp⟩ := ret_grow (g0.next hb1) low
    injection he with e1 e2 e3
    subst e1 e2 e3
    have O := Lib.hid hp
    clear hp cT hb1 g0 t0 t1 x0 x1 bx bx0
    go_wp2_with fail
    go_ret
    rw [E.out]
    exact O.out
  replace cT := cT true (decide_eq_true ht)
  by_cases hn : n ≤ 80
  case neg =>
    have E := Lib.hid (show inI s a bs = [] from if_neg (fun h => hn (by rw [← LB.out]; exact h.2.1)))
    have hn' : (80 : Int) < n := by omega
    clear ht cB hn
    go_wp2_with fail
    refine (cT _).mono ?_
    rintro e w1 ⟨rfl, hb1⟩
    obtain ⟨_, _, _, he, hp⟩ := ret_grow (g0.next hb1) low
    injection he with e1 e2 e3
    subst e1 e2 e3
    have O := Lib.hid hp
    clear hp cT hb1 g0 t0 t1 x0 x1 bx bx0
    go_wp2_with fail
    go_ret
    rw [E.out]
    exact O.out
  have hn' : (n : Int) ≤ 80 := by omega
  by_cases hbt : allBit bs
  case neg =>
    have E := Lib.hid (show inI s a bs = [] from if_neg (fun h => hbt h.2.2))
    replace cB := cB false (decide_eq_false hbt)
    clear ht hbt
    go_wp2_with fail
    refine (cT _).mono ?_
    rintro e w1 ⟨rfl, hb1⟩
    have g1 := g0.next hb1
    clear hb1 g0 t0 t1 x0 x1 bx bx0 cT
    go_wp2_with fail
    refine (cB _ ((ib.below (g1.low.mono low.size)).ints (Nat.le_trans low.size g1.size))).mono ?_
    rintro e w2 ⟨rfl, rfl⟩
    obtain ⟨_, _, _, he, hp⟩ := ret_grow g1 low
    injection he with e1 e2 e3
    subst e1 e2 e3
    have O := Lib.hid hp
    clear hp g1 cB
    go_wp2_with fail
    go_ret
    rw [E.out]
    exact O.out
  have E := Lib.hid (show inI s a bs = inL s a (dltI s a) bs n from (if_pos ⟨ht, by rw [LB.out]; exact hn, hbt⟩).trans (by rw [LB.out]))
  replace cB := cB true (decide_eq_true hbt)
  have cD := spec_DeltaOf s a
  generalize dltI s a = D at *
  generalize dltA s a = D2 at *
  clear ht hbt
  go_wp2_with fail
  refine (cT _).mono ?_
  rintro e w1 ⟨rfl, hb1⟩
  have g1 := g0.next hb1
  have bx1 := heap_below bx g1.low
  clear hb1 g0 t0 t1 x0 x1 bx0 cT
  have t0 := (box2 bx1).1
  have t1 := (box2 bx1).2.1
  go_wp2_with fail
  refine (cB _ ((ib.below (g1.low.mono low.size)).ints (Nat.le_trans low.size g1.size))).mono ?_
  rintro e w2 ⟨rfl, rfl⟩
  clear cB
  go_wp2_with fail
  refine (cD _).mono ?_
  rintro e w3 ⟨rfl, hb3⟩
  have g3 := (g1.next hb3).alloc (.cells #[.int .i64 s, .int .i64 D2] 29)
  clear g1 hb3 t0 t1 bx1 cD
  go_upto_region 5 with (fail)
  generalize hw4 : w3.alloc (.cells #[.int .i64 s, .int .i64 D2] 29) = w4 at *
  clear hw4
  have HG := Lib.hid g3
  clear g3
  go_wp2_with fail
  go_loopw [5, 8] (fun v i wr => ∃ k : Nat, k ≤ n ∧ i = .int .i64 k ∧ Grow w0 wr v k (inL s a D bs k)) (fun _ i _ => n - (intOf i).toNat)
  case atStart => exact ⟨0, Nat.zero_le _, rfl, HG.out⟩
  case round =>
    obtain ⟨k, hk, rfl, gr⟩ := hrel
    clear HG
    by_cases hlt : k < n
    · have k0 : (0 : Int) ≤ k := by omega
      have k1 : (k : Int) < n := by omega
      obtain ⟨q, o, rfl, -, c2⟩ := (ib.below (gr.low.mono low.size)).at_ (j := k) (by rw [LB.out]; exact hlt)
      have bxr := heap_below bx gr.low
      obtain ⟨c0, c1, _, _⟩ := box2 bxr
      have d0 : wr.drew.cell? ⟨w.heap.size, 0, none⟩ = some (.int .i64 s) := c0
      have d1 : wr.drew.cell? ⟨w.heap.size, 1, none⟩ = some (.int .i64 a) := c1
      have d2 : wr.drew.cell? ⟨q, o + k, none⟩ = some (.int .i64 (bs.getD k 0)) := c2
      have gd := gr.drew
      have hqw : q < w0.heap.size := by
        obtain ⟨q', o', e', h', _⟩ := ib.at_ (j := k) (by rw [LB.out]; exact hlt)
        injection e' with e'; injection e' with e1 e2; subst e1 e2
        exact Nat.lt_of_lt_of_le h' low.size
      have hww : w.heap.size < w0.heap.size := heap_lt bx
      have hgw := gr.size
      obtain ⟨X, hX⟩ : ∃ x, lblI (izI s a k) D (bs.getD k 0) = x := ⟨_, rfl⟩
      have HN := Lib.hid (inL_next s a D bs k X hX)
      generalize bs.getD k 0 = y at *
      have cZ := spec_InputZero s a k
      generalize izI s a k = zz at *
      have cL := spec_LabelFor_is zz D y X hX
      generalize inL s a D bs k = LL at *
      obtain ⟨Av, nv, cv, rfl, rfl⟩ := ownsRow_slice gr.own
      clear hX gr bxr
      go_upto_region 8 with (fail)
      go_region_law (first
        | (refine app_step (e' := 3) elemInt (by rfl) _ _ (by rfl) w0.heap.size (.slice Av k cv) k (intVals LL) (by rfl) g6.own w6.heap.size 1 1 _ (0, 0) (by rfl) (heap_alloc_new w6 _) (by rfl) (oneCell_i64 [_]) (by omega) (by unfold maxLen; omega) (by omega) g6.size (w6.heap.size + 1) (by simp) ?_; intro g8 e8 w8 ho8 hg8 hat8 hl8)
        | (go_simp; go_at_call 20; (with_reducible refine (cZ _).mono ?_); rintro e w6 ⟨rfl, hb6⟩; (have e2 := cell_on d2 hb6); (have g6 := (gd.next hb6).alloc (.cells #[.int .i64 X] 3)))
        | (go_simp; go_at_call 16; (with_reducible refine (cL _).mono ?_); rintro e w7 ⟨rfl, rfl⟩))
      all_goals
        have H := Lib.hid (g6.app (ys := LL ++ [X]) ho8 hg8 (by simp [intVals]))
        clear ho8 hg8 hat8 hl8 e2 d0 d1 d2 c0 c1 c2 g6 gd hb6
        go_wp2_with fail
        go_roundw
        case rel => exact ⟨k + 1, by omega, by go_num, by rw [HN.out]; exact H.out⟩
        case measure => simp [intOf]; omega
    · obtain rfl : k = n := by omega
      obtain ⟨_, _, _, rfl, hp⟩ := ret_grow gr low
      have O := Lib.hid hp
      clear hp gr
      go_wp2_with fail
      go_ret
      rw [E.out]
      exact O.out
set_option maxRecDepth 100000 in
set_option maxHeartbeats 2000000 in
theorem impl_InputLabels (s a : Int) (A : Option Addr) (n c : Nat) (bs : List Int) (w : World) (hb : Ints w A bs) (lb : bs.length = n) (mb : n ≤ 2000000) :
    Calls Try.prog 14 #[.agg #[.int .i64 s, .int .i64 a], .slice A n c] w (Post_A (inI s a bs) w) := by
  have low := below_alloc w (.cells #[.int .i64 s, .int .i64 a] 29)
  have bx := heap_alloc_new w (.cells #[.int .i64 s, .int .i64 a] 29)
  have ib := hb.bound.below low
  have LB := Lib.hid lb
  have cB := fun r hr W h => impl_ContainsBit A n c bs r hr W h LB.out (by omega)
  have cT := impl_canStart s a
  clear hb lb
  go_enter Try.func14, Try.ntmps14
  go_upto_region 1 with (fail)
  generalize hw0 : w.alloc (.cells #[.int .i64 s, .int .i64 a] 29) = w0 at *
  clear hw0
  have t0 := (box2 bx).1
  have t1 := (box2 bx).2.1
  by_cases ht : dOk s a
  case neg =>
    have E := Lib.hid (show inI s a bs = [] from if_neg (fun h => ht h.1))
    replace cT := cT false (decide_eq_false ht)
    clear ht cB
    go_wp2_with fail
    refine (cT _).mono ?_
    rintro e w1 ⟨rfl, hb1⟩
    have L := Lib.hid (low.trans (hb1.mono low.size))
    clear cT hb1 t0 t1 bx
    go_wp2_with fail
    go_ret
    rw [E.out]
    exact ⟨none, 0, 0, rfl, OwnA.nil _ _ _ _, L.out⟩
  replace cT := cT true (decide_eq_true ht)
  by_cases hn : n ≤ 80
  case neg =>
    have E := Lib.hid (show inI s a bs = [] from if_neg (fun h => hn (by rw [← LB.out]; exact h.2.1)))
    have hn' : (80 : Int) < n := by omega
    clear ht cB hn
    go_wp2_with fail
    refine (cT _).mono ?_
    rintro e w1 ⟨rfl, hb1⟩
    have L := Lib.hid (low.trans (hb1.mono low.size))
    clear cT hb1 t0 t1 bx
    go_wp2_with fail
    go_ret
    rw [E.out]
    exact ⟨none, 0, 0, rfl, OwnA.nil _ _ _ _, L.out⟩
  have hn' : (n : Int) ≤ 80 := by omega
  by_cases hbt : allBit bs
  case neg =>
    have E := Lib.hid (show inI s a bs = [] from if_neg (fun h => hbt h.2.2))
    replace cB := cB false (decide_eq_false hbt)
    clear ht hbt
    go_wp2_with fail
    refine (cT _).mono ?_
    rintro e w1 ⟨rfl, hb1⟩
    have low1 := low.trans (hb1.mono low.size)
    have j1 := (ib.below (hb1.mono low.size)).ints low1.size
    clear hb1 t0 t1 bx cT
    go_wp2_with fail
    refine (cB _ j1).mono ?_
    rintro e w2 ⟨rfl, rfl⟩
    clear cB j1
    go_wp2_with fail
    go_ret
    rw [E.out]
    exact ⟨none, 0, 0, rfl, OwnA.nil _ _ _ _, low1⟩
  have E := Lib.hid (show inI s a bs = inL s a (dltI s a) bs n from (if_pos ⟨ht, by rw [LB.out]; exact hn, hbt⟩).trans (by rw [LB.out]))
  replace cB := cB true (decide_eq_true hbt)
  have cD := impl_DeltaOf s a
  generalize dltI s a = D at *
  generalize dltA s a = D2 at *
  clear ht hbt
  go_wp2_with fail
  refine (cT _).mono ?_
  rintro e w1 ⟨rfl, hb1⟩
  have low1 := low.trans (hb1.mono low.size)
  have bx1 := heap_below bx hb1
  have ib1 := ib.below (hb1.mono low.size)
  have j1 := ib1.ints low1.size
  clear hb1 t0 t1 bx cT ib
  have t0 := (box2 bx1).1
  have t1 := (box2 bx1).2.1
  go_wp2_with fail
  refine (cB _ j1).mono ?_
  rintro e w2 ⟨rfl, rfl⟩
  clear cB j1
  go_wp2_with fail
  refine (cD _).mono ?_
  rintro e w3 ⟨rfl, hb3⟩
  have lowx := hb3.alloc hb3.size (.cells #[.int .i64 s, .int .i64 D2] 29)
  have bx3 := heap_below bx1 lowx
  have ib3 := ib1.below (lowx.mono low1.size)
  have low3 := low1.trans (lowx.mono low1.size)
  clear hb3 t0 t1 bx1 cD lowx low1 ib1
  go_upto_region 4 with (fail)
  generalize hw4 : w3.alloc (.cells #[.int .i64 s, .int .i64 D2] 29) = w4 at *
  clear hw4
  go_wp2_with (first | (refine make_list elemInt rfl _ _ rfl w4.heap.size _ _ n n rfl rfl rfl (by omega) (by unfold maxLen; omega) (Nat.le_refl _) ?_))
  intro w5 hown5 hg5
  have HG := Lib.hid (Grow.made (Below.refl w4.heap.size w4) hg5 hown5)
  clear hown5 hg5
  go_wp2_with fail
  go_loopw [7, 32] (fun v i wr => ∃ k : Nat, k ≤ n ∧ i = .int .i64 k ∧ Grow w4 wr v k (inL s a D bs k)) (fun _ i _ => n - (intOf i).toNat)
  case atStart => exact ⟨0, Nat.zero_le _, rfl, HG.out⟩
  case round =>
    obtain ⟨k, hk, rfl, gr⟩ := hrel
    clear HG
    by_cases hlt : k < n
    · have k0 : (0 : Int) ≤ k := by omega
      have k1 : (k : Int) < n := by omega
      obtain ⟨q, o, rfl, -, c2⟩ := (ib3.below (gr.low.mono low3.size)).at_ (j := k) (by rw [LB.out]; exact hlt)
      obtain ⟨c0, c1, _, _⟩ := box2 (heap_below bx3 gr.low)
      obtain ⟨X, hX⟩ : ∃ x, lblI (izI s a k) D (bs.getD k 0) = x := ⟨_, rfl⟩
      have HN := Lib.hid (inL_next s a D bs k X hX)
      generalize bs.getD k 0 = y at *
      have cZ := impl_InputZero s a k
      generalize izI s a k = zz at *
      have cL := impl_LabelFor_is zz D y X hX
      generalize inL s a D bs k = LL at *
      obtain ⟨Av, nv, cv, rfl, rfl⟩ := ownsRow_slice gr.own
      clear hX
      go_wp2_with fail
      refine (cZ _).mono ?_
      rintro e w6 ⟨rfl, hb6⟩
      have g6 := gr.next hb6
      clear cZ gr c0 c1 c2 hb6
      go_wp2_with fail
      refine (cL _).mono ?_
      rintro e w7 ⟨rfl, hb7⟩
      have g7 := (g6.next hb7).alloc (.cells #[.int .i64 X] 3)
      clear cL g6 hb7
      go_wp2_with (first | (at_builtin; refine app_list (e' := 3) elemInt rfl _ _ rfl w4.heap.size _ k (intVals LL) rfl g7.own w7.heap.size 1 1 _ (0, 0) rfl (heap_alloc_new w7 _) rfl (oneCell_i64 [_]) (by omega) (by unfold maxLen; omega) (by omega) g7.size (w7.heap.size + 1) (by simp) ?_))
      intro g8 e8 w8 ho8 hg8 hat8 hl8
      have H := Lib.hid (g7.app (ys := LL ++ [X]) ho8 hg8 (by simp [intVals]))
      clear ho8 hg8 hat8 hl8 g7
      go_wp2_with fail
      go_roundw
      case rel => exact ⟨k + 1, by omega, by go_num, by rw [HN.out]; exact H.out⟩
      case measure => simp [intOf]; omega
    · obtain rfl : k = n := by omega
      obtain ⟨_, _, _, rfl, hp⟩ := ret_grow gr low3
      have O := Lib.hid hp
      clear hp gr
      go_wp2_with fail
      go_ret
      rw [E.out]
      exact O.out
end Go.Proofs.Ytfpcjgolcbjnjaa

/- Circuit builders: products of words, the program's. No condition. -/
import Derived.Laws.CopyOwn
import Derived.Test.YtjfmcdfgccdmpaaGreatProg
import Derived.Test.YtjfmcdfgccdmpaaGreatW2
import Derived.Test.YtjfmcdfgccdmpaaGreatW1
namespace Go.Proofs.YtjfmcdfgccdmpaaGreat
open Go Go.RowKit
theorem setRow_grown (w : World) (b : Nat) (cs : Array Value) : w.grownBy (w.setRow b cs) (some b) := ⟨rfl, rfl, rfl, by simp, fun k _ hk => setRow_other w b k cs (fun e => hk (by rw [e]))⟩
/-- The end of the list is copied over. -/
theorem Bl.copied {B g n k b c off : Nat} {w wr : World} {v v' : Value} {v1 : Rest} {z us : List Int} {cur : Array Value} {e : TypeId} (h : Bl B g v w wr v' v1 n z (.slice (some ⟨b, 0, none⟩) k c) k us) (hb : wr.heap[b]? = some (.cells cur e (0, 0))) (ys : List Int) (hl : off + ys.length = k) :
    Bl B g v w (wr.setRow b (cur.toList.take off ++ (intVals ys ++ cur.toList.drop (off + (intVals ys).length))).toArray) v' v1 n z (.slice (some ⟨b, 0, none⟩) k c) k (us.take off ++ ys) := by
  have hg := setRow_grown wr b (cur.toList.take off ++ (intVals ys ++ cur.toList.drop (off + (intVals ys).length))).toArray
  refine ⟨h.cir.grown (u := .slice (some ⟨b, 0, none⟩) k c) hg h.wl.ne h.wl.ap, h.turn.grown (u := .slice (some ⟨b, 0, none⟩) k c) hg (h.wl.from_ (Nat.le_refl _)), ?_, h.wl.ne, h.wl.ap⟩
  have hlu := h.wl.len
  rcases h.wl.own.2 with ⟨e9, _⟩ | ⟨b', cap, cur', e9, hbb, hh, hnc, hcm, hcs, ht⟩
  · exact absurd e9 (by simp)
  · have e2 : b = b' ∧ c = cap := by simpa using e9
    obtain ⟨rfl, rfl⟩ := e2
    rw [hb] at hh
    injection hh with hh
    injection hh with h1 h2
    subst h1 h2
    rw [Nat.mul_one] at ht hcs
    refine ⟨by rw [intVals_length, List.length_append, List.length_take]; omega, .inr ⟨b, c, _, rfl, hbb, setRow_heap wr b cur _ _ (0, 0) hb, hnc, hcm, ?_, ?_⟩⟩
    · simp only [List.size_toArray, List.length_append, List.length_take, List.length_drop, Array.length_toList, intVals_length]
      omega
    · rw [Nat.mul_one]
      have hoff : off ≤ k := by omega
      have e3 : cur.toList.take off = intVals (us.take off) := by
        have : cur.toList.take off = (cur.toList.take k).take off := by rw [List.take_take, Nat.min_eq_left hoff]
        rw [this, ht]
        simp [intVals, List.map_take]
      have l3 : (intVals (us.take off)).length = off := by rw [intVals_length, List.length_take]; omega
      show List.take k (cur.toList.take off ++ (intVals ys ++ cur.toList.drop (off + (intVals ys).length))) = intVals (us.take off ++ ys)
      rw [e3, ← List.append_assoc, List.take_append_of_le_length (by rw [List.length_append, l3, intVals_length]; omega), List.take_of_length_le (by rw [List.length_append, l3, intVals_length]; omega)]
      simp [intVals]
theorem prodAt_take (z : List Int) (b : Int) (us : List Int) (m : Nat) : ∀ k, k ≤ m → prodAt z b (us.take m) k = prodAt z b us k := by
  intro k
  induction k with
  | zero => exact fun _ => rfl
  | succ k ih => intro h; rw [prodAt, prodAt, ih (by omega), take_getD (by omega)]
theorem addA_length (z us bs : List Int) (c : Int) (m : Nat) : (addA z us bs c m).2.length = m + 1 := by simp [addA, faAt_length]
theorem mulAt_next (z us bs : List Int) (i : Nat) : mulAt z us bs (i + 1) = ((addA (putG (prodAt (mulAt z us bs i).1 (bs.getD (i + 1) 0) us (4 - (i + 1))).1 2 0 0) ((mulAt z us bs i).2.drop (i + 1)) (prodAt (mulAt z us bs i).1 (bs.getD (i + 1) 0) us (4 - (i + 1))).2 (nG (prodAt (mulAt z us bs i).1 (bs.getD (i + 1) 0) us (4 - (i + 1))).1) (3 - (i + 1))).1, (mulAt z us bs i).2.take (i + 1) ++ (addA (putG (prodAt (mulAt z us bs i).1 (bs.getD (i + 1) 0) us (4 - (i + 1))).1 2 0 0) ((mulAt z us bs i).2.drop (i + 1)) (prodAt (mulAt z us bs i).1 (bs.getD (i + 1) 0) us (4 - (i + 1))).2 (nG (prodAt (mulAt z us bs i).1 (bs.getD (i + 1) 0) us (4 - (i + 1))).1) (3 - (i + 1))).2) := by
  rw [mulAt]
  simp only [sumA_add]
theorem mulAt_length (z us bs : List Int) (i : Nat) (h : i ≤ 3) : (mulAt z us bs i).2.length = 4 := by
  induction i with
  | zero => exact prodAt_length _ _ _ _
  | succ i ih => rw [mulAt_next]; simp only [List.length_append, List.length_take, addA_length, ih (by omega)]; omega
/-- A list in memory, as copy reads it. -/
theorem Off.news {g : Nat} {v : Value} {w : World} {A : Option Addr} {us : List Int} (h : Off g v w A us) (h0 : 0 < us.length) : ∃ ad : Addr, A = some ad ∧ ∀ j u, (intVals us)[j]? = some u → w.cell? (ad.add j) = some u := by
  obtain ⟨b, o, e, _, hc⟩ := h h0
  refine ⟨_, e, fun j u hu => ?_⟩
  have hj : j < us.length := by
    rcases Nat.lt_or_ge j us.length with h | h
    · exact h
    · rw [List.getElem?_eq_none (by rw [intVals_length]; exact h)] at hu; cases hu
  have hadd : (⟨b, o, none⟩ : Addr).add j = ⟨b, o + j, none⟩ := by
    rcases Nat.eq_zero_or_pos j with h | h
    · subst h; simp [Addr.add]
    · simp [Addr.add, Nat.ne_of_gt h]
  rw [hadd, hc j hj, ← hu]
  simp [intVals, List.getElem?_map, List.getD_eq_getElem?_getD, List.getElem?_eq_getElem hj]
theorem Bl.row {B g n k b c : Nat} {w wr : World} {v v' : Value} {v1 : Rest} {z us : List Int} (h : Bl B g v w wr v' v1 n z (.slice (some ⟨b, 0, none⟩) k c) k us) : ∃ cur e, wr.heap[b]? = some (.cells cur e (0, 0)) ∧ k ≤ cur.size := by
  rcases h.wl.own.2 with ⟨e9, _⟩ | ⟨b', cap, cur', e9, hbb, hh, hnc, hcm, hcs, ht⟩
  · exact absurd e9 (by simp)
  · have e2 : b = b' ∧ c = cap := by simpa using e9
    obtain ⟨rfl, rfl⟩ := e2
    exact ⟨_, _, hh, by omega⟩
set_option maxRecDepth 100000 in
set_option maxHeartbeats 4000000 in
theorem impl_product (B g n : Nat) (v : Value) (v1 : Rest) (z : List Int) (A : Option Addr) (c : Nat) (us : List Int) (A' : Option Addr) (c' : Nat) (ws : List Int) (w : World) (h : Cir B g w v v1 n z) (hB : B ≤ w.heap.size) (ho : Off g v w A us) (lu : us.length = 4) (hc : 4 ≤ c) (ho' : Off g v w A' ws) (lw : ws.length = 4) (hn : n ≤ 970000) :
    Calls Tryz.prog 77 #[.pointer (some ⟨g, 0, none⟩), .slice A 4 c, .slice A' 4 c'] w (PutL B g v1 (n + mulN 3) (mulAt z us ws 3).1 (mulAt z us ws 3).2 v w) := by
  obtain ⟨b', o', rfl, q0⟩ := ho'.at_ (j := 0) (by omega)
  rw [Nat.add_zero] at q0
  have c0 := impl_andEach B g n v v1 z (ws.getD 0 0) A 4 c us w h hB ho lu (by omega) (by omega)
  rw [show prodAt z (ws.getD 0 0) us 4 = mulAt z us ws 0 from rfl] at c0
  generalize ws.getD 0 0 = y0 at *
  have LU := Lib.hid lu
  have LW := Lib.hid lw
  go_enter Tryz.func77, Tryz.ntmps77
  go_wp2_with fail
  refine c0.mono ?_
  rintro e w1 ⟨u1, A1, k1, d1, rfl, l1, h1, t1, wl1⟩
  have hX := mulAt_length z us ws 0 (by omega)
  obtain rfl : k1 = 4 := by omega
  obtain ⟨b1, rfl, _⟩ := own_addr wl1.own (by omega)
  have S0 := Lib.hid (show Bl B g v w w1 u1 v1 (n + mulN 0) (mulAt z us ws 0).1 (.slice (some ⟨b1, 0, none⟩) 4 d1) 4 (mulAt z us ws 0).2 from ⟨h1, t1, wl1⟩)
  have hcap := wl1.cap
  clear hX l1 h1 t1 wl1 c0 q0 h lu lw
  go_wp2_with fail
  go_loopw [8] (fun i wr => ∃ (k : Nat) (v' : Value), k ≤ 3 ∧ i = .int .i64 ((k + 1 : Nat) : Int) ∧ Bl B g v w wr v' v1 (n + mulN k) (mulAt z us ws k).1 (.slice (some ⟨b1, 0, none⟩) 4 d1) 4 (mulAt z us ws k).2) (fun i _ => 4 - (intOf i).toNat)
  case atStart => exact ⟨0, u1, by omega, rfl, S0.out⟩
  case round =>
    obtain ⟨k, v', hk, rfl, hs⟩ := hrel
    clear S0
    have B1 := Nat.le_trans hB hs.size
    have hX := mulAt_length z us ws k hk
    have o1 := ho.turn hs.turn
    have o2 := ho'.turn hs.turn
    have HN := Lib.hid (mulAt_next z us ws k)
    clear ho ho'
    rcases (show k = 0 ∨ k = 1 ∨ k = 2 ∨ k = 3 by omega) with rfl | rfl | rfl | rfl
    · simp only [Nat.reduceAdd, Nat.reduceSub] at HN ⊢
      obtain ⟨_, _, e1, q0⟩ := o2.at_ (j := 1) (by rw [LW.out]; omega)
      injection e1 with e1; injection e1 with e11 e12; subst e11 e12
      have hsd := hs.drew
      have B2 : B ≤ wr.drew.heap.size := B1
      have c1 := fun y => impl_andEach B g (n + mulN 0) v' v1 (mulAt z us ws 0).1 y A 3 c (us.take 3) wr.drew hsd.cir B2 (o1.drew.cut 3) (by rw [List.length_take, LU.out]; omega) (by omega) (by simp only [mulN]; omega)
      simp only [prodAt_take _ _ us 3 3 (Nat.le_refl _)] at c1
      have lp := prodAt_length (mulAt z us ws 0).1 (ws.getD 1 0) us 3
      generalize ws.getD 1 0 = y at *
      replace c1 := c1 y
      generalize mulAt z us ws 0 = R at *
      generalize prodAt R.1 y us 3 = Q at *
      have x1 : ((3 : Nat) : Int) ≤ (c : Int) := by omega
      have x2 : (1 : Int) ≤ (d1 : Int) := by omega
      have x3 : ¬ d1 - 1 = 0 := by omega
      have x4 : ¬ d1 = 1 := by omega
      have x5 : (3 : Int) ≤ (c : Int) := by omega
      have xw : IntKind.i64.wrap 3 = 3 := by rw [IntKind.wrap_i64]; rfl
      go_upto_region 5 with (fail)
      go_region_law (go_simp; go_at_call 89; (with_reducible refine c1.mono ?_); rintro e w2 ⟨v2, A2, k2, d2, rfl, l2, h2, t2, wl2⟩)
      all_goals
        obtain rfl : k2 = 3 := by omega
        have hs2 := (hsd.next h2 t2).drew
        have B3 : B ≤ w2.drew.heap.size := Nat.le_trans B2 t2.size
        have ol := wl2.drew
        have o12 := (o1.drew.turn t2).drew
        have o22 := (o2.drew.turn t2).drew
        have hcap2 := wl2.cap
        have c2 := impl_constant B g (n + mulN 0 + 3) v2 v1 Q.1 0
        have C3 := Lib.hid (fun u W (H : Cir B g W u v1 (n + mulN 0 + 3 + 1) (putG Q.1 2 0 0)) HB K1 K2 => impl_addFrom B g (n + mulN 0 + 3 + 1) u v1 (putG Q.1 2 0 0) (some ⟨b1, 1, none⟩) 2 (d1 - 1) (R.2.drop 1) A2 d2 Q.2 (nG Q.1) W H HB K1 (by rw [List.length_drop, hX]) (by omega) K2 lp hcap2 (by omega) (by simp only [mulN]; omega))
        clear h2 t2 wl2 c1 q0 hsd o1 o2 l2
        go_upto_region 6 with (fail)
        go_region_law (first
          | (go_simp; go_at_call 56; (with_reducible refine (c2 _ hs2.cir B3 (by simp only [mulN]; omega)).mono ?_); rintro e w3 ⟨v3, rfl, h3, t3⟩; (have hs3 := hs2.next h3 t3); (have B4 := Nat.le_trans B3 t3.size); (have ol3 := (ol.turn t3).off); (have os3 : Off g v3 w3 (some ⟨b1, 1, none⟩) (R.2.drop 1) := by have hh := hs3.wl.off.skip 1; rwa [Nat.zero_add] at hh))
          | (go_simp; go_at_call 87; (with_reducible refine (C3.out v3 _ hs3.cir B4 os3 ol3).mono ?_); rintro e w4 ⟨v4, A4, k4, d4, rfl, l4, h4, t4, wl4⟩))
        all_goals
          have hs4 := hs3.next h4 t4
          have la := addA_length (putG Q.1 2 0 0) (R.2.drop 1) Q.2 (nG Q.1) 2
          obtain rfl : k4 = 3 := by omega
          have o14 := ((o12.turn t3).turn t4)
          have o24 := ((o22.turn t3).turn t4)
          obtain ⟨cur, te, hrow, hsz⟩ := hs4.row
          obtain ⟨ad, rfl, hnew⟩ := wl4.off.news (by omega)
          have B5 := Nat.le_trans B4 t4.size
          generalize addA (putG Q.1 2 0 0) (R.2.drop 1) Q.2 (nG Q.1) 2 = U at *
          have S4 := Lib.hid (hs4.copied (off := 1) hrow U.2 (by omega))
          have LL := Lib.hid (show (intVals U.2).length = 3 by rw [intVals_length, la])
          clear h3 t3 h4 t4 wl4 hs2 hs3 hs4 c2 C3 ol ol3 os3 o12 o22
          go_upto_region 7 with (fail)
          go_wp2_with (first | (refine wpList_copy_own rfl _ _ 29 29 rfl 3 Tryz.underlying29 (by kernel_rfl) b1 1 3 (d1 - 1) ad 3 d4 rfl rfl cur te hrow (intVals U.2) (by rw [LL.out]; rfl) hnew (by rw [LL.out]; omega) (oneCell_i64 U.2) ?_))
          generalize hw5 : w4.setRow b1 _ = w5 at *
          clear hw5 hrow hnew
          go_wp2_with fail
          go_roundw
          case rel => exact ⟨1, v4, by omega, by go_num, by rw [HN.out, show n + mulN 1 = n + mulN 0 + 3 + 1 + 5 * 2 + 2 by simp only [mulN]]; exact S4.out⟩
          case measure => simp [intOf]
    · simp only [Nat.reduceAdd, Nat.reduceSub] at HN ⊢
      obtain ⟨_, _, e1, q0⟩ := o2.at_ (j := 2) (by rw [LW.out]; omega)
      injection e1 with e1; injection e1 with e11 e12; subst e11 e12
      have hsd := hs.drew
      have B2 : B ≤ wr.drew.heap.size := B1
      have c1 := fun y => impl_andEach B g (n + mulN 1) v' v1 (mulAt z us ws 1).1 y A 2 c (us.take 2) wr.drew hsd.cir B2 (o1.drew.cut 2) (by rw [List.length_take, LU.out]; omega) (by omega) (by simp only [mulN]; omega)
      simp only [prodAt_take _ _ us 2 2 (Nat.le_refl _)] at c1
      have lp := prodAt_length (mulAt z us ws 1).1 (ws.getD 2 0) us 2
      generalize ws.getD 2 0 = y at *
      replace c1 := c1 y
      generalize mulAt z us ws 1 = R at *
      generalize prodAt R.1 y us 2 = Q at *
      have x1 : ((2 : Nat) : Int) ≤ (c : Int) := by omega
      have x2 : (2 : Int) ≤ (d1 : Int) := by omega
      have x3 : ¬ d1 - 2 = 0 := by omega
      have x4 : ¬ d1 = 2 := by omega
      have x5 : (2 : Int) ≤ (c : Int) := by omega
      have xw : IntKind.i64.wrap 2 = 2 := by rw [IntKind.wrap_i64]; rfl
      go_upto_region 5 with (fail)
      go_region_law (go_simp; go_at_call 89; (with_reducible refine c1.mono ?_); rintro e w2 ⟨v2, A2, k2, d2, rfl, l2, h2, t2, wl2⟩)
      all_goals
        obtain rfl : k2 = 2 := by omega
        have hs2 := (hsd.next h2 t2).drew
        have B3 : B ≤ w2.drew.heap.size := Nat.le_trans B2 t2.size
        have ol := wl2.drew
        have o12 := (o1.drew.turn t2).drew
        have o22 := (o2.drew.turn t2).drew
        have hcap2 := wl2.cap
        have c2 := impl_constant B g (n + mulN 1 + 2) v2 v1 Q.1 0
        have C3 := Lib.hid (fun u W (H : Cir B g W u v1 (n + mulN 1 + 2 + 1) (putG Q.1 2 0 0)) HB K1 K2 => impl_addFrom B g (n + mulN 1 + 2 + 1) u v1 (putG Q.1 2 0 0) (some ⟨b1, 2, none⟩) 1 (d1 - 2) (R.2.drop 2) A2 d2 Q.2 (nG Q.1) W H HB K1 (by rw [List.length_drop, hX]) (by omega) K2 lp hcap2 (by omega) (by simp only [mulN]; omega))
        clear h2 t2 wl2 c1 q0 hsd o1 o2 l2
        go_upto_region 6 with (fail)
        go_region_law (first
          | (go_simp; go_at_call 56; (with_reducible refine (c2 _ hs2.cir B3 (by simp only [mulN]; omega)).mono ?_); rintro e w3 ⟨v3, rfl, h3, t3⟩; (have hs3 := hs2.next h3 t3); (have B4 := Nat.le_trans B3 t3.size); (have ol3 := (ol.turn t3).off); (have os3 : Off g v3 w3 (some ⟨b1, 2, none⟩) (R.2.drop 2) := by have hh := hs3.wl.off.skip 2; rwa [Nat.zero_add] at hh))
          | (go_simp; go_at_call 87; (with_reducible refine (C3.out v3 _ hs3.cir B4 os3 ol3).mono ?_); rintro e w4 ⟨v4, A4, k4, d4, rfl, l4, h4, t4, wl4⟩))
        all_goals
          have hs4 := hs3.next h4 t4
          have la := addA_length (putG Q.1 2 0 0) (R.2.drop 2) Q.2 (nG Q.1) 1
          obtain rfl : k4 = 2 := by omega
          have o14 := ((o12.turn t3).turn t4)
          have o24 := ((o22.turn t3).turn t4)
          obtain ⟨cur, te, hrow, hsz⟩ := hs4.row
          obtain ⟨ad, rfl, hnew⟩ := wl4.off.news (by omega)
          have B5 := Nat.le_trans B4 t4.size
          generalize addA (putG Q.1 2 0 0) (R.2.drop 2) Q.2 (nG Q.1) 1 = U at *
          have S4 := Lib.hid (hs4.copied (off := 2) hrow U.2 (by omega))
          have LL := Lib.hid (show (intVals U.2).length = 2 by rw [intVals_length, la])
          clear h3 t3 h4 t4 wl4 hs2 hs3 hs4 c2 C3 ol ol3 os3 o12 o22
          go_upto_region 7 with (fail)
          go_wp2_with (first | (refine wpList_copy_own rfl _ _ 29 29 rfl 3 Tryz.underlying29 (by kernel_rfl) b1 2 2 (d1 - 2) ad 2 d4 rfl rfl cur te hrow (intVals U.2) (by rw [LL.out]; rfl) hnew (by rw [LL.out]; omega) (oneCell_i64 U.2) ?_))
          generalize hw5 : w4.setRow b1 _ = w5 at *
          clear hw5 hrow hnew
          go_wp2_with fail
          go_roundw
          case rel => exact ⟨2, v4, by omega, by go_num, by rw [HN.out, show n + mulN 2 = n + mulN 1 + 2 + 1 + 5 * 1 + 2 by simp only [mulN]]; exact S4.out⟩
          case measure => simp [intOf]
    · simp only [Nat.reduceAdd, Nat.reduceSub] at HN ⊢
      obtain ⟨_, _, e1, q0⟩ := o2.at_ (j := 3) (by rw [LW.out]; omega)
      injection e1 with e1; injection e1 with e11 e12; subst e11 e12
      have hsd := hs.drew
      have B2 : B ≤ wr.drew.heap.size := B1
      have c1 := fun y => impl_andEach B g (n + mulN 2) v' v1 (mulAt z us ws 2).1 y A 1 c (us.take 1) wr.drew hsd.cir B2 (o1.drew.cut 1) (by rw [List.length_take, LU.out]; omega) (by omega) (by simp only [mulN]; omega)
      simp only [prodAt_take _ _ us 1 1 (Nat.le_refl _)] at c1
      have lp := prodAt_length (mulAt z us ws 2).1 (ws.getD 3 0) us 1
      generalize ws.getD 3 0 = y at *
      replace c1 := c1 y
      generalize mulAt z us ws 2 = R at *
      generalize prodAt R.1 y us 1 = Q at *
      have x1 : ((1 : Nat) : Int) ≤ (c : Int) := by omega
      have x2 : (3 : Int) ≤ (d1 : Int) := by omega
      have x3 : ¬ d1 - 3 = 0 := by omega
      have x4 : ¬ d1 = 3 := by omega
      have x5 : (1 : Int) ≤ (c : Int) := by omega
      have xw : IntKind.i64.wrap 1 = 1 := by rw [IntKind.wrap_i64]; rfl
      go_upto_region 5 with (fail)
      go_region_law (go_simp; go_at_call 89; (with_reducible refine c1.mono ?_); rintro e w2 ⟨v2, A2, k2, d2, rfl, l2, h2, t2, wl2⟩)
      all_goals
        obtain rfl : k2 = 1 := by omega
        have hs2 := (hsd.next h2 t2).drew
        have B3 : B ≤ w2.drew.heap.size := Nat.le_trans B2 t2.size
        have ol := wl2.drew
        have o12 := (o1.drew.turn t2).drew
        have o22 := (o2.drew.turn t2).drew
        have hcap2 := wl2.cap
        have c2 := impl_constant B g (n + mulN 2 + 1) v2 v1 Q.1 0
        have C3 := Lib.hid (fun u W (H : Cir B g W u v1 (n + mulN 2 + 1 + 1) (putG Q.1 2 0 0)) HB K1 K2 => impl_addFrom B g (n + mulN 2 + 1 + 1) u v1 (putG Q.1 2 0 0) (some ⟨b1, 3, none⟩) 0 (d1 - 3) (R.2.drop 3) A2 d2 Q.2 (nG Q.1) W H HB K1 (by rw [List.length_drop, hX]) (by omega) K2 lp hcap2 (by omega) (by simp only [mulN]; omega))
        clear h2 t2 wl2 c1 q0 hsd o1 o2 l2
        go_upto_region 6 with (fail)
        go_region_law (first
          | (go_simp; go_at_call 56; (with_reducible refine (c2 _ hs2.cir B3 (by simp only [mulN]; omega)).mono ?_); rintro e w3 ⟨v3, rfl, h3, t3⟩; (have hs3 := hs2.next h3 t3); (have B4 := Nat.le_trans B3 t3.size); (have ol3 := (ol.turn t3).off); (have os3 : Off g v3 w3 (some ⟨b1, 3, none⟩) (R.2.drop 3) := by have hh := hs3.wl.off.skip 3; rwa [Nat.zero_add] at hh))
          | (go_simp; go_at_call 87; (with_reducible refine (C3.out v3 _ hs3.cir B4 os3 ol3).mono ?_); rintro e w4 ⟨v4, A4, k4, d4, rfl, l4, h4, t4, wl4⟩))
        all_goals
          have hs4 := hs3.next h4 t4
          have la := addA_length (putG Q.1 2 0 0) (R.2.drop 3) Q.2 (nG Q.1) 0
          obtain rfl : k4 = 1 := by omega
          have o14 := ((o12.turn t3).turn t4)
          have o24 := ((o22.turn t3).turn t4)
          obtain ⟨cur, te, hrow, hsz⟩ := hs4.row
          obtain ⟨ad, rfl, hnew⟩ := wl4.off.news (by omega)
          have B5 := Nat.le_trans B4 t4.size
          generalize addA (putG Q.1 2 0 0) (R.2.drop 3) Q.2 (nG Q.1) 0 = U at *
          have S4 := Lib.hid (hs4.copied (off := 3) hrow U.2 (by omega))
          have LL := Lib.hid (show (intVals U.2).length = 1 by rw [intVals_length, la])
          clear h3 t3 h4 t4 wl4 hs2 hs3 hs4 c2 C3 ol ol3 os3 o12 o22
          go_upto_region 7 with (fail)
          go_wp2_with (first | (refine wpList_copy_own rfl _ _ 29 29 rfl 3 Tryz.underlying29 (by kernel_rfl) b1 3 1 (d1 - 3) ad 1 d4 rfl rfl cur te hrow (intVals U.2) (by rw [LL.out]; rfl) hnew (by rw [LL.out]; omega) (oneCell_i64 U.2) ?_))
          generalize hw5 : w4.setRow b1 _ = w5 at *
          clear hw5 hrow hnew
          go_wp2_with fail
          go_roundw
          case rel => exact ⟨3, v4, by omega, by go_num, by rw [HN.out, show n + mulN 3 = n + mulN 2 + 1 + 1 + 5 * 0 + 2 by simp only [mulN]]; exact S4.out⟩
          case measure => simp [intOf]
    · have H := Lib.hid hs
      clear hs o1 o2
      go_wp2_with fail
      go_ret
      exact ⟨v', _, 4, d1, rfl, hX, H.out.cir, H.out.turn, H.out.wl⟩
end Go.Proofs.YtjfmcdfgccdmpaaGreat

/- Polynomial shares: the program's test of points, its weights and its opening. -/
import Derived.Test.YtcjgoonkdjaccaaProg
import Derived.Test.YtcjgoonkdjaccaaPolyS
import Derived.Test.YtcjgoonkdjaccaaPolyF
import Derived.Test.YtcjgoonkdjaccaaFieldC
import Derived.Test.YtcjgoonkdjaccaaShare
namespace Go.Proofs.Ytcjgoonkdjaccaa
open Go Go.RowKit
theorem Ints.cut {w : World} {A : Option Addr} {zs : List Int} (h : Ints w A zs) (m : Nat) : Ints w A (zs.take m) := fun h0 => by
  rw [List.length_take] at h0
  obtain ⟨b, o, e, hl, hc⟩ := h (by omega)
  refine ⟨b, o, e, hl, fun j hj => ?_⟩
  rw [List.length_take] at hj
  rw [take_at (by omega)]
  exact hc j (by omega)
theorem impl_Index (A : Option Addr) (n c : Nat) (zs : List Int) (x : Int) (w : World) (hz : Ints w A zs) (hl : zs.length = n) (hn : n ≤ 2000000) :
    Calls Try.prog 93 #[.slice A n c, .int .i64 x] w fun e w' => ∃ r : Int, e = .returned (.int .i64 r) ∧ (0 ≤ r ↔ x ∈ zs) ∧ w = w' := by
  have Hl := Lib.hid hl
  clear hl
  go_enter Try.func93, Try.ntmps93
  go_wp2_with fail
  go_loop [8] (fun i => ∃ k : Nat, k ≤ n ∧ i = .int .i64 k ∧ Hid (∀ j, j < k → zs.getD j 0 ≠ x)) (fun i => n - (intOf i).toNat)
  case atStart => exact ⟨0, Nat.zero_le _, rfl, fun _ h => by omega⟩
  case round =>
    obtain ⟨k, hk, rfl, hne⟩ := hrel
    by_cases hlt : k < n
    · obtain ⟨b, o, rfl, _, c0⟩ := hz.at_ (j := k) (by rw [Hl.out]; exact hlt)
      have Hyes : Hid (zs.getD k 0 = x → x ∈ zs) := fun e => (by
        rw [← e, List.getD_eq_getElem?_getD, List.getElem?_eq_getElem (by rw [Hl.out]; exact hlt)]
        exact List.getElem_mem _)
      have Hnx : Hid (zs.getD k 0 ≠ x → ∀ j, j < k + 1 → zs.getD j 0 ≠ x) := fun e j hj => by
        rcases Nat.lt_or_ge j k with h | h
        · exact hne.out j h
        · obtain rfl : j = k := by omega
          exact e
      generalize zs.getD k 0 = y at c0 Hyes Hnx
      have k0 : (0 : Int) ≤ k := by omega
      have k1 : (k : Int) < n := by omega
      clear hz
      by_cases hxy : y = x
      · subst hxy
        go_wp2_with fail
        go_ret
        exact ⟨_, rfl, ⟨fun _ => Hyes.out (by simp), fun _ => k0⟩, rfl⟩
      · have hb : (x == y) = false := beq_eq_false_iff_ne.2 (fun e => hxy e.symm)
        go_wp2_with fail
        go_round
        case rel => exact ⟨k + 1, by omega, by go_num, Hnx.out hxy⟩
        case measure => simp [intOf]; omega
    · obtain rfl : k = n := by omega
      have Hno : Hid (¬ x ∈ zs) := (fun h => by
        obtain ⟨j, hj, rfl⟩ := List.mem_iff_getElem.1 h
        have := hne.out j (by rw [← Hl.out]; exact hj)
        rw [List.getD_eq_getElem?_getD, List.getElem?_eq_getElem hj] at this
        exact this rfl)
      go_wp2_with fail
      go_ret
      exact ⟨_, rfl, ⟨fun h => by omega, fun h => absurd h Hno.out⟩, rfl⟩
theorem impl_Contains (A : Option Addr) (n c : Nat) (zs : List Int) (x : Int) (r : Bool) (hr : decide (x ∈ zs) = r) (w : World) (hz : Ints w A zs) (hl : zs.length = n) (hn : n ≤ 2000000) :
    Calls Try.prog 70 #[.slice A n c, .int .i64 x] w fun e w' => e = .returned (.bool r) ∧ w = w' := by
  go_enter Try.func70, Try.ntmps70
  go_wp2_with fail
  refine (impl_Index A n c zs x w hz hl hn).mono ?_
  rintro e w1 ⟨q, rfl, hq, rfl⟩
  have hd : decide (0 ≤ q) = r := by rw [← hr]; exact decide_eq_decide.2 hq
  have Hd := Lib.hid hd
  clear hq hd
  go_wp2_with fail
  go_ret
  exact ⟨ret_bool Hd.out, rfl⟩
theorem mem_take {pts : List Int} {i : Nat} (hi : i < pts.length) : pts.getD i 0 ∈ pts.take i ↔ ¬ ptIn pts i i := by
  constructor
  · intro h hn
    obtain ⟨j, hj, e⟩ := List.mem_iff_getElem.1 h
    rw [List.length_take] at hj
    refine hn j (by omega) ?_
    rw [← e, ← take_at (l := pts) (m := i) (by omega), List.getD_eq_getElem?_getD, List.getElem?_eq_getElem (by rw [List.length_take]; omega)]
    rfl
  · intro h
    rcases Decidable.em (pts.getD i 0 ∈ pts.take i) with hm | hm
    · exact hm
    · refine absurd (fun j hj e => hm ?_) h
      rw [← e, ← take_at (l := pts) (m := i) hj, List.getD_eq_getElem?_getD, List.getElem?_eq_getElem (by rw [List.length_take]; omega)]
      exact List.getElem_mem _
set_option maxRecDepth 100000 in
set_option maxHeartbeats 1000000 in
theorem impl_pointsOk (p : Int) (A : Option Addr) (n c : Nat) (pts : List Int) (r : Bool) (hr : decide (ptOk pts ∧ allEl p pts) = r) (w : World) (hx : Ints w A pts) (lx : pts.length = n) (mx : n ≤ 2000000) (hcn : n ≤ c) :
    Calls Try.prog 39 #[.int .i64 p, .slice A n c] w fun e w' => e = .returned (.bool r) ∧ Below w.heap.size w w' := by
  have Hr := Lib.hid hr
  clear hr
  have Hl := Lib.hid lx
  have hc0 : (n : Int) ≤ c := by omega
  clear lx
  go_enter Try.func39, Try.ntmps39
  go_wp2_with fail
  go_loop [9] (fun i => ∃ k : Nat, k ≤ n ∧ i = .int .i64 k ∧ Hid (ptTo pts k)) (fun i => n - (intOf i).toNat)
  case atStart => exact ⟨0, Nat.zero_le _, rfl, ⟨fun _ _ _ h => by omega, fun _ h => by omega⟩⟩
  case round =>
    obtain ⟨k, hk, rfl, ht⟩ := hrel
    by_cases hlt : k < n
    · obtain ⟨b, o, rfl, _, c0⟩ := hx.at_ (j := k) (by rw [Hl.out]; exact hlt)
      have hcut := hx.cut k
      have Hlt := Lib.hid (show (pts.take k).length = k by rw [List.length_take, Hl.out]; omega)
      have Hz : Hid (pts.getD k 0 = 0 → r = false) := fun e => by rw [← Hr.out]; exact decide_eq_false (fun h => ptTo_no (by rw [Hl.out]; exact hlt) e h.1)
      have hmt := mem_take (pts := pts) (i := k) (by rw [Hl.out]; exact hlt)
      have Hno : Hid (pts.getD k 0 ∈ pts.take k → r = false) := fun e => by rw [← Hr.out]; exact decide_eq_false (fun h => hmt.1 e (fun a ha => h.1.1 a k ha (by rw [Hl.out]; exact hlt)))
      have Hnx : Hid (¬ pts.getD k 0 ∈ pts.take k → pts.getD k 0 ≠ 0 → ptTo pts (k + 1)) := fun e e0 => ptTo_next ht.out (Classical.byContradiction fun h => e (hmt.2 h)) e0
      clear hmt ht
      obtain ⟨zs, hzs⟩ : ∃ zs, pts.take k = zs := ⟨_, rfl⟩
      rw [hzs] at hcut Hlt Hno Hnx
      generalize pts.getD k 0 = y at c0 Hz Hno Hnx
      have k0 : (0 : Int) ≤ k := by omega
      have k1 : (k : Int) < n := by omega
      have k2 : (k : Int) ≤ c := by omega
      clear hx hzs
      by_cases hy0 : y = 0
      · have Hz' := Lib.hid (Hz.out hy0)
        subst hy0
        clear Hz Hno Hnx
        go_wp2_with fail
        go_ret
        exact ⟨ret_bool Hz'.out.symm, Below.refl _ _⟩
      · by_cases hm : y ∈ zs
        · have Hn := Lib.hid (Hno.out hm)
          have Hd := Lib.hid (decide_eq_true hm)
          clear Hz Hno Hnx hm
          go_wp2_with fail
          refine (impl_Contains _ k _ zs y true Hd.out w hcut Hlt.out (by omega)).mono ?_
          rintro e w1 ⟨rfl, rfl⟩
          go_wp2_with fail
          go_ret
          exact ⟨ret_bool Hn.out.symm, Below.refl _ _⟩
        · have Hn := Lib.hid (Hnx.out hm hy0)
          have Hd := Lib.hid (decide_eq_false hm)
          clear Hz Hno Hnx hm
          go_wp2_with fail
          refine (impl_Contains _ k _ zs y false Hd.out w hcut Hlt.out (by omega)).mono ?_
          rintro e w1 ⟨rfl, rfl⟩
          go_wp2_with fail
          go_round
          case rel => exact ⟨k + 1, by omega, by go_num, Hn.out⟩
          case measure => simp [intOf]; omega
    · obtain rfl : k = n := by omega
      have hok : ptOk pts := ptTo_all (by rw [Hl.out]; exact ht.out)
      have Hd := Lib.hid (show decide (allEl p pts) = r by rw [← Hr.out]; exact decide_eq_decide.2 ⟨fun h => ⟨hok, h⟩, fun h => h.2⟩)
      clear hok ht
      go_wp2_with fail
      refine (impl_allElements p A k c pts _ Hd.out w hx Hl.out (by omega)).mono ?_
      rintro e w1 ⟨rfl, hb⟩
      go_wp2_with fail
      go_ret
      exact ⟨rfl, hb⟩
set_option maxRecDepth 100000 in
set_option maxHeartbeats 1000000 in
theorem impl_weightAtZero (p : Int) (A : Option Addr) (n c : Nat) (pts : List Int) (i : Nat) (r : Int) (hr : wzI p pts i n = r) (w : World) (hx : Ints w A pts) (lx : pts.length = n) (mx : n ≤ 2000000) (hi : i < n) :
    Calls Try.prog 43 #[.int .i64 p, .slice A n c, .int .i64 i] w fun e w' => e = .returned (.int .i64 r) ∧ Below w.heap.size w w' := by
  subst hr
  have Hl := Lib.hid lx
  clear lx
  have i0 : (0 : Int) ≤ i := by omega
  have i1 : (i : Int) < n := by omega
  obtain ⟨xi, hxi⟩ : ∃ xi, pts.getD i 0 = xi := ⟨_, rfl⟩
  have Hxi := Lib.hid hxi
  clear hxi
  obtain ⟨b, o, rfl, _, _⟩ := hx.at_ (j := i) (by rw [Hl.out]; exact hi)
  go_enter Try.func43, Try.ntmps43
  go_wp2_with fail
  go_loopw [7, 12] (fun v j wr => ∃ k : Nat, k ≤ n ∧ j = .int .i64 k ∧ v = .int .i64 (wzI p pts i k) ∧ Below w.heap.size w wr) (fun _ j _ => n - (intOf j).toNat)
  case atStart => exact ⟨0, Nat.zero_le _, rfl, rfl, Below.refl _ _⟩
  case round =>
    obtain ⟨k, hk, rfl, rfl, hlow⟩ := hrel
    by_cases hlt : k < n
    · obtain ⟨_, _, e1, _, c0⟩ := (hx.bound.below hlow).at_ (j := k) (by rw [Hl.out]; exact hlt)
      injection e1 with e1
      injection e1 with e2 e3
      subst e2 e3
      have k0 : (0 : Int) ≤ k := by omega
      have k1 : (k : Int) < n := by omega
      by_cases hki : k = i
      · subst hki
        have Hw := Lib.hid (wzI_skip p pts k)
        clear hx
        go_wp2_with fail
        go_roundw
        case rel => exact ⟨k + 1, by omega, by go_num, by rw [Hw.out], hlow⟩
        case measure => simp [intOf]; omega
      · have hw := wzI_next p pts i hki
        rw [Hxi.out] at hw
        have Hw := Lib.hid hw
        clear hw
        generalize wzI p pts i k = u at Hw
        generalize pts.getD k 0 = y at c0 Hw
        obtain ⟨_, _, e1, _, c1⟩ := (hx.bound.below hlow).at_ (j := i) (by rw [Hl.out]; exact hi)
        injection e1 with e1
        injection e1 with e2 e3
        subst e2 e3
        rw [Hxi.out] at c1
        have hne : ((k : Int) == (i : Int)) = false := beq_eq_false_iff_ne.2 (by omega)
        clear hx
        go_wp2_with fail
        refine (impl_FSub p y xi wr).mono ?_
        rintro e w1 ⟨rfl, hb⟩
        replace hlow := hlow.trans (hb.mono hlow.size)
        clear hb c0 c1
        go_wp2_with fail
        refine (impl_FInv p _ w1).mono ?_
        rintro e w2 ⟨rfl, hb⟩
        replace hlow := hlow.trans (hb.mono hlow.size)
        clear hb
        go_wp2_with fail
        refine (impl_FMul p _ _ w2).mono ?_
        rintro e w3 ⟨rfl, hb⟩
        replace hlow := hlow.trans (hb.mono hlow.size)
        clear hb
        go_wp2_with fail
        refine (impl_FMul p _ _ w3).mono ?_
        rintro e w4 ⟨rfl, hb⟩
        replace hlow := hlow.trans (hb.mono hlow.size)
        clear hb
        go_wp2_with fail
        go_roundw
        case rel => exact ⟨k + 1, by omega, by go_num, by rw [Hw.out], hlow⟩
        case measure => simp [intOf]; omega
    · obtain rfl : k = n := by omega
      go_wp2_with fail
      go_ret
      exact ⟨rfl, hlow⟩
theorem openP_no {p : Int} {pts vals : List Int} (h : ¬ pointsOk p pts vals) : openP p pts vals = -1 := if_neg h
set_option maxRecDepth 100000 in
set_option maxHeartbeats 1000000 in
theorem impl_OpenPoly (p : Int) (A B : Option Addr) (n m c d : Nat) (pts vals : List Int) (r : Int) (hr : openP p pts vals = r) (w : World) (hx : Ints w A pts) (hy : Ints w B vals) (lx : pts.length = n) (ly : vals.length = m) (mx : n ≤ 2000000) (my : m ≤ 2000000) (hcn : n ≤ c) :
    Calls Try.prog 16 #[.int .i64 p, .slice A n c, .slice B m d] w fun e w' => e = .returned (.int .i64 r) ∧ Below w.heap.size w w' := by
  subst hr
  have LX := Lib.hid lx
  have LY := Lib.hid ly
  by_cases hnm : m = n
  · subst hnm
    by_cases h5 : 1 ≤ (m : Int) ∧ (m : Int) ≤ 5
    · have Hd5 := Lib.hid (decide_eq_true h5)
      by_cases hpt : ptOk pts ∧ allEl p pts
      · have Hdp := Lib.hid (decide_eq_true hpt)
        by_cases hv : allEl p vals
        · have Hdv := Lib.hid (decide_eq_true hv)
          have hok : pointsOk p pts vals := pointsOk_iff.2 ⟨by omega, by omega, hpt.2, hv, hpt.1⟩
          have Ho := Lib.hid (opN_open hok)
          clear hpt hv hok lx ly
          go_enter Try.func16, Try.ntmps16
          go_wp2_with fail
          refine (impl_partiesOk_is (m : Int) true Hd5.out _).mono ?_
          rintro e w1 ⟨rfl, rfl⟩
          go_wp2_with fail
          refine (impl_pointsOk p A m c pts true Hdp.out w hx LX.out mx hcn).mono ?_
          rintro e w1 ⟨rfl, k1⟩
          go_wp2_with fail
          refine (impl_allElements p B m d vals true Hdv.out w1 (hy.below k1) LY.out (by omega)).mono ?_
          rintro e w2 ⟨rfl, hb⟩
          replace k1 := k1.trans (hb.mono k1.size)
          clear hb
          go_wp2_with fail
          go_loopw [7, 33] (fun v j wr => ∃ k : Nat, k ≤ m ∧ j = .int .i64 k ∧ v = .int .i64 (opN p pts vals k) ∧ Below w.heap.size w wr) (fun _ j _ => m - (intOf j).toNat)
          case atStart => exact ⟨0, Nat.zero_le _, rfl, rfl, k1⟩
          case round =>
            obtain ⟨k, hk, rfl, rfl, hlow⟩ := hrel
            clear k1
            by_cases hlt : k < m
            · obtain ⟨b, o, rfl, _, c0⟩ := (hy.bound.below hlow).at_ (j := k) (by rw [LY.out]; exact hlt)
              have k0 : (0 : Int) ≤ k := by omega
              have k1 : (k : Int) < m := by omega
              have ix := (hx.bound.below hlow).ints hlow.size
              have hn : opN p pts vals (k + 1) = faddI p (opN p pts vals k) (fmulI p (vals.getD k 0) (wzI p pts k m)) := by rw [← LX.out]; rfl
              have Hn := Lib.hid hn
              clear hn
              generalize opN p pts vals k = s at Hn
              generalize vals.getD k 0 = v at c0 Hn
              obtain ⟨wz, hwz⟩ : ∃ wz, wzI p pts k m = wz := ⟨_, rfl⟩
              have Hwz := Lib.hid hwz
              rw [hwz] at Hn
              clear hwz
              go_wp2_with fail
              refine (impl_weightAtZero p A m c pts k wz Hwz.out wr ix LX.out mx hlt).mono ?_
              rintro e w3 ⟨rfl, hb⟩
              replace hlow := hlow.trans (hb.mono hlow.size)
              clear hb c0 ix
              go_wp2_with fail
              refine (impl_FMul p v wz w3).mono ?_
              rintro e w4 ⟨rfl, hb⟩
              replace hlow := hlow.trans (hb.mono hlow.size)
              clear hb
              go_wp2_with fail
              refine (impl_FAdd p s _ w4).mono ?_
              rintro e w5 ⟨rfl, hb⟩
              replace hlow := hlow.trans (hb.mono hlow.size)
              clear hb
              go_wp2_with fail
              go_roundw
              case rel => exact ⟨k + 1, by omega, by go_num, by rw [Hn.out], hlow⟩
              case measure => simp [intOf]; omega
            · obtain rfl : k = m := by omega
              have Ho2 := Lib.hid (show opN p pts vals k = openP p pts vals by rw [← Ho.out, LX.out])
              go_wp2_with fail
              go_ret
              exact ⟨ret_int Ho2.out, hlow⟩
        · rw [openP_no (fun e => hv e.2.2.2.1)]
          have Hdv := Lib.hid (decide_eq_false hv)
          clear hpt hv lx ly
          go_enter Try.func16, Try.ntmps16
          go_wp2_with fail
          refine (impl_partiesOk_is (m : Int) true Hd5.out _).mono ?_
          rintro e w1 ⟨rfl, rfl⟩
          go_wp2_with fail
          refine (impl_pointsOk p A m c pts true Hdp.out w hx LX.out mx hcn).mono ?_
          rintro e w1 ⟨rfl, k1⟩
          go_wp2_with fail
          refine (impl_allElements p B m d vals false Hdv.out w1 (hy.below k1) LY.out (by omega)).mono ?_
          rintro e w2 ⟨rfl, hb⟩
          go_wp2_with fail
          go_ret
          exact ⟨rfl, k1.trans (hb.mono k1.size)⟩
      · rw [openP_no (fun e => hpt ⟨(pointsOk_iff.1 e).2.2.2.2, e.2.2.1⟩)]
        have Hdp := Lib.hid (decide_eq_false hpt)
        clear hpt lx ly
        go_enter Try.func16, Try.ntmps16
        go_wp2_with fail
        refine (impl_partiesOk_is (m : Int) true Hd5.out _).mono ?_
        rintro e w1 ⟨rfl, rfl⟩
        go_wp2_with fail
        refine (impl_pointsOk p A m c pts false Hdp.out w hx LX.out mx hcn).mono ?_
        rintro e w1 ⟨rfl, k1⟩
        go_wp2_with fail
        go_ret
        exact ⟨rfl, k1⟩
    · rw [openP_no (fun e => h5 (by have := e.1; rw [lx] at this; omega))]
      have Hd5 := Lib.hid (decide_eq_false h5)
      clear lx ly
      go_enter Try.func16, Try.ntmps16
      go_wp2_with fail
      refine (impl_partiesOk_is (m : Int) false Hd5.out _).mono ?_
      rintro e w1 ⟨rfl, rfl⟩
      go_wp2_with fail
      go_ret
      exact ⟨rfl, Below.refl _ _⟩
  · rw [openP_no (fun e => hnm (by rw [← ly, ← lx, e.2.1]))]
    have hne : ((n : Int) == (m : Int)) = false := beq_eq_false_iff_ne.2 (by omega)
    clear lx ly
    go_enter Try.func16, Try.ntmps16
    go_wp2_with fail
    go_ret
    exact ⟨rfl, Below.refl _ _⟩
end Go.Proofs.Ytcjgoonkdjaccaa

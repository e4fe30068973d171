/- The law FnFlippedInputs: the walk. -/
import Derived.Test.YtfpcjgolcbjnjaaProg
import Derived.Test.YtfpcjgolcbjnjaaGbD
import Derived.Test.YtfpcjgolcbjnjaaGbL
import Derived.BigQuiet
namespace Go.Proofs.Ytfpcjgolcbjnjaa
open Go Go.RowKit
/-- The first k bits, each turned. -/
def flL (bs : List Int) : Nat → List Int
  | 0 => []
  | k + 1 => flL bs k ++ [1 - bs.getD k 0]
theorem flL_length (bs : List Int) (k : Nat) : (flL bs k).length = k := by
  induction k with
  | zero => rfl
  | succ k ih => simp [flL, ih]
theorem flL_at (bs : List Int) {k m : Nat} (h : k < m) : (flL bs m).getD k 0 = 1 - bs.getD k 0 := by
  induction m with
  | zero => omega
  | succ m ih =>
    rcases Nat.lt_or_ge k m with h1 | h1
    · rw [flL, gD_left (by rw [flL_length]; omega)]
      exact ih h1
    · rw [show k = m by omega, flL, gD_right (by rw [flL_length]; omega), flL_length, Nat.sub_self]
      rfl
theorem flL_bit {bs : List Int} (h : allBit bs) (m : Nat) : allBit (flL bs m) := allBit_of fun k hk => by
  rw [flL_length] at hk
  rw [flL_at bs hk]
  have := h.at_ k
  unfold isBit at *
  omega
set_option maxRecDepth 100000 in
set_option maxHeartbeats 4000000 in
theorem FnFlippedInputs_walk (A : Option Addr) (n c : Nat) (w : World) (hb : Bytes w.heap.size w A n) (hm : n ≤ 9223372036854775807) :
    Calls Try.prog 4 #[.slice A n c] w fun e w' => e = .returned (.bool true) ∧ Below w.heap.size w w' := by
  by_cases hn : 1048576 < n
  · go_enter Try.func4, Try.ntmps4
    go_wp2_with fail
    refine (big_any A n c w true (by simpa using hn) hm).mono ?_
    rintro e w1 ⟨rfl, rfl⟩
    go_wp2_with fail
    go_ret
    exact ⟨rfl, Below.refl _ _⟩
  have hn' : n ≤ 1048576 := by omega
  go_enter Try.func4, Try.ntmps4
  go_wp2_with fail
  refine (big_any A n c w false (by simpa using hn') hm).mono ?_
  rintro e w1 ⟨rfl, rfl⟩
  go_wp2_with fail
  refine (DrawGarbling_any A n c w hb (by omega)).mono ?_
  intro e w1 h
  obtain ⟨A0, N, c0, z0, A1, m, c1, z1, A2, c2, bs, s, a, rfl, ⟨n1, n24⟩, hm4, hg, hw, hbs, ⟨hs, ha0, ha1⟩, l0, l1, i0, i1, i2, low⟩ := h
  have hd : dOk s a := ⟨⟨hs, by omega, by omega⟩, by omega⟩
  have hin : inOk s a bs := ⟨hd, by rw [hbs.1]; omega, hbs.2⟩
  have hin2 : inOk s a (flL bs 80) := ⟨hd, by rw [flL_length]; omega, flL_bit hbs.2 80⟩
  obtain ⟨d0, d1⟩ := dlt_lbl hd
  have e1 : inI s a bs = inL s a (dltI s a) bs 80 := (if_pos hin).trans (by rw [hbs.1])
  have e2 : inI s a (flL bs 80) = inL s a (dltI s a) (flL bs 80) 80 := (if_pos hin2).trans (by rw [flL_length])
  have HX : Hid (∀ k, k < 80 → bits .xor .i64 ((inL s a (dltI s a) bs 80).getD k 0) ((inL s a (dltI s a) (flL bs 80) 80).getD k 0) = dltI s a) := Lib.hid (fun k hk => by
    rw [inL_at _ _ _ _ hk, inL_at _ _ _ _ hk, flL_at bs hk]
    have hz := iz_lbl (s := s) (a := a) (k := (k : Int)) ⟨hd.1, by omega, by omega⟩
    have hv := hbs.2.at_ k
    rw [lx_bits (lbl_lbl hz d0 hv) (lbl_lbl hz d0 (by unfold isBit at *; omega))]
    exact lbl_flip hz d0 hv)
  have la := inL_length s a (dltI s a) bs 80
  have lb := inL_length s a (dltI s a) (flL bs 80) 80
  have cA := fun W h => impl_InputLabels s a A2 80 c2 bs W h hbs.1 (by omega)
  have cB := fun F C W h => impl_InputLabels s a F 80 C (flL bs 80) W h (flL_length bs 80) (by omega)
  have cD := impl_DeltaOf s a
  rw [e1] at cA
  rw [e2] at cB
  have dn := d0.1
  have HBL := Lib.hid hbs.1
  have HBB := Lib.hid hbs.2
  generalize inL s a (dltI s a) bs 80 = la1 at *
  generalize inL s a (dltI s a) (flL bs 80) 80 = lb1 at *
  generalize dltI s a = D at *
  generalize dltA s a = D2 at *
  have HA := Lib.hid la
  have HB := Lib.hid lb
  have bt := new_at (w1.alloc (.cells #[.slice A0 N c0, .slice A1 m c1] 27)) (.cells #[.int .i64 s, .int .i64 a] 29) (w1.heap.size + 1) (by simp)
  have low2 := low_alloc (low_alloc low (.cells #[.slice A0 N c0, .slice A1 m c1] 27)) (.cells #[.int .i64 s, .int .i64 a] 29)
  have j2 := ((i2.al (.cells #[.slice A0 N c0, .slice A1 m c1] 27)).al (.cells #[.int .i64 s, .int .i64 a] 29)).bound
  clear hd hin hin2 e1 e2 la lb hbs hs ha0 ha1 i0 i1 i2 l0 l1 hg hw low d0
  go_upto_region 4 with (fail)
  generalize hp : w1.heap.size + 1 = p at *
  generalize hw2 : (w1.alloc (.cells #[.slice A0 N c0, .slice A1 m c1] 27)).alloc (.cells #[.int .i64 s, .int .i64 a] 29) = w2 at *
  clear hw2 hp
  have HG := Lib.hid (Grow.empty (Below.refl w2.heap.size w2))
  go_wp2_with fail
  go_loopw [6, 7] (fun v i wr => ∃ k : Nat, k ≤ 80 ∧ i = .int .i64 k ∧ Grow w2 wr v k (flL bs k)) (fun _ i _ => 80 - (intOf i).toNat)
  case atStart => exact ⟨0, Nat.zero_le _, rfl, HG.out⟩
  case round =>
    obtain ⟨k, hk, rfl, gr⟩ := hrel
    clear HG
    by_cases hlt : k < 80
    · have k0 : (0 : Int) ≤ k := by omega
      have k1 : (k : Int) < 80 := by omega
      obtain ⟨q, o, rfl, -, c2'⟩ := (j2.below gr.low).at_ (j := k) (by rw [HBL.out]; omega)
      have HN := Lib.hid (show flL bs (k + 1) = flL bs k ++ [1 - bs.getD k 0] from rfl)
      have hv : isBit (bs.getD k 0) := HBB.out.at_ k
      obtain ⟨y0, y1⟩ := hv
      generalize bs.getD k 0 = y at *
      generalize flL bs k = LL at *
      obtain ⟨Av, nv, cv, rfl, rfl⟩ := ownsRow_slice gr.own
      have g7 := gr.alloc (.cells #[.int .i64 (1 - y)] 3)
      go_wp2_with (first | (at_builtin; refine app_list (e' := 3) elemInt rfl _ _ rfl w2.heap.size _ k (intVals LL) rfl g7.own wr.heap.size 1 1 _ (0, 0) rfl (heap_alloc_new wr _) rfl (oneCell_i64 [_]) (by omega) (by unfold maxLen; omega) (by omega) g7.size (wr.heap.size + 1) (by simp) ?_))
      intro g8 e8 w8 ho8 hg8 hat8 hl8
      have H := Lib.hid (g7.app (ys := LL ++ [1 - y]) ho8 hg8 (by simp [intVals]))
      clear ho8 hg8 hat8 hl8 g7 gr
      go_wp2_with fail
      go_roundw
      case rel => exact ⟨k + 1, by omega, by go_num, by rw [HN.out]; exact H.out⟩
      case measure => simp [intOf]; omega
    · obtain rfl : k = 80 := by omega
      obtain ⟨Af, nf, cf, rfl, rfl⟩ := ownsRow_slice gr.own
      have bt3 := heap_below bt gr.low
      have low3 := low2.trans (gr.low.mono low2.size)
      have s3 := gr.size
      obtain ⟨t0, t1, _, _⟩ := box2 bt3
      have cA3 := cA wr ((j2.below gr.low).ints gr.size)
      have iF := (Ints.of_own gr.own).bound
      have HB2 := Lib.hid cB
      clear cA cB gr bt
      (try rw [show ((80 : Nat) : Int) = 80 from rfl])
      go_wp2_with fail
      refine cA3.mono ?_
      rintro e w5 ⟨G1, m1, e1, rfl, o1, hb5⟩
      obtain rfl : m1 = 80 := by rw [← o1.len1, HA.out]
      have bt5 := heap_below bt3 hb5
      have low5 := low3.trans (hb5.mono low3.size)
      have iF5 := iF.below hb5
      have cB5 := HB2.out Af cf w5 (iF5.ints hb5.size)
      have iA5 := o1.ints.bound
      have s5 := hb5.size
      clear cA3 t0 t1 bt3 hb5 iF o1
      obtain ⟨t0, t1, _, _⟩ := box2 bt5
      go_wp2_with fail
      refine cB5.mono ?_
      rintro e w6 ⟨G2, m2, e2, rfl, o2, hb6⟩
      obtain rfl : m2 = 80 := by rw [← o2.len1, HB.out]
      have bt6 := heap_below bt5 hb6
      have low6 := low5.trans (hb6.mono low5.size)
      have iA6 := iA5.below hb6
      have iB6 := o2.ints.bound
      have s6 := hb6.size
      clear cB5 t0 t1 bt5 hb6 iA5 o2 HB2
      obtain ⟨t0, t1, _, _⟩ := box2 bt6
      go_wp2_with fail
      refine (cD _).mono ?_
      rintro e w7 ⟨rfl, hb7⟩
      have lx := hb7.alloc hb7.size (.cells #[.int .i64 s, .int .i64 D2] 29)
      have low8 := low6.trans (lx.mono low6.size)
      have iA8 := iA6.below (lx.mono s6)
      have iB8 := iB6.below lx
      have s8 := lx.size
      clear cD t0 t1 bt6 hb7 iA6 iB6 lx
      go_upto_region 12 with (fail)
      generalize hw8 : w7.alloc (.cells #[.int .i64 s, .int .i64 D2] 29) = w8 at *
      clear hw8
      have hm1 : D.tmod 2 = 1 := by rw [Int.tmod_eq_emod_of_nonneg dn]; exact d1
      go_wp2_with fail
      go_loopw [12] (fun i wx => ∃ k : Nat, k ≤ 80 ∧ i = .int .i64 k ∧ Below w8.heap.size w8 wx) (fun i _ => 80 - (intOf i).toNat)
      case atStart => exact ⟨0, Nat.zero_le _, rfl, Below.refl _ _⟩
      case round =>
        obtain ⟨k, hk, rfl, hbx⟩ := hrel
        by_cases hlt : k < 80
        · have k0 : (0 : Int) ≤ k := by omega
          have k1 : (k : Int) < 80 := by omega
          obtain ⟨qa, oa, rfl, -, ca⟩ := (iA8.below (hbx.mono (Nat.le_trans s6 s8))).at_ (j := k) (by rw [HA.out]; omega)
          obtain ⟨qb, ob, rfl, -, cb⟩ := (iB8.below (hbx.mono s8)).at_ (j := k) (by rw [HB.out]; omega)
          have hx := HX.out k hlt
          generalize la1.getD k 0 = x at *
          generalize lb1.getD k 0 = y at *
          have hne : (D != D) = false := by simp
          go_wp2_with fail
          go_quiet (fail)
          have hb9 := Lib.hid (below_drewN hbx nq)
          clear hbx ca cb hx
          generalize wr.drewN nq = wy at *
          go_wp2_with fail
          go_roundw
          case rel => exact ⟨k + 1, by omega, by go_num, hb9.out⟩
          case measure => simp [intOf]; omega
        · obtain rfl : k = 80 := by omega
          have lowx := low8.trans (hbx.mono low8.size)
          go_wp2_with fail
          go_ret
          exact ⟨by first | rfl | simp, lowx⟩
end Go.Proofs.Ytfpcjgolcbjnjaa

/- GarbledOk, the program's and the model's. No condition. -/
import Derived.Test.YtfpcjgolcbjnjaaProg
import Derived.Test.YtfpcjgolcbjnjaaGbO
namespace Go.Proofs.Ytfpcjgolcbjnjaa
open Go Go.RowKit
set_option maxRecDepth 100000 in
set_option maxHeartbeats 2000000 in
theorem impl_GarbledOk (A0 : Option Addr) (n0 c0 : Nat) (z0 : List Int) (A1 : Option Addr) (n1 c1 : Nat) (z1 : List Int) (d : Int) (A2 : Option Addr) (n2 c2 : Nat) (zs : List Int) (A3 : Option Addr) (n3 c3 : Nat) (ts : List Int) (w : World) (h0 : Ints w A0 z0) (l0 : z0.length = n0 * 3) (m0 : n0 ≤ 2000000) (h1 : Ints w A1 z1) (l1 : z1.length = n1) (m1 : n1 ≤ 2000000) (h2 : Ints w A2 zs) (l2 : zs.length = n2) (m2 : n2 ≤ 2000000) (h3 : Ints w A3 ts) (l3 : ts.length = n3) (m3 : n3 ≤ 2000000) :
    Calls Try.prog 33 #[.agg #[.slice A0 n0 c0, .slice A1 n1 c1], .agg #[.int .i64 d, .slice A2 n2 c2, .slice A3 n3 c3]] w fun e w' => e = .returned (.bool (decide (gOk z0 n0 z1 d zs ts))) ∧ Below w.heap.size w w' := by
  have k0 := Bx2.start w 27 #[.slice A0 n0 c0, .slice A1 n1 c1] 33 #[.int .i64 d, .slice A2 n2 c2, .slice A3 n3 c3]
  have i0 := h0.bound
  have i1 := h1.bound
  have i2 := h2.bound
  have i3 := h3.bound
  clear h0 h1 h2 h3
  go_enter Try.func33, Try.ntmps33
  go_upto_region 1 with (fail)
  generalize hw0 : (w.alloc (.cells #[.slice A0 n0 c0, .slice A1 n1 c1] 27)).alloc (.cells #[.int .i64 d, .slice A2 n2 c2, .slice A3 n3 c3] 33) = w0 at *
  clear hw0
  have a0 := (blk (i := 0) k0.arg rfl).1
  have a1 := (blk (i := 1) k0.arg rfl).1
  have b0 := (blk (i := 0) k0.res rfl).1
  have b1 := (blk (i := 1) k0.res rfl).1
  have b2 := (blk (i := 2) k0.res rfl).1
  have gx := heap_alloc_new w0 (.cells #[.slice A0 n0 c0, .slice A1 n1 c1, .int .i64 d, .slice A2 n2 c2, .slice A3 n3 c3] 77)
  have al := below_alloc w0 (.cells #[.slice A0 n0 c0, .slice A1 n1 c1, .int .i64 d, .slice A2 n2 c2, .slice A3 n3 c3] 77)
  have k1 := k0.next al
  go_upto_region 2 with (fail)
  generalize hg : w0.heap.size = g at *
  generalize hw1 : w0.alloc (.cells #[.slice A0 n0 c0, .slice A1 n1 c1, .int .i64 d, .slice A2 n2 c2, .slice A3 n3 c3] 77) = w1 at *
  clear hw1 hg al k0 a0 a1 b0 b1 b2
  have a0 := (blk (i := 0) k1.arg rfl).1
  have a1 := (blk (i := 1) k1.arg rfl).1
  have j0 := (i0.below k1.low).ints k1.low.size
  have j1 := (i1.below k1.low).ints k1.low.size
  by_cases hc : cirOk z0 n0 z1
  case neg =>
    have E := Lib.hid (decide_eq_false (fun h : gOk z0 n0 z1 d zs ts => hc h.1))
    have cC := impl_CircuitOk A0 n0 c0 z0 A1 n1 c1 z1 false (decide_eq_false hc) w1 j0 l0 (by omega) j1 l1 (by omega)
    clear hc l0 l1 l2 l3
    go_wp2_with fail
    refine cC.mono ?_
    rintro e w2 ⟨rfl, hb2⟩
    have k2 := k1.next hb2
    clear cC hb2 k1 a0 a1
    go_wp2_with fail
    go_ret
    rw [E.out]
    exact ⟨rfl, k2.low⟩
  have cC := impl_CircuitOk A0 n0 c0 z0 A1 n1 c1 z1 true (decide_eq_true hc) w1 j0 l0 (by omega) j1 l1 (by omega)
  have E := Lib.hid (show decide (gOk z0 n0 z1 d zs ts) = decide (partsOk z0 n0 d zs ts) from decide_eq_decide.2 ⟨fun h => h.2, fun h => ⟨hc, h⟩⟩)
  have cO := fun W hb h0 h2 h3 => impl_ok g A0 n0 c0 z0 A1 n1 c1 d A2 n2 c2 zs A3 n3 c3 ts W hb h0 l0 m0 h2 l2 m2 h3 l3 m3
  generalize decide (partsOk z0 n0 d zs ts) = r at *
  clear hc l0 l1 l2 l3
  go_wp2_with fail
  refine cC.mono ?_
  rintro e w2 ⟨rfl, hb2⟩
  have k2 := k1.next hb2
  replace cO := cO w2 (heap_below gx hb2) ((i0.below k2.low).ints k2.low.size) ((i2.below k2.low).ints k2.low.size) ((i3.below k2.low).ints k2.low.size)
  clear cC hb2 k1 a0 a1 gx
  go_wp2_with fail
  refine cO.mono ?_
  rintro e w3 ⟨rfl, hb3⟩
  have k3 := k2.next hb3
  clear cO hb3 k2
  go_wp2_with fail
  go_ret
  rw [E.out]
  exact ⟨rfl, k3.low⟩
set_option maxRecDepth 100000 in
theorem spec_l18Labels (A : Option Addr) (n c : Nat) (zs : List Int) (m : Nat) (r : Bool) (hr : decide (allLbl zs ∧ n = m) = r) (w : World) (hz : Ints w A zs) (hl : zs.length = n) (hn : n ≤ 1000000000000) :
    Calls Try.prog 75 #[.slice A n c, .int .i64 m] w fun e w' => e = .returned (.bool r) ∧ w = w' := by
  have Hl := Lib.hid hl
  have Hr := Lib.hid hr
  clear hl hr
  go_enter Try.func75, Try.ntmps75
  go_wp2_with fail
  go_loop [5] (fun i => ∃ k : Nat, k ≤ n ∧ i = .int .i64 k ∧ Hid (∀ j, j < k → isLbl (zs.getD j 0))) (fun i => n - (intOf i).toNat)
  case atStart => exact ⟨0, Nat.zero_le _, rfl, fun _ h => by omega⟩
  case round =>
    obtain ⟨k, hk, rfl, hne⟩ := hrel
    by_cases hlt : k < n
    · obtain ⟨b, o, rfl, _, c0⟩ := hz.at_ (j := k) (by rw [Hl.out]; exact hlt)
      have Hyes : Hid (¬ isLbl (zs.getD k 0) → ¬ allLbl zs) := fun e => allLbl_no (by rw [Hl.out]; exact hlt) e
      have Hnx : Hid (isLbl (zs.getD k 0) → ∀ j, j < k + 1 → isLbl (zs.getD j 0)) := fun e j hj => by
        rcases Nat.lt_or_ge j k with h | h
        · exact hne.out j h
        · obtain rfl : j = k := by omega
          exact e
      generalize zs.getD k 0 = y at c0 Hyes Hnx
      have k0 : (0 : Int) ≤ k := by omega
      have k1 : (k : Int) < n := by omega
      clear hz
      by_cases hxy : isLbl y
      · have Hn := Lib.hid (Hnx.out hxy)
        have cN := spec_IsLabel_is y true (decide_eq_true hxy) w
        clear Hnx Hyes hxy
        go_wp2_with fail
        refine cN.mono ?_
        rintro e w1 ⟨rfl, rfl⟩
        go_wp2_with fail
        go_round
        case rel => exact ⟨k + 1, by omega, by go_num, Hn.out⟩
        case measure => simp [intOf]; omega
      · have Hy := Lib.hid (Hyes.out hxy)
        have cN := spec_IsLabel_is y false (decide_eq_false hxy) w
        clear Hnx Hyes hxy
        go_wp2_with fail
        refine cN.mono ?_
        rintro e w1 ⟨rfl, rfl⟩
        go_wp2_with fail
        go_ret
        exact ⟨ret_bool (by rw [← Hr.out, decide_eq_false (fun h => Hy.out h.1)]), rfl⟩
    · obtain rfl : k = n := by omega
      have Hno : Hid (allLbl zs) := (allLbl_dec zs).2 (fun j hj => hne.out j (by rw [← Hl.out]; exact hj))
      by_cases hkm : k = m
      · have hb : ((k : Int) == (m : Int)) = true := beq_iff_eq.2 (by omega)
        have Hk := Lib.hid hkm
        clear hkm
        go_wp2_with fail
        go_ret
        exact ⟨ret_bool (by rw [← Hr.out, decide_eq_true (show allLbl zs ∧ k = m from ⟨Hno.out, Hk.out⟩)]), rfl⟩
      · have hb : ((k : Int) == (m : Int)) = false := beq_eq_false_iff_ne.2 (by omega)
        have Hk := Lib.hid hkm
        clear hkm
        go_wp2_with fail
        go_ret
        exact ⟨ret_bool (by rw [← Hr.out, decide_eq_false (fun h : allLbl zs ∧ k = m => Hk.out h.2)]), rfl⟩
theorem calls_below {p : Program} {f : Nat} {xs : Array Value} {w : World} {v : Value} (h : Calls p f xs w fun e w' => e = .returned v ∧ w = w') : Calls p f xs w fun e w' => e = .returned v ∧ Below w.heap.size w w' :=
  h.mono fun _ _ k => ⟨k.1, by rw [← k.2]; exact Below.refl _ _⟩
end Go.Proofs.Ytfpcjgolcbjnjaa

/- Circuit builders: sums, the program's. No condition. -/
import Derived.Test.YtccaaklgmdafpaaProg
import Derived.Test.YtccaaklgmdafpaaCwR
namespace Go.Proofs.Ytccaaklgmdafpaa
open Go Go.RowKit
/-- The sum of two lists of m + 1 wires and a carry. -/
def addA (z us bs : List Int) (c : Int) (m : Nat) : List Int × List Int :=
  let r := faAt z us bs c m
  let z1 := putG r.1 3 (us.getD m 0) (bs.getD m 0)
  (putG z1 3 (nG r.1) r.2.2, r.2.1 ++ [nG z1])
theorem sumA_add (z us bs : List Int) (f : Int) (m : Nat) : sumA z us bs f m = addA (putG z 2 f 0) us bs (nG z) m := by
  unfold sumA
  rw [sumAt_fa]
  rfl
theorem take_getD {us : List Int} {m i : Nat} (h : i < m) : (us.take m).getD i 0 = us.getD i 0 := by
  rw [List.getD_eq_getElem?_getD, List.getElem?_take_of_lt h, ← List.getD_eq_getElem?_getD]
theorem faAt_take (z us bs : List Int) (c : Int) (m : Nat) : ∀ k, k ≤ m → faAt z (us.take m) (bs.take m) c k = faAt z us bs c k := by
  intro k
  induction k with
  | zero => exact fun _ => rfl
  | succ k ih => intro h; rw [faAt, faAt, ih (by omega), take_getD (by omega), take_getD (by omega)]
set_option maxRecDepth 100000 in
set_option maxHeartbeats 2000000 in
theorem impl_addFrom (B g n : Nat) (v v1 : Value) (z : List Int) (A : Option Addr) (m c : Nat) (us : List Int) (A' : Option Addr) (c' : Nat) (ws : List Int) (cy : Int) (w : World) (h : Cir B g w v v1 n z) (hB : B ≤ w.heap.size) (ho : Off g v w A us) (lu : us.length = m + 1) (hc : m + 1 ≤ c) (ho' : Off g v w A' ws) (lw : ws.length = m + 1) (hc' : m + 1 ≤ c') (hm : m ≤ 900) (hn : n ≤ 980000) :
    Calls Try.prog 88 #[.pointer (some ⟨g, 0, none⟩), .slice A (m + 1) c, .slice A' (m + 1) c', .int .i64 cy] w (PutL B g v1 (n + 5 * m + 2) (addA z us ws cy m).1 (addA z us ws cy m).2 v w) := by
  obtain ⟨b, o, rfl, q0⟩ := ho.at_ (j := m) (by rw [lu]; omega)
  obtain ⟨b', o', rfl, q1⟩ := ho'.at_ (j := m) (by rw [lw]; omega)
  have k0 : ((m + 1 : Nat) : Int) - 1 = (m : Int) := by omega
  have k1 : (m : Int) ≤ (c : Int) := by omega
  have k2 : (m : Int) ≤ (c' : Int) := by omega
  have k3 : (m : Int) < ((m + 1 : Nat) : Int) := by omega
  have hB2 : B ≤ w.drew.heap.size := hB
  have hF := impl_fullAdders B g n v v1 z (some ⟨b, o, none⟩) m c (us.take m) (some ⟨b', o', none⟩) m c' (ws.take m) cy w.drew h.drew hB2 (ho.cut m) (by rw [List.length_take]; omega) (ho'.cut m) (by rw [List.length_take]; omega) (Nat.le_refl _) (by omega) (by omega)
  rw [faAt_take z us ws cy m m (Nat.le_refl _)] at hF
  have LU := Lib.hid lu
  have LW := Lib.hid lw
  go_enter Try.func88, Try.ntmps88
  go_upto_region 2 with (fail)
  go_region_law (go_simp; go_at_call 93; (with_reducible refine hF.mono ?_); rintro e w4 ⟨v4, A4, k4, c4, rfl, l4, h4, t4, wl4⟩)
  all_goals
    obtain rfl : k4 = m := by rw [← l4, faAt_length]
    have hs : Bl B g v w w4 v4 v1 (n + 5 * k4) (faAt z us ws cy k4).1 (.slice A4 k4 c4) k4 (faAt z us ws cy k4).2.1 := ⟨h4, t4.ofDrew, wl4⟩
    clear q0 q1 h4 t4 wl4 l4 hF h
    obtain ⟨_, _, e1, q0⟩ := (ho.turn hs.turn).at_ (j := k4) (by rw [LU.out]; omega)
    injection e1 with e1; injection e1 with e11 e12; subst e11 e12
    obtain ⟨_, _, e1, q1⟩ := (ho'.turn hs.turn).at_ (j := k4) (by rw [LW.out]; omega)
    injection e1 with e1; injection e1 with e11 e12; subst e11 e12
    have E := Lib.hid (show addA z us ws cy k4 = (putG (putG (faAt z us ws cy k4).1 3 (us.getD k4 0) (ws.getD k4 0)) 3 (nG (faAt z us ws cy k4).1) (faAt z us ws cy k4).2.2, (faAt z us ws cy k4).2.1 ++ [nG (putG (faAt z us ws cy k4).1 3 (us.getD k4 0) (ws.getD k4 0))]) from rfl)
    generalize us.getD k4 0 = ux at *
    generalize ws.getD k4 0 = wx at *
    generalize faAt z us ws cy k4 = R at *
    have k5 : (0 : Int) ≤ (k4 : Int) := by omega
    have k6 : (k4 : Int) < (k4 : Int) + 1 := by omega
    have B1 := Nat.le_trans hB hs.size
    have hsd := hs.drew
    have B2 : B ≤ w4.drew.heap.size := B1
    have c5 := impl_xor B g (n + 5 * k4) v4 v1 R.1 ux wx
    have C6 := Lib.hid (fun u W (H : Cir B g W u v1 (n + 5 * k4 + 1) (putG R.1 3 ux wx)) HB => impl_xor B g (n + 5 * k4 + 1) u v1 (putG R.1 3 ux wx) (nG R.1) R.2.2 W H HB (by omega))
    clear ho ho' LU LW hs hB
    go_upto_region 3 with (fail)
    go_region_law (first
      | (refine app_step (e' := 3) elemInt (by rfl) _ _ (by rfl) w.heap.size (.slice A4 k4 c4) k4 (intVals R.2.1) (by rfl) (hs6.alloc (.cells #[.int .i64 (nG (putG R.1 3 ux wx))] 3)).wl.own w6.heap.size 1 1 _ (0, 0) (by rfl) (heap_alloc_new w6 _) (by rfl) (oneCell_i64 [_]) (by omega) (by unfold maxLen; omega) (by omega) (by simp; omega) (w6.heap.size + 1) (by simp) ?_; intro g5 e5 w7 ho5 hg5 hat5 hl5)
      | (go_simp; go_at_call 95; (with_reducible refine (c5 _ hsd.cir B2 (by omega)).mono ?_); rintro e w5 ⟨v5, rfl, h5, t5⟩; (have hs5 := hsd.next h5 t5); (have B5 := Nat.le_trans B2 t5.size))
      | (go_simp; go_at_call 95; (with_reducible refine (C6.out v5 _ hs5.cir B5).mono ?_); rintro e w6 ⟨v6, rfl, h6, t6⟩; (have hs6 := hs5.next h6 t6); (have sz6 := hs6.size)))
    all_goals
      have H := Lib.hid (hs6.app ho5 hg5 hat5)
      clear h5 t5 h6 t6 hs5 hs6 hsd ho5 hg5 hat5 hl5 C6 c5 q0 q1
      go_wp2_with fail
      go_ret
      exact ⟨v6, _, _, _, rfl, by rw [E.out]; exact H.out.wl.len, by rw [E.out]; exact H.out.cir, H.out.turn, by rw [E.out]; exact H.out.wl⟩
end Go.Proofs.Ytccaaklgmdafpaa

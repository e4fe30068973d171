/- Boolean circuits: the program's AndDepth. No condition. -/
import Derived.Test.YtegdlegndgdgiaaProg
import Derived.Test.YtegdlegndgdgiaaCirE
import Derived.BigRegion
namespace Go.Proofs.Ytegdlegndgdgiaa
open Go Go.RowKit
/-- The depths so far, the rest still zero. -/
def padL (z : List Int) (k n : Nat) : List Int := dps z k ++ List.replicate (n - k) 0
def rowL (z : List Int) (n k : Nat) (x : Int) : List Int := dps z k ++ x :: List.replicate (n - (k + 1)) 0
theorem rowL_zero (z : List Int) {n k : Nat} (h : k < n) : padL z k n = rowL z n k 0 := by
  unfold padL rowL
  rw [show n - k = (n - (k + 1)) + 1 by omega, List.replicate_succ]
theorem rowL_length (z : List Int) {n k : Nat} (x : Int) (h : k < n) : (rowL z n k x).length = n := by
  simp only [rowL, List.length_append, dps_length, List.length_cons, List.length_replicate]
  omega
theorem rowL_at (z : List Int) (n k : Nat) (x : Int) : (rowL z n k x).getD k 0 = x := by
  unfold rowL
  rw [gD_right (by rw [dps_length]; omega), dps_length, Nat.sub_self]
  rfl
theorem rowL_lt (z : List Int) (n : Nat) {k i : Nat} (x : Int) (h : i < k) : (rowL z n k x).getD i 0 = (dps z k).getD i 0 := by
  unfold rowL
  rw [gD_left (by rw [dps_length]; exact h)]
theorem rowL_set (z : List Int) (n k : Nat) (x y : Int) : (rowL z n k x).set k y = rowL z n k y := by
  unfold rowL
  rw [List.set_append_right _ _ (by rw [dps_length]; omega), dps_length, Nat.sub_self, List.set_cons_zero]
theorem rowL_next (z : List Int) (n k : Nat) {x : Int} (h : gdep (gk z k) (ga z k) (gb z k) (dps z k) = x) : rowL z n k x = padL z (k + 1) n := by
  unfold padL rowL
  rw [dps, h, List.append_assoc]
  rfl
/-- The greatest depth of the first j wires of a list. -/
def accD (d ops : List Int) : Nat → Int
  | 0 => 0
  | j + 1 => max (accD d ops j) (d.getD (ops.getD j 0).toNat 0)
theorem accD_range {d ops : List Int} {M : Int} (hM : 0 ≤ M) (h : ∀ i, 0 ≤ d.getD i 0 ∧ d.getD i 0 ≤ M) (j : Nat) : 0 ≤ accD d ops j ∧ accD d ops j ≤ M := by
  induction j with
  | zero => exact ⟨Int.le_refl _, hM⟩
  | succ j ih => have := h (ops.getD j 0).toNat; simp only [accD]; omega
theorem accD_gdep {k a b : Int} {d : List Int} (h : ∀ i, 0 ≤ d.getD i 0) : gdep k a b d = accD d (opsL k a b) (opsL k a b).length + if k = 4 then 1 else 0 := by
  have h1 := h a.toNat
  have h2 := h b.toNat
  unfold gdep opsL
  by_cases h3 : k = 3
  · rw [if_pos h3, if_pos (.inl h3), if_neg (by omega)]
    simp only [List.length_cons, List.length_nil, accD, List.getD_cons_zero, List.getD_cons_succ]
    omega
  · by_cases h4 : k = 4
    · rw [if_neg h3, if_pos h4, if_pos (.inr h4), if_pos h4]
      simp only [List.length_cons, List.length_nil, accD, List.getD_cons_zero, List.getD_cons_succ]
      omega
    · by_cases h5 : k = 5
      · rw [if_neg h3, if_neg h4, if_pos h5, if_neg (by omega), if_pos h5, if_neg h4]
        simp only [List.length_cons, List.length_nil, accD, List.getD_cons_zero]
        omega
      · rw [if_neg h3, if_neg h4, if_neg h5, if_neg (by omega), if_neg h5, if_neg h4]
        rfl
theorem opsL_at {k a b n : Int} (h : gateOk k a b n) {j : Nat} (hj : j < (opsL k a b).length) : 0 ≤ (opsL k a b).getD j 0 ∧ (opsL k a b).getD j 0 < n := by
  unfold opsL at *
  by_cases h34 : k = 3 ∨ k = 4
  · rw [if_pos h34] at *
    rcases h with h | h | h | h
    · omega
    · omega
    · simp only [List.length_cons, List.length_nil] at hj
      rcases (show j = 0 ∨ j = 1 by omega) with rfl | rfl
      · exact h.2.1
      · exact h.2.2
    · omega
  · rw [if_neg h34] at *
    by_cases h5 : k = 5
    · rw [if_pos h5] at *
      simp only [List.length_cons, List.length_nil] at hj
      obtain rfl : j = 0 := by omega
      rcases h with h | h | h | h
      · omega
      · omega
      · omega
      · exact h.2.1
    · rw [if_neg h5] at hj
      simp at hj
theorem opsL_length (k a b : Int) : (opsL k a b).length ≤ 2 := by
  unfold opsL
  split
  · simp
  · split <;> simp
set_option maxRecDepth 100000 in
set_option maxHeartbeats 2000000 in
theorem impl_AndDepth (A0 : Option Addr) (n0 c0 : Nat) (z0 : List Int) (A1 : Option Addr) (n1 c1 : Nat) (z1 : List Int) (w : World) (h0 : Ints w A0 z0) (l0 : z0.length = n0 * 3) (m0 : n0 ≤ 1000000000000) (h1 : Ints w A1 z1) (l1 : z1.length = n1) (m1 : n1 ≤ 1000000000000) :
    Calls Try.prog 29 #[.agg #[.slice A0 n0 c0, .slice A1 n1 c1]] w fun e w' => e = .returned (.int .i64 (depI z0 n0 z1)) ∧ Below w.heap.size w w' := by
  have low := below_alloc w (.cells #[.slice A0 n0 c0, .slice A1 n1 c1] 31)
  have bx := heap_alloc_new w (.cells #[.slice A0 n0 c0, .slice A1 n1 c1] 31)
  have j0 := h0.al (.cells #[.slice A0 n0 c0, .slice A1 n1 c1] 31)
  have j1 := h1.al (.cells #[.slice A0 n0 c0, .slice A1 n1 c1] 31)
  by_cases hc : cirOk z0 n0 z1
  case neg =>
    have cC := impl_CircuitOk A0 n0 c0 z0 A1 n1 c1 z1 false (decide_eq_false hc) _ j0 l0 m0 j1 l1 m1
    rw [show depI z0 n0 z1 = -1 from if_neg hc]
    clear hc h0 h1 l0 l1 bx j0 j1
    go_enter Try.func29, Try.ntmps29
    go_wp2_with fail
    refine cC.mono ?_
    rintro e w1 ⟨rfl, hb1⟩
    have lowx := low.trans (hb1.mono low.size)
    clear hb1 low
    go_wp2_with fail
    go_ret
    exact ⟨rfl, lowx⟩
  have cC := impl_CircuitOk A0 n0 c0 z0 A1 n1 c1 z1 true (decide_eq_true hc) _ j0 l0 m0 j1 l1 m1
  rw [show depI z0 n0 z1 = mxd z0 n0 from if_pos hc]
  have n6 := hc.1
  have HG := Lib.hid hc.2.1
  have L0 := Lib.hid l0
  have i0 := h0.bound.below low
  clear hc h0 h1 l0 l1 j0 j1
  go_enter Try.func29, Try.ntmps29
  go_wp2_with fail
  refine cC.mono ?_
  rintro e w1 ⟨rfl, hb1⟩
  have bx1 := heap_below bx hb1
  have low1 := low.trans (hb1.mono low.size)
  replace i0 := i0.below (hb1.mono low.size)
  clear hb1 low bx cC
  have g0 := (blk (i := 0) bx1 rfl).1
  go_wp2_with (first | (refine make_fullI Try.underlying23 infoInt rfl rfl _ _ rfl w1.heap.size _ _ _ _ n0 rfl rfl rfl rfl (by omega) (by unfold maxLen; omega) (Nat.le_refl _) ?_))
  intro w2 hown2 hg2
  have hb2 : Below w1.heap.size w1 w2 := (Below.refl _ _).grown hg2 (Nat.le_refl _) (fun k h => by cases h)
  have Hg : Hid (Grow w1 w2 (.slice (some ⟨w1.heap.size, 0, none⟩) n0 n0) n0 (padL z0 0 n0)) := ⟨by simpa [padL, dps, intVals] using hown2, hb2⟩
  have bx2 := heap_below bx1 hb2
  clear hown2 hg2 g0 hb2
  have g0 := (blk (i := 0) bx2 rfl).1
  go_wp2_with fail
  go_loopw [4, 19] (fun v i wr => ∃ k : Nat, k ≤ n0 ∧ i = .int .i64 k ∧ v = .int .i64 (mxd z0 k) ∧ Grow w1 wr (.slice (some ⟨w1.heap.size, 0, none⟩) n0 n0) n0 (padL z0 k n0)) (fun _ i _ => n0 - (intOf i).toNat)
  case atStart => exact ⟨0, Nat.zero_le _, rfl, rfl, Hg.out⟩
  case round =>
    clear Hg bx2 g0
    obtain ⟨k, hk, rfl, rfl, gr⟩ := hrel
    have hmx := mxd_ge z0 k
    have hmc : mxd z0 k ≤ 6000 := by have := mxd_le z0 k; have := cnt_le z0 4 k; omega
    have hm0 := hmx.1
    by_cases hlt : k < n0
    · obtain ⟨g, o, rfl, -, q0⟩ := (i0.below (gr.low.mono low1.size)).at_ (j := k * 3) (by rw [L0.out]; omega)
      obtain ⟨_, _, e1, -, q1⟩ := (i0.below (gr.low.mono low1.size)).at_ (j := k * 3 + 1) (by rw [L0.out]; omega)
      injection e1 with e1; injection e1 with e11 e12; subst e11 e12
      rw [← Nat.add_assoc] at q1
      obtain ⟨_, _, e1, -, q2⟩ := (i0.below (gr.low.mono low1.size)).at_ (j := k * 3 + 2) (by rw [L0.out]; omega)
      injection e1 with e1; injection e1 with e11 e12; subst e11 e12
      rw [← Nat.add_assoc] at q2
      have hgo : gateOk (z0.getD (k * 3) 0) (z0.getD (k * 3 + 1) 0) (z0.getD (k * 3 + 2) 0) k := HG.out k hlt
      have hD : ∀ i, 0 ≤ (dps z0 k).getD i 0 ∧ (dps z0 k).getD i 0 ≤ 6000 := fun i => by
        have := dps_range z0 k i
        have := cnt_le z0 4 k
        omega
      have HN : Hid (∀ X, gdep (z0.getD (k * 3) 0) (z0.getD (k * 3 + 1) 0) (z0.getD (k * 3 + 2) 0) (dps z0 k) = X → rowL z0 n0 k X = padL z0 (k + 1) n0 ∧ mxd z0 (k + 1) = max (mxd z0 k) X) := fun X h => ⟨rowL_next z0 n0 k h, by rw [mxd]; exact congrArg _ h⟩
      generalize z0.getD (k * 3) 0 = x at *
      generalize z0.getD (k * 3 + 1) 0 = y at *
      generalize z0.getD (k * 3 + 2) 0 = z at *
      have HA := Lib.hid (fun j => accD_range (d := dps z0 k) (ops := opsL x y z) (M := 6000) (by omega) hD j)
      have HE := Lib.hid (accD_gdep (k := x) (a := y) (b := z) (fun i => (hD i).1))
      have HD := Lib.hid hD
      have HO := Lib.hid (fun (j : Nat) (hj : j < (opsL x y z).length) => opsL_at hgo hj)
      have hol := opsL_length x y z
      rw [rowL_zero z0 hlt] at gr
      have ga := gr.alloc (.cells #[.int .i64 x, .int .i64 y, .int .i64 z] 45)
      have hbx := heap_alloc_new wr (.cells #[.int .i64 x, .int .i64 y, .int .i64 z] 45)
      have szr := gr.size
      have szl : w1.heap.size < wr.heap.size := (gr.own.lt _ rfl).2
      have cO := impl_operandsOf x y z (wr.alloc (.cells #[.int .i64 x, .int .i64 y, .int .i64 z] 45))
      generalize opsL x y z = ops at *
      have k0 : (0 : Int) ≤ k := by omega
      have k1 : (k : Int) < n0 := by omega
      clear hgo hD gr hmx
      go_wp2_with fail
      refine cO.mono ?_
      rintro e w3 ⟨B, m, c, rfl, ho, hb3⟩
      have g3 := Lib.hid (ga.next hb3)
      have bx3 := Lib.hid (heap_below hbx hb3)
      have LO := Lib.hid ho.len1
      have hm2 : m ≤ 2 := by rw [← LO.out]; exact hol
      have ho3 := Lib.hid (ho.wide (lo' := wr.heap.size + 1) (by simp) (Nat.le_refl _))
      clear ga hb3 hbx ho cO hol q0 q1 q2
      obtain ⟨wo, rfl⟩ : ∃ wo : World, wo = wr := ⟨_, rfl⟩
      go_wp2_with fail
      go_loopw [27] (fun i wi => ∃ j : Nat, j ≤ m ∧ i = .int .i64 j ∧ Grow w1 wi (.slice (some ⟨w1.heap.size, 0, none⟩) n0 n0) n0 (rowL z0 n0 k (accD (dps z0 k) ops j)) ∧ wi.heap[wo.heap.size]? = some (.cells #[.int .i64 x, .int .i64 y, .int .i64 z] 45 (0, 0)) ∧ OwnA 1 (wo.heap.size + 1) w3.heap.size wi (.slice B m c) m ops) (fun i _ => m - (intOf i).toNat)
      case atStart => exact ⟨0, Nat.zero_le _, rfl, g3.out, bx3.out, ho3.out⟩
      case round =>
        obtain ⟨j, hj, rfl, gi, bxi, oi⟩ := hrel
        clear g3 bx3 ho3
        by_cases hjm : j < m
        · obtain ⟨gB, oB, rfl, -, qB⟩ := oi.ints.at_ (j := j) (by rw [LO.out]; exact hjm)
          obtain ⟨t0, t1⟩ := HO.out j (by rw [LO.out]; exact hjm)
          obtain ⟨u0, f0⟩ := gi.at_ hlt
          rw [rowL_at] at u0
          obtain ⟨v0, -⟩ := gi.at_ (j := (ops.getD j 0).toNat) (by omega)
          rw [rowL_lt z0 n0 _ (by omega)] at v0
          obtain ⟨a0, a1⟩ := HA.out j
          obtain ⟨d0, d1⟩ := HD.out (ops.getD j 0).toNat
          have Hs := Lib.hid (fun X => (gi.set (Nat.le_refl _) k X))
          have Hacc : Hid (max (accD (dps z0 k) ops j) ((dps z0 k).getD (ops.getD j 0).toNat 0) = accD (dps z0 k) ops (j + 1)) := rfl
          generalize hwi : ops.getD j 0 = wi at *
          generalize (dps z0 k).getD wi.toNat 0 = dv at *
          generalize accD (dps z0 k) ops j = ac at *
          have jj0 : (0 : Int) ≤ j := by omega
          have jj1 : (j : Int) < m := by omega
          clear hwi
          go_upto_region 11 with (fail)
          go_region
          have hif : (if ac < dv then dv else ac) = max ac dv := by split <;> omega
          have Hs1 : Hid (Grow w1 (wr.setCell ⟨w1.heap.size, k, none⟩ (.int .i64 (if ac < dv then dv else ac))).drew (.slice (some ⟨w1.heap.size, 0, none⟩) n0 n0) n0 (rowL z0 n0 k (accD (dps z0 k) ops (j + 1)))) := by
            have := (Hs.out (if ac < dv then dv else ac)).drew
            rw [rowL_set] at this
            rw [show accD (dps z0 k) ops (j + 1) = if ac < dv then dv else ac from Hacc.out.symm.trans hif.symm]
            exact this
          have Hs2 : Hid ((wr.setCell ⟨w1.heap.size, k, none⟩ (.int .i64 (if ac < dv then dv else ac))).drew.heap[wo.heap.size]? = some (.cells #[.int .i64 x, .int .i64 y, .int .i64 z] 45 (0, 0))) := heap_far (p := ⟨w1.heap.size, k, none⟩) bxi (by simp; omega) _
          have Hs3 : Hid (OwnA 1 (wo.heap.size + 1) w3.heap.size (wr.setCell ⟨w1.heap.size, k, none⟩ (.int .i64 (if ac < dv then dv else ac))).drew (.slice (some ⟨gB, oB, none⟩) m c) m ops) := (oi.setFar (g := w1.heap.size) (i := k) (by omega) _).drew
          generalize (wr.setCell ⟨w1.heap.size, k, none⟩ (.int .i64 (if ac < dv then dv else ac))).drew = wq at *
          clear Hs gi bxi oi u0 f0 v0 qB hif Hacc
          go_wp2_with fail
          go_roundw
          case rel => exact ⟨j + 1, by omega, by go_num, Hs1.out, Hs2.out, Hs3.out⟩
          case measure => simp [intOf]; omega
        · obtain rfl : j = m := by omega
          obtain ⟨a0, a1⟩ := HA.out j
          rw [LO.out] at HE
          obtain ⟨u0, f0⟩ := gi.at_ hlt
          rw [rowL_at] at u0
          have Hs := Lib.hid (fun X => (gi.set (Nat.le_refl _) k X))
          have x0 := (blk (i := 0) bxi rfl).1
          by_cases h4 : x = 4
          · subst h4
            rw [if_pos rfl] at HE
            obtain ⟨e1, e2⟩ := HN.out _ HE.out
            have Hset := Lib.hid (show Grow w1 (wr.setCell ⟨w1.heap.size, k, none⟩ (.int .i64 (accD (dps z0 k) ops j + 1))) (.slice (some ⟨w1.heap.size, 0, none⟩) n0 n0) n0 (padL z0 (k + 1) n0) by
              have := Hs.out (accD (dps z0 k) ops j + 1)
              rwa [rowL_set, e1] at this)
            generalize accD (dps z0 k) ops j = ac at *
            have He2 := Lib.hid e2
            clear e1 e2 Hs gi bxi oi HE HN HA HD HO i0
            go_wp2_with fail
            go_roundw
            case rel => exact ⟨k + 1, by omega, by go_num, by rw [He2.out]; congr 1; split <;> omega, Hset.out⟩
            case measure => simp [intOf]; omega
          · rw [if_neg h4, Int.add_zero] at HE
            obtain ⟨e1, e2⟩ := HN.out _ HE.out
            have hx4 : (x == 4) = false := beq_eq_false_iff_ne.2 h4
            rw [e1] at gi
            have Hset := Lib.hid gi
            generalize accD (dps z0 k) ops j = ac at *
            have He2 := Lib.hid e2
            clear e1 e2 Hs gi bxi oi HE HN HA HD HO i0 h4
            go_wp2_with fail
            go_roundw
            case rel => exact ⟨k + 1, by omega, by go_num, by rw [He2.out]; congr 1; split <;> omega, Hset.out⟩
            case measure => simp [intOf]; omega
    · obtain rfl : k = n0 := by omega
      have lowx := Lib.hid (low1.trans (gr.low.mono low1.size))
      clear gr hmx i0 bx1
      go_wp2_with fail
      go_ret
      exact ⟨rfl, lowx.out⟩
end Go.Proofs.Ytegdlegndgdgiaa

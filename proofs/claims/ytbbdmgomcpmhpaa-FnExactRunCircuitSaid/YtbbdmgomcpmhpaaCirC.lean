/- Boolean circuits: the program's values of wires. No condition. -/
import Derived.Test.YtbbdmgomcpmhpaaProg
import Derived.Test.YtbbdmgomcpmhpaaCirB
import Derived.Test.YtbbdmgomcpmhpaaB1
import Derived.Laws.CopyOwn
namespace Go.Proofs.Ytbbdmgomcpmhpaa
open Go Go.RowKit
theorem full_heap {w : World} {base g n : Nat} {e : TypeId} {xs : List Value} (h : w.ownsRow base e 1 (.slice (some ⟨g, 0, none⟩) n n) n xs) : w.heap[g]? = some (.cells xs.toArray e (0, 0)) ∧ base ≤ g := by
  obtain ⟨hl, h | ⟨g', cap, cur, he, hb, hh, h1, h2, h3, h4⟩⟩ := h
  · cases h.1
  · injection he with e1 e2 e3
    injection e1 with e1
    injection e1 with e1
    subst e1 e3
    have : cur.toList = xs := by rw [← h4, List.take_of_length_le (by simp; omega)]
    subst this
    exact ⟨by simpa using hh, hb⟩
theorem full_own {w : World} {base g n : Nat} {e : TypeId} {xs : List Value} (hh : w.heap[g]? = some (.cells xs.toArray e (0, 0))) (hb : base ≤ g) (hl : xs.length = n) (hm : n ≤ maxLen) : w.ownsRow base e 1 (.slice (some ⟨g, 0, none⟩) n n) n xs :=
  ⟨by omega, .inr ⟨g, n, xs.toArray, rfl, hb, hh, Nat.le_refl _, hm, by simp; omega, by rw [List.take_of_length_le (by simp; omega)]⟩⟩
/-- Output wires, the first k replaced by their values. -/
def mixL (v os : List Int) (k : Nat) : List Int := outV v (os.take k) ++ os.drop k
theorem mix_length (v os : List Int) (k : Nat) : (mixL v os k).length = os.length := by
  unfold mixL
  rw [List.length_append, outV_length, List.length_take, List.length_drop]
  omega
theorem mix_at (v os : List Int) {k : Nat} (h : k < os.length) : (mixL v os k).getD k 0 = os.getD k 0 := by
  have hl : (outV v (os.take k)).length = k := by rw [outV_length, List.length_take]; omega
  unfold mixL
  rw [gD_right (by omega), hl, Nat.sub_self]
  simp [List.getD_eq_getElem?_getD, List.getElem?_drop]
theorem mix_set (v os : List Int) {k : Nat} (h : k < os.length) : (mixL v os k).set k (v.getD (os.getD k 0).toNat 0) = mixL v os (k + 1) := by
  have hl : (outV v (os.take k)).length = k := by rw [outV_length, List.length_take]; omega
  unfold mixL
  rw [List.set_append_right _ _ (by omega), hl, Nat.sub_self, outV_take v os h, List.append_assoc]
  congr 1
  rw [List.drop_eq_getElem_cons h, List.set_cons_zero]
  rfl
theorem mix_all (v os : List Int) : mixL v os os.length = outV v os := by simp [mixL]
set_option maxRecDepth 100000 in
set_option maxHeartbeats 1000000 in
theorem impl_gateValue (k a b : Int) (Av : Option Addr) (nv cv : Nat) (vs : List Int) (Ab : Option Addr) (cb : Nat) (bs : List Int) (x : Int) (hx : gval k a b vs bs = x) (hg : gateOk k a b nv) (w : World) (hv : Ints w Av vs) (lv : vs.length = nv) (vb : allBit vs) (hb : Ints w Ab bs) (lb : bs.length = 80) :
    Calls Try.prog 90 #[.agg #[.int .i64 k, .int .i64 a, .int .i64 b], .slice Av nv cv, .slice Ab 80 cb] w fun e w' => e = .returned (.int .i64 x) ∧ Below w.heap.size w w' := by
  have low := below_alloc w (.cells #[.int .i64 k, .int .i64 a, .int .i64 b] 115)
  have iv := hv.al (.cells #[.int .i64 k, .int .i64 a, .int .i64 b] 115)
  have ib := hb.al (.cells #[.int .i64 k, .int .i64 a, .int .i64 b] 115)
  clear hv hb
  rcases hg with ⟨rfl, ⟨a0, a1⟩, rfl⟩ | ⟨rfl, ⟨a0, a1⟩, rfl⟩ | ⟨h34, ⟨a0, a1⟩, b0, b1⟩ | ⟨rfl, ⟨a0, a1⟩, rfl⟩
  · obtain ⟨g, o, rfl, -, q⟩ := ib.at_ (j := a.toNat) (by omega)
    have hX := Lib.hid (show bs.getD a.toNat 0 = x by rw [← hx]; simp [gval])
    generalize bs.getD a.toNat 0 = y at q hX
    clear iv ib hx lv vb lb
    go_enter Try.func90, Try.ntmps90
    go_wp2_with fail
    go_ret
    exact ⟨ret_int hX.out, low⟩
  · have hX := Lib.hid (show a = x by rw [← hx]; simp [gval])
    clear iv ib hx lv vb lb
    go_enter Try.func90, Try.ntmps90
    go_wp2_with fail
    go_ret
    exact ⟨ret_int hX.out, low⟩
  · obtain ⟨g, o, rfl, -, q⟩ := iv.at_ (j := a.toNat) (by omega)
    obtain ⟨_, _, e1, -, p⟩ := iv.at_ (j := b.toNat) (by omega)
    injection e1 with e1; injection e1 with e11 e12; subst e11 e12
    have ha := Lib.hid (vb.at_ a.toNat)
    have hb := Lib.hid (vb.at_ b.toNat)
    rcases h34 with rfl | rfl
    · have hX := Lib.hid (show (if vs.getD a.toNat 0 = vs.getD b.toNat 0 then (0 : Int) else 1) = x by rw [← hx]; simp [gval])
      generalize vs.getD a.toNat 0 = y at *
      generalize vs.getD b.toNat 0 = z at *
      clear iv ib hx lv vb lb
      go_enter Try.func90, Try.ntmps90
      go_wp2_with fail
      go_quiet (fail)
      go_wp2_with fail
      go_ret
      exact ⟨ret_int ((xor_bit ha.out hb.out).trans hX.out), below_drewN low _⟩
    · have hX := Lib.hid (show vs.getD a.toNat 0 * vs.getD b.toNat 0 = x by rw [← hx]; simp [gval])
      generalize vs.getD a.toNat 0 = y at *
      generalize vs.getD b.toNat 0 = z at *
      clear iv ib hx lv vb lb
      go_enter Try.func90, Try.ntmps90
      go_wp2_with fail
      go_quiet (fail)
      go_wp2_with fail
      go_ret
      exact ⟨ret_int ((and_bit ha.out hb.out).trans hX.out), below_drewN low _⟩
  · obtain ⟨g, o, rfl, -, q⟩ := iv.at_ (j := a.toNat) (by omega)
    obtain ⟨y0, y1⟩ := vb.at_ a.toNat
    have hX := Lib.hid (show 1 - vs.getD a.toNat 0 = x by rw [← hx]; simp [gval])
    generalize vs.getD a.toNat 0 = y at *
    clear iv ib hx lv vb lb
    go_enter Try.func90, Try.ntmps90
    go_wp2_with fail
    go_ret
    exact ⟨ret_int hX.out, low⟩
set_option maxRecDepth 100000 in
set_option maxHeartbeats 1000000 in
theorem impl_wireValues (A0 : Option Addr) (n0 c0 : Nat) (z0 : List Int) (A1 : Option Addr) (n1 c1 : Nat) (z1 : List Int) (Ab : Option Addr) (nb cb : Nat) (bs : List Int) (w : World) (h0 : Ints w A0 z0) (l0 : z0.length = n0 * 3) (m0 : n0 ≤ 1000000000000) (h1 : Ints w A1 z1) (l1 : z1.length = n1) (m1 : n1 ≤ 1000000000000) (hb : Ints w Ab bs) (lb : bs.length = nb) (mb : nb ≤ 1000000000000) :
    Calls Try.prog 70 #[.agg #[.slice A0 n0 c0, .slice A1 n1 c1], .slice Ab nb cb] w (Post_A_bool (evW z0 n0 z1 bs) (decide (evOk z0 n0 z1 bs)) w) := by
  have low := below_alloc w (.cells #[.slice A0 n0 c0, .slice A1 n1 c1] 27)
  have bx := heap_alloc_new w (.cells #[.slice A0 n0 c0, .slice A1 n1 c1] 27)
  by_cases hc : cirOk z0 n0 z1
  case neg =>
    rw [show evW z0 n0 z1 bs = [] from if_neg (fun e => hc e.1), decide_eq_false (fun e : evOk z0 n0 z1 bs => hc e.1)]
    have cC := impl_CircuitOk A0 n0 c0 z0 A1 n1 c1 z1 false (decide_eq_false hc) _ (h0.al (.cells #[.slice A0 n0 c0, .slice A1 n1 c1] 27)) l0 m0 (h1.al _) l1 m1
    clear hc h0 h1 hb l0 l1 lb bx
    go_enter Try.func70, Try.ntmps70
    go_wp2_with fail
    refine cC.mono ?_
    rintro e w1 ⟨rfl, hb1⟩
    have lowx := low.trans (hb1.mono low.size)
    clear hb1 low
    go_wp2_with fail
    go_ret2
    exact ⟨none, 0, 0, rfl, OwnA.nil _ _ _ _, lowx⟩
  have cC := impl_CircuitOk A0 n0 c0 z0 A1 n1 c1 z1 true (decide_eq_true hc) _ (h0.al (.cells #[.slice A0 n0 c0, .slice A1 n1 c1] 27)) l0 m0 (h1.al _) l1 m1
  have cB := fun W (k : Ints W Ab bs) => impl_inputBitsOk Ab nb cb bs (decide (bitsOk bs)) rfl W k lb mb
  have ib := hb.bound.below low
  by_cases hbo : bitsOk bs
  case neg =>
    rw [show evW z0 n0 z1 bs = [] from if_neg (fun e => hbo e.2), decide_eq_false (fun e : evOk z0 n0 z1 bs => hbo e.2)]
    rw [decide_eq_false hbo] at cB
    clear hc hbo h0 h1 hb l0 l1 lb bx
    go_enter Try.func70, Try.ntmps70
    go_wp2_with fail
    refine cC.mono ?_
    rintro e w1 ⟨rfl, hb1⟩
    have lowx := low.trans (hb1.mono low.size)
    have jb := (ib.below (hb1.mono low.size)).ints lowx.size
    clear hb1 low ib
    go_wp2_with fail
    refine (cB _ jb).mono ?_
    rintro e w2 ⟨rfl, rfl⟩
    go_wp2_with fail
    go_ret2
    exact ⟨none, 0, 0, rfl, OwnA.nil _ _ _ _, lowx⟩
  rw [show evW z0 n0 z1 bs = wv z0 bs n0 from if_pos ⟨hc, hbo⟩, decide_eq_true (show evOk z0 n0 z1 bs from ⟨hc, hbo⟩)]
  rw [decide_eq_true hbo] at cB
  have n6 := hc.1
  obtain rfl : nb = 80 := lb.symm.trans hbo.1
  have HG := Lib.hid hc.2.1
  have HB := Lib.hid hbo.2
  have L0 := Lib.hid l0
  have LB := Lib.hid lb
  have i0 := h0.bound.below low
  clear hc hbo h0 h1 hb l0 l1 lb m0
  go_enter Try.func70, Try.ntmps70
  go_wp2_with fail
  refine cC.mono ?_
  rintro e w1 ⟨rfl, hb1⟩
  have bx1 := heap_below bx hb1
  have low1 := low.trans (hb1.mono low.size)
  replace i0 := i0.below (hb1.mono low.size)
  replace ib := ib.below (hb1.mono low.size)
  clear hb1 low bx cC
  have g0 := (blk (i := 0) bx1 rfl).1
  have g1 := (blk (i := 1) bx1 rfl).1
  go_wp2_with fail
  refine (cB _ (ib.ints low1.size)).mono ?_
  rintro e w2 ⟨rfl, rfl⟩
  clear cB
  go_wp2_with (first | (refine make_list elemInt rfl _ _ rfl w1.heap.size _ _ n0 n0 rfl rfl rfl (by omega) (by unfold maxLen; omega) (Nat.le_refl _) ?_))
  intro w3 hown3 hg3
  have Hg := Lib.hid (Grow.made (Below.refl w1.heap.size w1) hg3 hown3)
  have bx3 := heap_below bx1 Hg.out.low
  clear hown3 hg3 g0 g1
  have g0 := (blk (i := 0) bx3 rfl).1
  have g1 := (blk (i := 1) bx3 rfl).1
  go_wp2_with fail
  go_loopw [6, 24] (fun v i wr => ∃ k : Nat, k ≤ n0 ∧ i = .int .i64 k ∧ Grow w1 wr v k (wv z0 bs k)) (fun _ i _ => n0 - (intOf i).toNat)
  case atStart => exact ⟨0, Nat.zero_le _, rfl, Hg.out⟩
  case round =>
    obtain ⟨k, hk, rfl, gr⟩ := hrel
    clear Hg bx3 g0 g1
    by_cases hlt : k < n0
    · obtain ⟨Av, nv, cv, rfl, rfl⟩ := ownsRow_slice gr.own
      obtain ⟨g, o, rfl, -, q0⟩ := (i0.below (gr.low.mono low1.size)).at_ (j := k * 3) (by rw [L0.out]; omega)
      obtain ⟨_, _, e1, -, q1⟩ := (i0.below (gr.low.mono low1.size)).at_ (j := k * 3 + 1) (by rw [L0.out]; omega)
      injection e1 with e1; injection e1 with e11 e12; subst e11 e12
      rw [← Nat.add_assoc] at q1
      obtain ⟨_, _, e1, -, q2⟩ := (i0.below (gr.low.mono low1.size)).at_ (j := k * 3 + 2) (by rw [L0.out]; omega)
      injection e1 with e1; injection e1 with e11 e12; subst e11 e12
      rw [← Nat.add_assoc] at q2
      have hgo : gateOk (z0.getD (k * 3) 0) (z0.getD (k * 3 + 1) 0) (z0.getD (k * 3 + 2) 0) k := HG.out k hlt
      have Hv : Hid (∀ x, gval (z0.getD (k * 3) 0) (z0.getD (k * 3 + 1) 0) (z0.getD (k * 3 + 2) 0) (wv z0 bs k) bs = x → intVals (wv z0 bs k) ++ (#[Value.int .i64 x] : Array Value).toList = intVals (wv z0 bs (k + 1))) := fun x hx => snoc_vals (by rw [← hx]; rfl)
      have Hvb := Lib.hid (wv_bit HG.out HB.out k hk)
      generalize z0.getD (k * 3) 0 = x at q0 hgo Hv
      generalize z0.getD (k * 3 + 1) 0 = y at q1 hgo Hv
      generalize z0.getD (k * 3 + 2) 0 = z at q2 hgo Hv
      obtain ⟨r, hr⟩ : ∃ r, gval x y z (wv z0 bs k) bs = r := ⟨_, rfl⟩
      have Hv2 := Lib.hid (Hv.out r hr)
      have ga := gr.alloc (.cells #[.int .i64 x, .int .i64 y, .int .i64 z] 115)
      have cV := impl_gateValue x y z Av k cv (wv z0 bs k) Ab cb bs r hr hgo _ (Ints.of_own ga.own) ga.len Hvb.out ((ib.below (ga.low.mono low1.size)).ints (Nat.le_trans low1.size ga.size)) LB.out
      have k0 : (0 : Int) ≤ k := by omega
      have k1 : (k : Int) < n0 := by omega
      clear Hv hr hgo gr i0
      go_wp2_with fail
      refine cV.mono ?_
      rintro e w4 ⟨rfl, hb4⟩
      have g4 := (ga.next hb4).alloc (.cells #[.int .i64 r] 3)
      clear hb4 ga q0 q1 q2 cV
      go_wp2_with (first | (at_builtin; refine app_list (e' := 3) elemInt rfl _ _ rfl w1.heap.size _ k (intVals (wv z0 bs k)) rfl g4.own w4.heap.size 1 1 _ (0, 0) rfl (heap_alloc_new w4 _) rfl (oneCell_i64 [_]) (by omega) (by unfold maxLen; omega) (by omega) g4.size (w4.heap.size + 1) (by simp) ?_))
      intro g5 c5 w5 ho5 hg5 _ _
      have Hg := Lib.hid (g4.app ho5 hg5 Hv2.out)
      clear ho5 hg5 g4
      go_wp2_with fail
      go_roundw
      case rel => exact ⟨k + 1, by omega, by go_num, Hg.out⟩
      case measure => simp [intOf]; omega
    · obtain rfl : k = n0 := by omega
      have hd := gr.done
      obtain ⟨A, m, c, he, hl, ho, hb⟩ := hd
      injection he with he
      subst he
      clear gr
      go_wp2_with fail
      go_ret2
      exact ⟨A, m, c, rfl, ho.any.wide low1.size (Nat.le_refl _), low1.trans (hb.mono low1.size)⟩
set_option maxRecDepth 100000 in
set_option maxHeartbeats 1000000 in
theorem impl_atOutputs (A0 : Option Addr) (n0 c0 : Nat) (A1 : Option Addr) (n1 c1 : Nat) (z1 : List Int) (A : Option Addr) (n c : Nat) (vs : List Int) (w : World) (h1 : Ints w A1 z1) (l1 : z1.length = n1) (m1 : n1 ≤ 1000000000) (hv : Ints w A vs) (lv : vs.length = n) (ho : wiresOk z1 n) :
    Calls Try.prog 71 #[.agg #[.slice A0 n0 c0, .slice A1 n1 c1], .slice A n c] w (Post_A (outV vs z1) w) := by
  have low1 := below_alloc w (.cells #[.slice A0 n0 c0, .slice A1 n1 c1] 27)
  have bx1 := heap_alloc_new w (.cells #[.slice A0 n0 c0, .slice A1 n1 c1] 27)
  have i1 := h1.bound.below low1
  have iv := (hv.al (.cells #[.slice A0 n0 c0, .slice A1 n1 c1] 27)).bound
  have HW := Lib.hid ho
  have L1 := Lib.hid l1
  have LV := Lib.hid lv
  clear h1 hv l1 lv ho
  go_enter Try.func71, Try.ntmps71
  go_upto_region 1 with (fail)
  generalize hw1 : w.alloc (.cells #[.slice A0 n0 c0, .slice A1 n1 c1] 27) = w1 at *
  clear hw1
  have g0 := (blk (i := 0) bx1 rfl).1
  have g1 := (blk (i := 1) bx1 rfl).1
  go_wp2_with (first | (refine make_fullI Try.underlying25 infoInt rfl rfl _ _ rfl w1.heap.size _ _ _ _ n1 rfl rfl rfl rfl (by omega) (by unfold maxLen; omega) (Nat.le_refl _) ?_))
  intro w2 hown2 hg2
  have hb2 : Below w1.heap.size w1 w2 := (Below.refl _ _).grown hg2 (Nat.le_refl _) (fun k h => by cases h)
  have hh2 := (full_heap hown2).1
  have bx2 := heap_below bx1 hb2
  have j1 := (i1.below (hb2.mono low1.size)).ints (Nat.le_trans low1.size hb2.size)
  clear hown2 hg2 g0 g1
  have g0 := (blk (i := 0) bx2 rfl).1
  have g1 := (blk (i := 1) bx2 rfl).1
  have LL : Hid ((intVals z1).length = n1) := by rw [intVals_length]; exact L1
  have Hj : Hid (∀ j v, (intVals z1)[j]? = some v → ∃ b o, A1 = some ⟨b, o, none⟩ ∧ w2.cell? (Addr.add ⟨b, o, none⟩ j) = some v) := fun j v hv => by
    have hj : j < z1.length := by
      rcases Nat.lt_or_ge j z1.length with h | h
      · exact h
      · rw [List.getElem?_eq_none (by rw [intVals_length]; exact h)] at hv; cases hv
    obtain ⟨b, o, e, -, hc⟩ := j1.at_ hj
    refine ⟨b, o, e, ?_⟩
    have hadd : (⟨b, o, none⟩ : Addr).add j = ⟨b, o + j, none⟩ := by
      rcases Nat.eq_zero_or_pos j with h | h
      · subst h; simp [Addr.add]
      · simp [Addr.add, Nat.ne_of_gt h]
    rw [hadd, hc, ← hv]
    simp [intVals, List.getElem?_map, List.getD_eq_getElem?_getD, List.getElem?_eq_getElem hj]
  have Hpos : Hid (0 < (intVals z1).length → ∃ ad, A1 = some ad ∧ ∀ j v, (intVals z1)[j]? = some v → w2.cell? (ad.add j) = some v) := fun h0 => by
    obtain ⟨b, o, e, -⟩ := Hj.out 0 ((intVals z1)[0]'h0) (List.getElem?_eq_getElem h0)
    refine ⟨_, e, fun j v hv => ?_⟩
    obtain ⟨b', o', e', hc⟩ := Hj.out j v hv
    rw [e] at e'
    injection e' with e'
    injection e' with e1 e2
    subst e1 e2
    exact hc
  clear j1 Hj
  go_upto_region 2 with (fail)
  go_wp2_with (first | (refine wpList_copy_splice rfl _ _ 25 25 rfl 3 Try.underlying25 (by kernel_rfl) (some ⟨w1.heap.size, 0, none⟩) A1 n1 n1 n1 c1 rfl rfl w1.heap.size 0 (List.replicate n1 (.int .i64 0)) 3 hh2 (intVals z1) (by rw [LL.out]; exact (Nat.min_self _).symm) (fun h0 => ⟨rfl, Hpos.out h0⟩) (by rw [LL.out]; simp) (oneCell_i64 z1) w1.heap.size w1 hb2 (Nat.le_refl _) ?_))
  intro w3 hh3 hb3
  have Hg : Hid (Grow w1 w3 (.slice (some ⟨w1.heap.size, 0, none⟩) n1 n1) n1 (mixL vs z1 0)) := ⟨full_own (by
    have h := hh3.out
    rw [show splice (List.replicate n1 (Value.int .i64 0)) 0 (intVals z1) = intVals z1 by simp [splice, LL.out]] at h
    simpa [mixL, outV] using h) (Nat.le_refl _) (by rw [intVals_length, mix_length]; exact L1.out) (by unfold maxLen; omega), hb3⟩
  clear hh2 hh3 hb2 bx2 g0 g1 Hpos hb3
  go_wp2_with fail
  go_loopw [18] (fun i wr => ∃ k : Nat, k ≤ n1 ∧ i = .int .i64 k ∧ Grow w1 wr (.slice (some ⟨w1.heap.size, 0, none⟩) n1 n1) n1 (mixL vs z1 k)) (fun i _ => n1 - (intOf i).toNat)
  case atStart => exact ⟨0, Nat.zero_le _, rfl, Hg.out⟩
  case round =>
    obtain ⟨k, hk, rfl, gr⟩ := hrel
    clear Hg
    by_cases hlt : k < n1
    · have hlt' : k < z1.length := by rw [L1.out]; exact hlt
      obtain ⟨u0, f0⟩ := gr.at_ hlt
      rw [mix_at vs z1 hlt'] at u0
      obtain ⟨y0, y1⟩ := HW.out _ (gD_mem (d := 0) hlt')
      obtain ⟨g, o, rfl, -, q0⟩ := (iv.below gr.low).at_ (j := (z1.getD k 0).toNat) (by rw [LV.out]; omega)
      have Hn : Hid (∀ x, vs.getD (z1.getD k 0).toNat 0 = x → (mixL vs z1 k).set k x = mixL vs z1 (k + 1)) := fun x hx => by rw [← hx]; exact mix_set vs z1 hlt'
      generalize z1.getD k 0 = y at *
      generalize vs.getD y.toNat 0 = x at *
      have hs := gr.set (Nat.le_refl _) k x
      rw [Hn.out x rfl] at hs
      have Hs := Lib.hid hs
      have k0 : (0 : Int) ≤ k := by omega
      have k1 : (k : Int) < n1 := by omega
      clear hs Hn gr i1 hlt'
      go_wp2_with fail
      go_roundw
      case rel => exact ⟨k + 1, by omega, by go_num, Hs.out⟩
      case measure => simp [intOf]; omega
    · obtain rfl : k = n1 := by omega
      have e1 := mix_all vs z1
      rw [L1.out] at e1
      rw [e1] at gr
      have hd := gr.done
      obtain ⟨A', m', c', he, hl, ho, hb⟩ := hd
      injection he with he
      injection he with he1 he2 he3
      subst he1 he2 he3
      have O := Lib.hid (ho.any.wide low1.size (Nat.le_refl _))
      have lowx := low1.trans (hb.mono low1.size)
      clear gr ho hl hb e1
      go_wp2_with fail
      go_ret
      exact ⟨_, _, _, rfl, O.out, lowx⟩
set_option maxRecDepth 100000 in
set_option maxHeartbeats 1000000 in
theorem impl_EvalCircuit (A0 : Option Addr) (n0 c0 : Nat) (z0 : List Int) (A1 : Option Addr) (n1 c1 : Nat) (z1 : List Int) (Ab : Option Addr) (nb cb : Nat) (bs : List Int) (w : World) (h0 : Ints w A0 z0) (l0 : z0.length = n0 * 3) (m0 : n0 ≤ 1000000000000) (h1 : Ints w A1 z1) (l1 : z1.length = n1) (m1 : n1 ≤ 1000000000) (hb : Ints w Ab bs) (lb : bs.length = nb) (mb : nb ≤ 1000000000000) :
    Calls Try.prog 45 #[.agg #[.slice A0 n0 c0, .slice A1 n1 c1], .slice Ab nb cb] w (Post_A_bool (evC z0 n0 z1 bs) (decide (evOk z0 n0 z1 bs)) w) := by
  have low := below_alloc w (.cells #[.slice A0 n0 c0, .slice A1 n1 c1] 27)
  have bx := heap_alloc_new w (.cells #[.slice A0 n0 c0, .slice A1 n1 c1] 27)
  have cW := impl_wireValues A0 n0 c0 z0 A1 n1 c1 z1 Ab nb cb bs _ (h0.al (.cells #[.slice A0 n0 c0, .slice A1 n1 c1] 27)) l0 m0 (h1.al _) l1 (by omega) (hb.al _) lb mb
  by_cases hok : evOk z0 n0 z1 bs
  case neg =>
    rw [decide_eq_false hok] at cW ⊢
    rw [show evC z0 n0 z1 bs = [] from if_neg hok]
    clear hok h0 h1 hb l0 l1 lb bx
    go_enter Try.func45, Try.ntmps45
    go_wp2_with fail
    refine cW.mono ?_
    rintro e w1 ⟨A, m, c, rfl, -, hb1⟩
    have lowx := low.trans (hb1.mono low.size)
    clear hb1 low
    go_wp2_with fail
    go_ret2
    exact ⟨none, 0, 0, rfl, OwnA.nil _ _ _ _, lowx⟩
  rw [decide_eq_true hok] at cW ⊢
  rw [show evW z0 n0 z1 bs = wv z0 bs n0 from if_pos hok] at cW
  rw [show evC z0 n0 z1 bs = outV (wv z0 bs n0) z1 from if_pos hok]
  have HW := Lib.hid hok.1.2.2
  have n6 := hok.1.1
  have LV := Lib.hid (wv_length z0 bs n0)
  generalize wv z0 bs n0 = vs at *
  have i1 := h1.bound.below low
  have L1 := Lib.hid l1
  clear hok h0 h1 hb l0 l1 lb
  go_enter Try.func45, Try.ntmps45
  go_wp2_with fail
  refine cW.mono ?_
  rintro e w1 ⟨A, m, c, rfl, ho, hb1⟩
  have bx1 := heap_below bx hb1
  have low1 := low.trans (hb1.mono low.size)
  replace i1 := i1.below (hb1.mono low.size)
  obtain rfl : m = n0 := by rw [← ho.len1, LV.out]
  have cO := impl_atOutputs A0 m c0 A1 n1 c1 z1 A m c vs w1 (i1.ints low1.size) L1.out m1 ho.ints LV.out HW.out
  clear hb1 low bx cW ho
  have g0 := (blk (i := 0) bx1 rfl).1
  have g1 := (blk (i := 1) bx1 rfl).1
  go_wp2_with fail
  refine cO.mono ?_
  rintro e w2 ⟨A', m', c', rfl, ho2, hb2⟩
  have O := Lib.hid (ho2.wide low1.size (Nat.le_refl _))
  have lowx := low1.trans (hb2.mono low1.size)
  clear ho2 hb2 cO
  go_wp2_with fail
  go_ret2
  exact ⟨_, _, _, rfl, O.out, lowx⟩
end Go.Proofs.Ytbbdmgomcpmhpaa

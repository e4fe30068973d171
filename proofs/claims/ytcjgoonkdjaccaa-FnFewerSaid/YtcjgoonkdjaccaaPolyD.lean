/- Counting polynomials: the program's count is the model's. -/
import Derived.Test.YtcjgoonkdjaccaaProg
import Derived.Test.YtcjgoonkdjaccaaPolyW
import Derived.Test.YtcjgoonkdjaccaaPolyC
import Derived.Test.YtcjgoonkdjaccaaPolyG
namespace Go.Proofs.Ytcjgoonkdjaccaa
open Go Go.RowKit
theorem impl_PolyAt_keep (p : Int) (A : Option Addr) (n c : Nat) (xs : List Int) (x r : Int) (hr : polyI p xs x = r) (q : Addr) (v : Value) (B : Nat) (w0 w : World) (hi : IntsB B w0 A xs) (hl : xs.length = n) (hn : n ≤ 2000000) (hc : w.cell? q = some v) (hb : Below B w0 w) (hB : B ≤ w.heap.size) :
    Calls Try.prog 18 #[.int .i64 p, .slice A n c, .int .i64 x] w fun e w' => e = .returned (.int .i64 r) ∧ w'.cell? q = some v ∧ Below B w0 w' ∧ B ≤ w'.heap.size :=
  (impl_PolyAt p A n c xs x r hr w ((hi.below hb).ints hB) hl hn).mono fun _ _ ⟨he, hb'⟩ => ⟨he, (hb'.cell (World.block_lt_of_cell? w q hc)).trans hc, hb.trans (hb'.mono hB), Nat.le_trans hB hb'.size⟩
set_option maxRecDepth 100000 in
set_option maxHeartbeats 2000000 in
theorem impl_hasValues (p : Int) (L A B : Option Addr) (nL cL n c d : Nat) (cs pts vals : List Int) (r : Bool) (hr : decide (hasV p cs pts vals) = r) (w : World) (hL : Ints w L cs) (hx : Ints w A pts) (hy : Ints w B vals) (ll : cs.length = nL) (lx : pts.length = n) (ly : vals.length = n) (ml : nL ≤ 2000000) (mx : n ≤ 2000000) (hel : allEl p cs) (ha : allEl p pts) :
    Calls Try.prog 80 #[.int .i64 p, .slice L nL cL, .slice A n c, .slice B n d] w fun e w' => e = .returned (.bool r) ∧ Below w.heap.size w w' := by
  have Hr := Lib.hid hr
  have LL := Lib.hid ll
  have LX := Lib.hid lx
  have LY := Lib.hid ly
  clear hr ll lx ly
  go_enter Try.func80, Try.ntmps80
  go_wp2_with fail
  go_loopw [13] (fun i wr => ∃ k : Nat, k ≤ n ∧ i = .int .i64 k ∧ Hid (∀ i, i < k → atI p cs (pts.getD i 0) = vals.getD i 0) ∧ Below w.heap.size w wr) (fun i _ => n - (intOf i).toNat)
  case atStart => exact ⟨0, Nat.zero_le _, rfl, fun _ h => by omega, Below.refl _ _⟩
  case round =>
    obtain ⟨k, hk, rfl, hall, hlow⟩ := hrel
    by_cases hlt : k < n
    · obtain ⟨b1, o1, rfl, _, c1⟩ := (hx.bound.below hlow).at_ (j := k) (by rw [LX.out]; exact hlt)
      obtain ⟨b2, o2, rfl, _, c2⟩ := (hy.bound.below hlow).at_ (j := k) (by rw [LY.out]; exact hlt)
      have hpe : isEl p (pts.getD k 0) := isEl_at ha (by rw [LX.out]; exact hlt)
      obtain ⟨z, hz⟩ : ∃ z, atI p cs (pts.getD k 0) = z := ⟨_, rfl⟩
      have Hz0 := Lib.hid hz
      have Hz : Hid (polyI p cs (pts.getD k 0) = z) := (polyI_yes hel.2 hpe).trans hz
      have Hno : Hid (z ≠ vals.getD k 0 → r = false) := fun e => by rw [← Hr.out]; exact decide_eq_false (fun h => e (by rw [← Hz0.out]; exact h k (by rw [LX.out]; exact hlt)))
      have Hnx : Hid (z = vals.getD k 0 → ∀ i, i < k + 1 → atI p cs (pts.getD i 0) = vals.getD i 0) := fun e i hi => by
        rcases Nat.lt_or_ge i k with h | h
        · exact hall.out i h
        · obtain rfl : i = k := by omega
          rw [Hz0.out, e]
      clear Hz0 hall hz hpe
      generalize pts.getD k 0 = x at c1 Hz
      generalize vals.getD k 0 = y at c2 Hno Hnx
      have HL := Lib.hid hL.bound
      have hsz := hlow.size
      have hlow1 := hlow.drew
      have k0 : (0 : Int) ≤ k := by omega
      have k1 : (k : Int) < n := by omega
      clear hx hy hL
      by_cases hzy : z = y
      · have Hn := Lib.hid (Hnx.out hzy)
        clear Hno Hnx
        subst hzy
        go_wp2_with fail
        go_region_held3 (fun w' => w'.cell? ⟨b2, o2 + k, none⟩ = some (.int .i64 z) ∧ Below w.heap.size w w' ∧ w.heap.size ≤ w'.heap.size) (first | go_keep | (refine ⟨?_, ?_, ?_⟩ <;> first | assumption | (simp [*]; done))) (first | (go_at_call 18; (with_reducible refine (impl_PolyAt_keep p L nL cL cs x z Hz.out ⟨b2, o2 + k, none⟩ (.int .i64 z) w.heap.size w _ HL.out LL.out ml ?_ ?_ ?_).mono ?_); assumption; assumption; assumption; rintro e w' ⟨rfl, hc1, hb1, hz1⟩))
        all_goals
          go_wp2_with fail
          go_roundw
          case rel => exact ⟨k + 1, by omega, by go_num, Hn, by assumption⟩
          case measure => simp [intOf]; omega
      · have Hn := Lib.hid (Hno.out hzy)
        have hbeq : (z == y) = false := beq_eq_false_iff_ne.2 hzy
        clear Hno Hnx
        go_wp2_with fail
        go_region_held3 (fun w' => w'.cell? ⟨b2, o2 + k, none⟩ = some (.int .i64 y) ∧ Below w.heap.size w w' ∧ w.heap.size ≤ w'.heap.size) (first | go_keep | (refine ⟨?_, ?_, ?_⟩ <;> first | assumption | (simp [*]; done))) (first | (go_at_call 18; (with_reducible refine (impl_PolyAt_keep p L nL cL cs x z Hz.out ⟨b2, o2 + k, none⟩ (.int .i64 y) w.heap.size w _ HL.out LL.out ml ?_ ?_ ?_).mono ?_); assumption; assumption; assumption; rintro e w' ⟨rfl, hc1, hb1, hz1⟩))
        all_goals
          go_wp2_with fail
          go_ret
          exact ⟨ret_bool Hn.out.symm, by assumption⟩
    · obtain rfl : k = n := by omega
      have Hd := Lib.hid (show r = true by rw [← Hr.out]; exact decide_eq_true (by intro i hi; exact hall.out i (by rw [← LX.out]; exact hi)))
      go_wp2_with fail
      go_ret
      exact ⟨ret_bool Hd.out.symm, hlow⟩
set_option maxRecDepth 100000 in
set_option maxHeartbeats 2000000 in
theorem impl_countLonger (p : Int) (q : Nat) (hq : (q : Int) = p) (hp7 : p ≤ 7) (A B : Option Addr) (n c d : Nat) (pts vals : List Int) (lx : pts.length = n) (ly : vals.length = n) (mx : n ≤ 5) (ha : allEl p pts) :
    ∀ (j : Nat), j ≤ 3 → ∀ (L : Option Addr) (nL cL : Nat) (cs : List Int) (r : Int), nL + j ≤ 10 → cs.length = nL → allEl p cs → cntQ p q pts vals j cs = r →
    ∀ w : World, Ints w L cs → Ints w A pts → Ints w B vals →
    Calls Try.prog 51 #[.int .i64 p, .slice L nL cL, .int .i64 j, .slice A n c, .slice B n d] w fun e w' => e = .returned (.int .i64 r) ∧ Below w.heap.size w w' := by
  intro j
  induction j with
  | zero =>
    intro _ L nL cL cs r hnj hcs hel hr w hL hx hy
    by_cases hv : hasV p cs pts vals
    · have e : r = 1 := by rw [← hr]; exact if_pos hv
      have Hv := Lib.hid (decide_eq_true hv)
      subst e
      clear hr hv
      go_enter Try.func51, Try.ntmps51
      go_wp2_with fail
      refine (impl_hasValues p L A B nL cL n c d cs pts vals true Hv.out w hL hx hy hcs lx ly (by omega) (by omega) hel ha).mono ?_
      rintro e w1 ⟨rfl, hb⟩
      go_wp2_with fail
      go_ret
      exact ⟨rfl, hb⟩
    · have e : r = 0 := by rw [← hr]; exact if_neg hv
      have Hv := Lib.hid (decide_eq_false hv)
      subst e
      clear hr hv
      go_enter Try.func51, Try.ntmps51
      go_wp2_with fail
      refine (impl_hasValues p L A B nL cL n c d cs pts vals false Hv.out w hL hx hy hcs lx ly (by omega) (by omega) hel ha).mono ?_
      rintro e w1 ⟨rfl, hb⟩
      go_wp2_with fail
      go_ret
      exact ⟨rfl, hb⟩
  | succ j ih =>
    intro hj L nL cL cs r hnj hcs hel hr w hL hx hy
    have LC := Lib.hid hcs
    have Ih := Lib.hid ih
    have Hel := Lib.hid hel
    have Hr := Lib.hid ((cntQ_next p q pts vals j cs).symm.trans hr)
    have hp := ha.1.range
    have hqp : (q : Int) ≤ p := by omega
    have hpq : p ≤ (q : Int) := by omega
    have q7 : q ≤ 7 := by omega
    obtain ⟨kk, hkk⟩ : ∃ kk : Int, ((j + 1 : Nat) : Int) = kk := ⟨_, rfl⟩
    rw [hkk]
    have hne : (kk == 0) = false := beq_eq_false_iff_ne.2 (by omega)
    have hj1 : kk - 1 = (j : Int) := by omega
    have hkk1 : 1 ≤ kk ∧ kk ≤ 3 := by omega
    have hj0 : (0 : Int) ≤ j := by omega
    have hj3 : (j : Int) ≤ 3 := by omega
    have nb : nL ≤ 10 := by omega
    have Hnj := Lib.hid hnj
    clear ih hcs hel hr ha lx ly hq hnj hkk
    go_enter Try.func51, Try.ntmps51
    go_wp2_with fail
    go_loopw [11, 21] (fun s i wr => ∃ a : Nat, a ≤ q ∧ i = .int .i64 a ∧ s = .int .i64 (sumTo (fun a => cntQ p q pts vals j (cs ++ [(a : Int)])) a) ∧ Below w.heap.size w wr) (fun _ i _ => q - (intOf i).toNat)
    case atStart => exact ⟨0, Nat.zero_le _, rfl, rfl, Below.refl _ _⟩
    case round =>
      obtain ⟨a, hak, rfl, rfl, hlow⟩ := hrel
      by_cases hlt : a < q
      · have hap : (a : Int) < p := by omega
        have a0 : (0 : Int) ≤ a := by omega
        have hsm := sumTo_small (p := p) q7 pts vals (show j ≤ 3 by omega) cs (show a ≤ 7 by omega)
        have hs2 := cntQ_small (p := p) q7 pts vals (show j ≤ 3 by omega) (cs ++ [(a : Int)])
        have hnx := sumTo_next (fun a => cntQ p q pts vals j (cs ++ [(a : Int)])) a
        generalize sumTo (fun a => cntQ p q pts vals j (cs ++ [(a : Int)])) a = u at hsm hnx
        obtain ⟨v, hv⟩ : ∃ v, cntQ p q pts vals j (cs ++ [(a : Int)]) = v := ⟨_, rfl⟩
        have hnx2 : sumTo (fun a => cntQ p q pts vals j (cs ++ [(a : Int)])) (a + 1) = u + v := by rw [hnx, ← hv]
        rw [hv] at hs2
        have Hv := Lib.hid hv
        have Hnx := Lib.hid hnx2
        obtain ⟨s0, s1⟩ := hsm
        obtain ⟨v0, v1⟩ := hs2
        clear hv hnx hnx2
        have k1 : Below w.heap.size w ((wr.alloc (.cells #[.int .i64 a] 3)).alloc (.cells #[.slice L nL cL, .slice (some ⟨wr.heap.size, 0, none⟩) 1 1] 24)) := (hlow.alloc hlow.size _).alloc (Nat.le_trans hlow.size (by simp)) _
        have hblk : ((wr.alloc (.cells #[.int .i64 a] 3)).alloc (.cells #[.slice L nL cL, .slice (some ⟨wr.heap.size, 0, none⟩) 1 1] 24)).heap[wr.heap.size + 1]? = some (.cells #[.slice L nL cL, .slice (some ⟨wr.heap.size, 0, none⟩) 1 1] 24 (0, 0)) := by
          have := heap_alloc_new (wr.alloc (.cells #[.int .i64 a] 3)) (.cells #[.slice L nL cL, .slice (some ⟨wr.heap.size, 0, none⟩) 1 1] 24)
          simpa using this
        have iL := Lib.hid ((hL.bound.below k1).ints k1.size)
        have i1 := Lib.hid ((ints_one wr (a : Int) 3).below (below_alloc _ (.cells #[.slice L nL cL, .slice (some ⟨wr.heap.size, 0, none⟩) 1 1] 24)))
        have Hblk := Lib.hid hblk
        have K1 := Lib.hid k1
        clear hblk k1 hlow
        go_wp2_with fail
        refine (impl_Concat (wr.heap.size + 1) L (some ⟨wr.heap.size, 0, none⟩) nL cL 1 1 cs [(a : Int)] _ Hblk.out iL.out i1.out LC.out rfl (by omega) (by omega)).mono ?_
        intro e w7 h7
        obtain ⟨A7, m7, c7, rfl, hl7, g7⟩ := h7.grow
        have hlow7 := K1.out.trans (g7.low.mono K1.out.size)
        have iL7 := Lib.hid (Ints.of_own g7.own)
        have ix := (hx.bound.below hlow7).ints hlow7.size
        have iy := (hy.bound.below hlow7).ints hlow7.size
        have hm7 : m7 = nL + 1 := by rw [← hl7, List.length_append, LC.out]; rfl
        subst hm7
        have Hl7 := Lib.hid hl7
        have hel7 := Lib.hid (el_snoc Hel.out (⟨Hel.out.1, a0, hap⟩ : isEl p (a : Int)))
        clear h7 g7 hl7 hx hy hL
        go_wp2_with fail
        refine (Ih.out (by omega) A7 (nL + 1) c7 (cs ++ [(a : Int)]) v (by have := Hnj.out; omega) Hl7.out hel7.out Hv.out w7 iL7.out ix iy).mono ?_
        rintro e w8 ⟨rfl, hb⟩
        replace hlow7 := hlow7.trans (hb.mono hlow7.size)
        clear hb
        go_wp2_with fail
        go_roundw
        case rel => exact ⟨a + 1, by omega, by go_num, by rw [Hnx.out], hlow7⟩
        case measure => simp [intOf]; omega
      · obtain rfl : a = q := by omega
        rw [Hr.out]
        go_wp2_with fail
        go_ret
        exact ⟨rfl, hlow⟩
theorem el_append {p : Int} {a b : List Int} : allEl p (a ++ b) ↔ allEl p a ∧ allEl p b := by
  constructor
  · intro h
    exact ⟨⟨h.1, fun x hx => h.2 x (List.mem_append_left _ hx)⟩, ⟨h.1, fun x hx => h.2 x (List.mem_append_right _ hx)⟩⟩
  · rintro ⟨h1, h2⟩
    exact ⟨h1.1, fun x hx => (List.mem_append.1 hx).elim (h1.2 x) (h2.2 x)⟩
set_option maxHeartbeats 1000000 in
theorem impl_CountPolys (p x k : Int) (A B : Option Addr) (n c m d : Nat) (pts vals : List Int) (r : Int) (hr : ctI p x k pts vals = r) (w : World) (hx : Ints w A pts) (hy : Ints w B vals) (lx : pts.length = n) (ly : vals.length = m) (mx : n ≤ 2000000) (my : m ≤ 2000000) :
    Calls Try.prog 19 #[.int .i64 p, .int .i64 x, .int .i64 k, .slice A n c, .slice B m d] w fun e w' => e = .returned (.int .i64 r) ∧ Below w.heap.size w w' := by
  subst hr
  have LX := Lib.hid lx
  have LY := Lib.hid ly
  by_cases hel : isEl p x
  · have Hdx := Lib.hid (decide_eq_true hel)
    by_cases hk : 0 ≤ k ∧ k ≤ 3
    · have hk0 : ¬ k < 0 := by omega
      have hk3 : ¬ 3 < k := by omega
      by_cases hp7 : p ≤ 7
      · have hp7' : ¬ 7 < p := by omega
        by_cases hnm : m = n
        · subst hnm
          by_cases h5 : m ≤ 5
          · have h5' : ¬ (5 : Int) < (m : Int) := by omega
            have Hblk := Lib.hid (heap_alloc_new w (.cells #[.slice A m c, .slice B m d] 24))
            have k1 := below_alloc w (.cells #[.slice A m c, .slice B m d] 24)
            by_cases ha : allEl p pts ∧ allEl p vals
            · have Hdc := Lib.hid (decide_eq_true (el_append.2 ha))
              obtain ⟨K, rfl⟩ : ∃ K : Nat, k = K := ⟨k.toNat, by omega⟩
              have hp := hel.range
              have e0 : ctI p x K pts vals = cntQ p p.toNat pts vals K [x] := (if_pos ⟨hel, hk, hp7, by omega, by omega, ha.1, ha.2⟩).trans (by simp)
              rw [e0]
              have hone := fsum_one.2 hel
              have HA := Lib.hid ha.1
              clear ha hel e0
              go_enter Try.func19, Try.ntmps19
              go_wp2_with fail
              refine (impl_IsElement p x w).mono ?_
              rintro e w1 ⟨rfl, rfl⟩
              rw [Hdx.out]
              go_wp2_with fail
              refine (impl_Concat w.heap.size A B _ c _ d pts vals _ Hblk.out (hx.below k1) (hy.below k1) LX.out LY.out mx my).mono ?_
              intro e w7 h7
              obtain ⟨A7, m7, c7, rfl, hl7, g7⟩ := h7.grow
              have k2 := k1.trans (g7.low.mono k1.size)
              have i7 := Ints.of_own g7.own
              have hm7 : m7 ≤ 1000000000 := by rw [← hl7, List.length_append, LX.out, LY.out]; omega
              have Hl7 := Lib.hid hl7
              clear h7 g7 hl7
              go_wp2_with fail
              refine (impl_allElements p A7 m7 c7 (pts ++ vals) true Hdc.out w7 i7 Hl7.out hm7).mono ?_
              rintro e w8 ⟨rfl, hb⟩
              have k3 := k2.trans (hb.mono k2.size)
              have k4 := k3.trans ((below_alloc w8 (.cells #[.int .i64 x] 3)).mono k3.size)
              have hc := impl_countLonger p p.toNat (by omega) hp7 A B m c d pts vals lx ly h5 HA.out K (by omega) (some ⟨w8.heap.size, 0, none⟩) 1 1 [x] _ (by omega) rfl hone rfl _ (ints_one w8 x 3) ((hx.bound.below k4).ints k4.size) ((hy.bound.below k4).ints k4.size)
              have Hc := Lib.hid hc
              clear hc lx ly hb hx hy
              go_wp2_with fail
              refine Hc.out.mono ?_
              rintro e w9 ⟨rfl, hb⟩
              go_wp2_with fail
              go_ret
              exact ⟨rfl, k4.trans (hb.mono k4.size)⟩
            · have Hdc := Lib.hid (decide_eq_false (fun e => ha (el_append.1 e)))
              rw [ctI_no (fun e => ha ⟨e.2.2.2.2.2.1, e.2.2.2.2.2.2⟩)]
              clear ha hel lx ly
              go_enter Try.func19, Try.ntmps19
              go_wp2_with fail
              refine (impl_IsElement p x w).mono ?_
              rintro e w1 ⟨rfl, rfl⟩
              rw [Hdx.out]
              go_wp2_with fail
              refine (impl_Concat w.heap.size A B _ c _ d pts vals _ Hblk.out (hx.below k1) (hy.below k1) LX.out LY.out mx my).mono ?_
              intro e w7 h7
              obtain ⟨A7, m7, c7, rfl, hl7, g7⟩ := h7.grow
              have k2 := k1.trans (g7.low.mono k1.size)
              have i7 := Ints.of_own g7.own
              have hm7 : m7 ≤ 1000000000 := by rw [← hl7, List.length_append, LX.out, LY.out]; omega
              have Hl7 := Lib.hid hl7
              clear h7 g7 hl7
              go_wp2_with fail
              refine (impl_allElements p A7 m7 c7 (pts ++ vals) false Hdc.out w7 i7 Hl7.out hm7).mono ?_
              rintro e w8 ⟨rfl, hb⟩
              have k3 := k2.trans (hb.mono k2.size)
              go_wp2_with fail
              go_ret
              exact ⟨rfl, k3⟩
          · rw [ctI_no (fun e => h5 (by rw [← lx]; exact e.2.2.2.1))]
            have h5' : (5 : Int) < (m : Int) := by omega
            clear hel lx ly
            go_enter Try.func19, Try.ntmps19
            go_wp2_with fail
            refine (impl_IsElement p x w).mono ?_
            rintro e w1 ⟨rfl, rfl⟩
            rw [Hdx.out]
            go_wp2_with fail
            go_ret
            exact ⟨rfl, Below.refl _ _⟩
        · rw [ctI_no (fun e => hnm (by rw [← ly, ← lx, e.2.2.2.2.1]))]
          have hne : ((n : Int) == (m : Int)) = false := beq_eq_false_iff_ne.2 (by omega)
          clear hel lx ly
          go_enter Try.func19, Try.ntmps19
          go_wp2_with fail
          refine (impl_IsElement p x w).mono ?_
          rintro e w1 ⟨rfl, rfl⟩
          rw [Hdx.out]
          go_wp2_with fail
          go_ret
          exact ⟨rfl, Below.refl _ _⟩
      · rw [ctI_no (fun e => hp7 e.2.2.1)]
        have hp7' : 7 < p := by omega
        clear hel lx ly
        go_enter Try.func19, Try.ntmps19
        go_wp2_with fail
        refine (impl_IsElement p x w).mono ?_
        rintro e w1 ⟨rfl, rfl⟩
        rw [Hdx.out]
        go_wp2_with fail
        go_ret
        exact ⟨rfl, Below.refl _ _⟩
    · rw [ctI_no (fun e => hk e.2.1)]
      clear hel lx ly
      by_cases hk0 : k < 0
      · clear hk
        go_enter Try.func19, Try.ntmps19
        go_wp2_with fail
        refine (impl_IsElement p x w).mono ?_
        rintro e w1 ⟨rfl, rfl⟩
        rw [Hdx.out]
        go_wp2_with fail
        go_ret
        exact ⟨rfl, Below.refl _ _⟩
      · have hk3 : 3 < k := by omega
        clear hk
        go_enter Try.func19, Try.ntmps19
        go_wp2_with fail
        refine (impl_IsElement p x w).mono ?_
        rintro e w1 ⟨rfl, rfl⟩
        rw [Hdx.out]
        go_wp2_with fail
        go_ret
        exact ⟨rfl, Below.refl _ _⟩
  · rw [ctI_no (fun e => hel e.1)]
    have Hdx := Lib.hid (decide_eq_false hel)
    clear hel lx ly
    go_enter Try.func19, Try.ntmps19
    go_wp2_with fail
    refine (impl_IsElement p x w).mono ?_
    rintro e w1 ⟨rfl, rfl⟩
    rw [Hdx.out]
    go_wp2_with fail
    go_ret
    exact ⟨rfl, Below.refl _ _⟩
theorem ex_impl_CountPolys (p x k : Int) (A : Option Addr) (n c : Nat) (xs : List Int) (B : Option Addr) (m d : Nat) (ys : List Int) (w : World) (hxs : Ints w A xs) (lxs : xs.length = n) (mxs : n ≤ 2000000) (hys : Ints w B ys) (lys : ys.length = m) (mys : m ≤ 2000000) : Calls Try.prog 19 #[.int .i64 p, .int .i64 x, .int .i64 k, .slice A n c, .slice B m d] w (Post_int (ctI p x k xs ys) w) :=
  impl_CountPolys p x k A B n c m d xs ys _ rfl w hxs hys lxs lys mxs mys
theorem ex_spec_CountPolys (p x k : Int) (A : Option Addr) (n c : Nat) (xs : List Int) (B : Option Addr) (m d : Nat) (ys : List Int) (w : World) (hxs : Ints w A xs) (lxs : xs.length = n) (mxs : n ≤ 2000000) (hys : Ints w B ys) (lys : ys.length = m) (mys : m ≤ 2000000) : Calls Try.prog 31 #[.int .i64 p, .int .i64 x, .int .i64 k, .slice A n c, .slice B m d] w (Post_int (ctI p x k xs ys) w) :=
  spec_CountPolys p x k A B n c m d xs ys w hxs hys lxs lys mxs mys
end Go.Proofs.Ytcjgoonkdjaccaa

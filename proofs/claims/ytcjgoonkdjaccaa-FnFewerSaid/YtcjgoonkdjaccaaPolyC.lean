/- Counting polynomials: in plain numbers, and the model's count. -/
import Derived.Test.YtcjgoonkdjaccaaProg
import Derived.Test.YtcjgoonkdjaccaaPolyS
import Derived.Test.YtcjgoonkdjaccaaGrow
import Derived.Test.YtcjgoonkdjaccaaPost
import Derived.Test.YtcjgoonkdjaccaaShareU
namespace Go.Proofs.Ytcjgoonkdjaccaa
open Go Go.RowKit
/-- The polynomial has these values at these points. -/
def hasV (p : Int) (cs pts vals : List Int) : Prop := ∀ i, i < pts.length → atI p cs (pts.getD i 0) = vals.getD i 0
instance (p : Int) (cs pts vals : List Int) : Decidable (hasV p cs pts vals) := by unfold hasV; infer_instance
def sumTo (f : Nat → Int) : Nat → Int
  | 0 => 0
  | k + 1 => sumTo f k + f k
theorem sumTo_next (f : Nat → Int) (k : Nat) : sumTo f (k + 1) = sumTo f k + f k := rfl
theorem sumTo_range {f : Nat → Int} {b : Int} (h : ∀ k, 0 ≤ f k ∧ f k ≤ b) (k : Nat) : 0 ≤ sumTo f k ∧ sumTo f k ≤ (k : Int) * b := by
  induction k with
  | zero => simp [sumTo]
  | succ k ih =>
    have := h k
    rw [sumTo_next, Int.natCast_add, Int.add_mul]
    omega
/-- How many polynomials begin with these coefficients, have j more, and the values. -/
def cntQ (p : Int) (q : Nat) (pts vals : List Int) : Nat → List Int → Int
  | 0, cs => if hasV p cs pts vals then 1 else 0
  | j + 1, cs => sumTo (fun a => cntQ p q pts vals j (cs ++ [(a : Int)])) q
theorem cntQ_next (p : Int) (q : Nat) (pts vals : List Int) (j : Nat) (cs : List Int) : cntQ p q pts vals (j + 1) cs = sumTo (fun a => cntQ p q pts vals j (cs ++ [(a : Int)])) q := rfl
theorem cntQ_range (p : Int) (q : Nat) (pts vals : List Int) (j : Nat) (cs : List Int) : 0 ≤ cntQ p q pts vals j cs ∧ cntQ p q pts vals j cs ≤ ((q ^ j : Nat) : Int) := by
  induction j generalizing cs with
  | zero =>
    show 0 ≤ (if hasV p cs pts vals then (1 : Int) else 0) ∧ (if hasV p cs pts vals then (1 : Int) else 0) ≤ _
    split <;> simp
  | succ j ih =>
    have := sumTo_range (f := fun a => cntQ p q pts vals j (cs ++ [(a : Int)])) (fun a => ih _) q
    rw [cntQ_next]
    refine ⟨this.1, Int.le_trans this.2 ?_⟩
    rw [Nat.pow_succ, Nat.mul_comm, Int.natCast_mul]
    exact Int.le_refl _
theorem cntQ_small {p : Int} {q : Nat} (hq : q ≤ 7) (pts vals : List Int) {j : Nat} (hj : j ≤ 3) (cs : List Int) : 0 ≤ cntQ p q pts vals j cs ∧ cntQ p q pts vals j cs ≤ 343 := by
  have h := cntQ_range p q pts vals j cs
  refine ⟨h.1, Int.le_trans h.2 ?_⟩
  have h1 : q ^ j ≤ 7 ^ j := Nat.pow_le_pow_left hq j
  have h2 : 7 ^ j ≤ 7 ^ 3 := Nat.pow_le_pow_right (by omega) hj
  have : q ^ j ≤ 343 := Nat.le_trans h1 (Nat.le_trans h2 (by decide))
  omega
theorem sumTo_small {p : Int} {q : Nat} (hq : q ≤ 7) (pts vals : List Int) {j : Nat} (hj : j ≤ 3) (cs : List Int) {a : Nat} (ha : a ≤ 7) : 0 ≤ sumTo (fun a => cntQ p q pts vals j (cs ++ [(a : Int)])) a ∧ sumTo (fun a => cntQ p q pts vals j (cs ++ [(a : Int)])) a ≤ 2401 := by
  have h := sumTo_range (f := fun a => cntQ p q pts vals j (cs ++ [(a : Int)])) (fun a => cntQ_small hq pts vals hj _) a
  refine ⟨h.1, Int.le_trans h.2 ?_⟩
  omega
def ctOk (p x k : Int) (pts vals : List Int) : Prop := isEl p x ∧ (0 ≤ k ∧ k ≤ 3) ∧ p ≤ 7 ∧ pts.length ≤ 5 ∧ vals.length = pts.length ∧ allEl p pts ∧ allEl p vals
instance (p x k : Int) (pts vals : List Int) : Decidable (ctOk p x k pts vals) := by unfold ctOk; infer_instance
def ctI (p x k : Int) (pts vals : List Int) : Int := if ctOk p x k pts vals then cntQ p p.toNat pts vals k.toNat [x] else 0
theorem ctI_no {p x k : Int} {pts vals : List Int} (h : ¬ ctOk p x k pts vals) : ctI p x k pts vals = 0 := if_neg h
theorem el_snoc {p : Int} {cs : List Int} {a : Int} (h : allEl p cs) (ha : isEl p a) : allEl p (cs ++ [a]) := ⟨h.1, fun y hy => by
  rcases List.mem_append.1 hy with e | e
  · exact h.2 y e
  · have : y = a := by simpa using e
    rw [this]; exact ha⟩
theorem hasV_yes {p : Int} {cs pts vals : List Int} (h : ∀ i, i < pts.length → atI p cs (pts.getD i 0) = vals.getD i 0) (q : Nat) : cntQ p q pts vals 0 cs = 1 := if_pos h
theorem hasV_no {p : Int} {cs pts vals : List Int} {i : Nat} (hi : i < pts.length) (h : atI p cs (pts.getD i 0) ≠ vals.getD i 0) (q : Nat) : cntQ p q pts vals 0 cs = 0 := if_neg (fun e => h (e i hi))
theorem spec_l07At_q (p : Int) (A : Option Addr) (n c : Nat) (xs : List Int) (x r : Int) (hr : atI p xs x = r) (w : World) (k : Nat) (hxs : Ints w A xs) (hl : xs.length = n) (hn : n ≤ 2000000) (ha : allEl p xs) (hx : isEl p x) :
    Calls Try.prog 55 #[.int .i64 p, .slice A n c, .int .i64 x] (w.drewN k) fun e w' => e = .returned (.int .i64 r) ∧ ∃ m, w' = w.drewN m :=
  (spec_l07At p A n c xs x r hr (w.drewN k) hxs hl hn ha hx).mono fun _ _ ⟨he, hd⟩ => ⟨he, k, hd.symm⟩
set_option maxRecDepth 100000 in
set_option maxHeartbeats 2000000 in
theorem spec_l07Count (p : Int) (q : Nat) (hq : (q : Int) = p) (hp7 : p ≤ 7) (K : Nat) (hK : K ≤ 3) (A B : Option Addr) (n c d : Nat) (pts vals : List Int) (lx : pts.length = n) (ly : vals.length = n) (mx : n ≤ 5) (ha : allEl p pts) :
    ∀ (j : Nat), j ≤ 3 → ∀ (L : Option Addr) (nL cL : Nat) (cs : List Int) (r : Int), nL + j = K + 1 → cs.length = nL → allEl p cs → cntQ p q pts vals j cs = r →
    ∀ w : World, Ints w L cs → Ints w A pts → Ints w B vals →
    Calls Try.prog 61 #[.int .i64 p, .slice L nL cL, .int .i64 K, .slice A n c, .slice B n d] w fun e w' => e = .returned (.int .i64 r) ∧ Below w.heap.size w w' := by
  intro j
  induction j with
  | zero =>
    intro _ L nL cL cs r hnj hcs hel hr w hL hx hy
    have LX := Lib.hid lx
    have LY := Lib.hid ly
    have LC := Lib.hid hcs
    have hle : ¬ (nL : Int) ≤ (K : Int) := by omega
    have nb : nL ≤ 2000000 := by omega
    have Hr := Lib.hid hr
    clear lx ly hcs hr
    go_enter Try.func61, Try.ntmps61
    go_wp2_with fail
    go_loopw [13] (fun i wr => ∃ k : Nat, k ≤ n ∧ i = .int .i64 k ∧ Hid (∀ i, i < k → atI p cs (pts.getD i 0) = vals.getD i 0) ∧ Below w.heap.size w wr) (fun i _ => n - (intOf i).toNat)
    case atStart => exact ⟨0, Nat.zero_le _, rfl, fun _ h => by omega, Below.refl _ _⟩
    case round =>
      obtain ⟨k, hk, rfl, hall, hlow⟩ := hrel
      by_cases hlt : k < n
      · obtain ⟨b1, o1, rfl, _, c1⟩ := (hx.bound.below hlow).at_ (j := k) (by rw [LX.out]; exact hlt)
        obtain ⟨b2, o2, rfl, _, c2⟩ := (hy.bound.below hlow).at_ (j := k) (by rw [LY.out]; exact hlt)
        have hpe : isEl p (pts.getD k 0) := isEl_at ha (by rw [LX.out]; exact hlt)
        obtain ⟨z, hz⟩ : ∃ z, atI p cs (pts.getD k 0) = z := ⟨_, rfl⟩
        have Hz0 := Lib.hid hz
        have Hno : Hid (z ≠ vals.getD k 0 → r = 0) := fun e => by rw [← Hr.out]; exact hasV_no (by rw [LX.out]; exact hlt) (by rw [Hz0.out]; exact e) q
        have Hnx : Hid (z = vals.getD k 0 → ∀ i, i < k + 1 → atI p cs (pts.getD i 0) = vals.getD i 0) := fun e i hi => by
          rcases Nat.lt_or_ge i k with h | h
          · exact hall.out i h
          · obtain rfl : i = k := by omega
            rw [Hz0.out, e]
        clear Hz0 hall
        have Hpe := Lib.hid hpe
        have Hz := Lib.hid hz
        clear hpe hz
        generalize pts.getD k 0 = x at c1 Hpe Hz
        generalize vals.getD k 0 = y at c2 Hno Hnx
        have iL := (hL.bound.below hlow).ints hlow.size
        have k0 : (0 : Int) ≤ k := by omega
        have k1 : (k : Int) < n := by omega
        by_cases hzy : z = y
        · have Hn := Lib.hid (Hnx.out hzy)
          clear Hno Hnx
          subst hzy
          clear hx hy hL
          go_wp2_with fail
          go_quiet (first | (go_at_call 55; refine spec_l07At_q p L nL cL cs x z Hz.out _ _ iL LC.out nb hel Hpe.out))
          go_wp2_with fail
          go_roundw
          case rel => exact ⟨k + 1, by omega, by go_num, Hn, below_drewN hlow _⟩
          case measure => simp [intOf]; omega
        · have Hn := Lib.hid (Hno.out hzy)
          have hbeq : (z == y) = false := beq_eq_false_iff_ne.2 hzy
          clear Hno Hnx hx hy hL
          go_wp2_with fail
          go_quiet (first | (go_at_call 55; refine spec_l07At_q p L nL cL cs x z Hz.out _ _ iL LC.out nb hel Hpe.out))
          go_wp2_with fail
          go_ret
          exact ⟨ret_int Hn.out.symm, below_drewN hlow _⟩
      · obtain rfl : k = n := by omega
        have Hd := Lib.hid (show r = 1 by rw [← Hr.out]; exact hasV_yes (by rw [LX.out]; exact hall.out) q)
        go_wp2_with fail
        go_ret
        exact ⟨ret_int Hd.out.symm, hlow⟩
  | succ j ih =>
    intro hj L nL cL cs r hnj hcs hel hr w hL hx hy
    have LC := Lib.hid hcs
    have hle : (nL : Int) ≤ (K : Int) := by omega
    have Ih := Lib.hid ih
    have Hel := Lib.hid hel
    have Hr := Lib.hid ((cntQ_next p q pts vals j cs).symm.trans hr)
    have Ha := Lib.hid ha
    have LX := Lib.hid lx
    have LY := Lib.hid ly
    have hp := ha.1.range
    have Hq := Lib.hid hq
    have Hnj := Lib.hid hnj
    have hqp : (q : Int) ≤ p := by omega
    have hpq : p ≤ (q : Int) := by omega
    have q7 : q ≤ 7 := by omega
    have nb : nL ≤ 3 := by omega
    clear ih hcs hel hr ha lx ly hq hnj
    go_enter Try.func61, Try.ntmps61
    go_wp2_with fail
    go_loopw [11, 12] (fun s i wr => ∃ a : Nat, a ≤ q ∧ i = .int .i64 a ∧ s = .int .i64 (sumTo (fun a => cntQ p q pts vals j (cs ++ [(a : Int)])) a) ∧ Below w.heap.size w wr) (fun _ i _ => q - (intOf i).toNat)
    case atStart => exact ⟨0, Nat.zero_le _, rfl, rfl, Below.refl _ _⟩
    case round =>
      obtain ⟨a, hak, rfl, rfl, hlow⟩ := hrel
      by_cases hlt : a < q
      · have hap : (a : Int) < p := by omega
        have a0 : (0 : Int) ≤ a := by omega
        have hsm := sumTo_small (p := p) q7 pts vals (show j ≤ 3 by omega) cs (show a ≤ 7 by omega)
        have hs2 := cntQ_small (p := p) q7 pts vals (show j ≤ 3 by omega) (cs ++ [(a : Int)])
        have hnx := sumTo_next (fun a => cntQ p q pts vals j (cs ++ [(a : Int)])) a
        generalize sumTo (fun a => cntQ p q pts vals j (cs ++ [(a : Int)])) a = u at hsm hnx
        obtain ⟨v, hv⟩ : ∃ v, cntQ p q pts vals j (cs ++ [(a : Int)]) = v := ⟨_, rfl⟩
        have hnx2 : sumTo (fun a => cntQ p q pts vals j (cs ++ [(a : Int)])) (a + 1) = u + v := by rw [hnx, ← hv]
        rw [hv] at hs2
        have Hv := Lib.hid hv
        have Hnx := Lib.hid hnx2
        obtain ⟨s0, s1⟩ := hsm
        obtain ⟨v0, v1⟩ := hs2
        clear hv hnx hnx2
        have g1 := Grow.empty (Below.refl wr.heap.size wr)
        have iL := (hL.bound.below (hlow.trans (g1.low.mono hlow.size))).ints (Nat.le_trans hlow.size g1.size)
        have gs1 := g1.size
        go_wp2_with (first | (at_builtin; refine app_ints elemInt rfl _ _ rfl wr.heap.size _ 0 [] rfl g1.own L nL cL cs rfl iL LC.out (by unfold maxLen; omega) (by omega) gs1 ?_))
        intro v5 w5 ho5 hg5 _
        have g5 := g1.app ho5 hg5 (ys := cs) rfl
        clear ho5 hg5 iL g1
        have g6 := g5.alloc (.cells #[.int .i64 a] 3)
        go_wp2_with (first | (at_builtin; refine app_list (e' := 3) elemInt rfl _ _ rfl wr.heap.size _ nL (intVals cs) rfl g6.own w5.heap.size 1 1 _ (0, 0) rfl (heap_alloc_new w5 _) rfl (oneCell_i64 [_]) (by omega) (by unfold maxLen; omega) (by omega) g6.size (w5.heap.size + 1) (by simp) ?_))
        intro g7 c7 w7 ho7 hg7 _ _
        have g8 := g6.app ho7 hg7 (ys := cs ++ [(a : Int)]) (by simp [intVals])
        have iL7 := Lib.hid (Ints.of_own g8.own)
        have hlow7 := hlow.trans (g8.low.mono hlow.size)
        have ix := (hx.bound.below hlow7).ints hlow7.size
        have iy := (hy.bound.below hlow7).ints hlow7.size
        have hl7 := Lib.hid g8.len
        have hel7 := Lib.hid (el_snoc Hel.out (⟨Hel.out.1, a0, hap⟩ : isEl p (a : Int)))
        clear ho7 hg7 g5 g6 g8 hlow hx hy hL gs1
        go_wp2_with fail
        refine (Ih.out (by omega) (some ⟨g7, 0, none⟩) (nL + 1) c7 (cs ++ [(a : Int)]) v (by have := Hnj.out; omega) hl7.out hel7.out Hv.out w7 iL7.out ix iy).mono ?_
        rintro e w8 ⟨rfl, hb⟩
        replace hlow7 := hlow7.trans (hb.mono hlow7.size)
        clear hb
        go_wp2_with fail
        go_roundw
        case rel => exact ⟨a + 1, by omega, by go_num, by rw [Hnx.out], hlow7⟩
        case measure => simp [intOf]; omega
      · obtain rfl : a = q := by omega
        rw [Hr.out]
        go_wp2_with fail
        go_ret
        exact ⟨rfl, hlow⟩
set_option maxHeartbeats 1000000 in
theorem spec_CountPolys (p x k : Int) (A B : Option Addr) (n c m d : Nat) (pts vals : List Int) (w : World) (hx : Ints w A pts) (hy : Ints w B vals) (lx : pts.length = n) (ly : vals.length = m) (mx : n ≤ 2000000) (my : m ≤ 2000000) :
    Calls Try.prog 31 #[.int .i64 p, .int .i64 x, .int .i64 k, .slice A n c, .slice B m d] w fun e w' => e = .returned (.int .i64 (ctI p x k pts vals)) ∧ Below w.heap.size w w' := by
  have LX := Lib.hid lx
  have LY := Lib.hid ly
  by_cases hel : isEl p x
  · have Hdx := Lib.hid (decide_eq_true hel)
    by_cases hk : 0 ≤ k ∧ k ≤ 3
    · have Hdk := Lib.hid (decide_eq_true hk)
      by_cases hp7 : p ≤ 7
      · have hp7' : ¬ 7 < p := by omega
        by_cases h5 : n ≤ 5
        · have h5' : ¬ (5 : Int) < (n : Int) := by omega
          by_cases hnm : m = n
          · subst hnm
            by_cases ha : allEl p pts
            · have Hda := Lib.hid (decide_eq_true ha)
              by_cases hb : allEl p vals
              · have Hdb := Lib.hid (decide_eq_true hb)
                obtain ⟨K, rfl⟩ : ∃ K : Nat, k = K := ⟨k.toNat, by omega⟩
                have hp := hel.range
                have e0 : ctI p x K pts vals = cntQ p p.toNat pts vals K [x] := (if_pos ⟨hel, hk, hp7, by omega, by omega, ha, hb⟩).trans (by simp)
                rw [e0]
                have k1 := below_alloc w (.cells #[.int .i64 x] 3)
                have iL := ints_one w x 3
                have Hc := Lib.hid (spec_l07Count p p.toNat (by omega) hp7 K (by omega) A B m c d pts vals lx ly h5 ha K (by omega) (some ⟨w.heap.size, 0, none⟩) 1 1 [x] _ (by omega) rfl (fsum_one.2 hel) rfl _ iL (hx.below k1) (hy.below k1))
                clear ha hb hel lx ly e0
                go_enter Try.func31, Try.ntmps31
                go_wp2_with fail
                refine (spec_IsElement_at p x true Hdx.out w).mono ?_
                rintro e w1 ⟨rfl, rfl⟩
                go_wp2_with fail
                refine (l01In_is _ 0 3 true Hdk.out w).mono ?_
                rintro e w1 ⟨rfl, rfl⟩
                go_wp2_with fail
                refine (l03All_at p A _ c pts true Hda.out w hx LX.out (by omega)).mono ?_
                rintro e w1 ⟨rfl, rfl⟩
                go_wp2_with fail
                refine (l03All_at p B m d vals true Hdb.out w hy LY.out (by omega)).mono ?_
                rintro e w1 ⟨rfl, rfl⟩
                go_wp2_with fail
                refine Hc.out.mono ?_
                rintro e w2 ⟨rfl, hb⟩
                go_wp2_with fail
                go_ret
                exact ⟨rfl, k1.trans (hb.mono k1.size)⟩
              · have Hdb := Lib.hid (decide_eq_false hb)
                rw [ctI_no (fun e => hb e.2.2.2.2.2.2)]
                clear ha hb hel lx ly
                go_enter Try.func31, Try.ntmps31
                go_wp2_with fail
                refine (spec_IsElement_at p x true Hdx.out w).mono ?_
                rintro e w1 ⟨rfl, rfl⟩
                go_wp2_with fail
                refine (l01In_is _ 0 3 true Hdk.out w).mono ?_
                rintro e w1 ⟨rfl, rfl⟩
                go_wp2_with fail
                refine (l03All_at p A _ c pts true Hda.out w hx LX.out (by omega)).mono ?_
                rintro e w1 ⟨rfl, rfl⟩
                go_wp2_with fail
                refine (l03All_at p B m d vals false Hdb.out w hy LY.out (by omega)).mono ?_
                rintro e w1 ⟨rfl, rfl⟩
                go_wp2_with fail
                go_ret
                exact ⟨rfl, Below.refl _ _⟩
            · have Hda := Lib.hid (decide_eq_false ha)
              rw [ctI_no (fun e => ha e.2.2.2.2.2.1)]
              clear ha hel lx ly
              go_enter Try.func31, Try.ntmps31
              go_wp2_with fail
              refine (spec_IsElement_at p x true Hdx.out w).mono ?_
              rintro e w1 ⟨rfl, rfl⟩
              go_wp2_with fail
              refine (l01In_is _ 0 3 true Hdk.out w).mono ?_
              rintro e w1 ⟨rfl, rfl⟩
              go_wp2_with fail
              refine (l03All_at p A _ c pts false Hda.out w hx LX.out (by omega)).mono ?_
              rintro e w1 ⟨rfl, rfl⟩
              go_wp2_with fail
              go_ret
              exact ⟨rfl, Below.refl _ _⟩
          · rw [ctI_no (fun e => hnm (by rw [← ly, ← lx, e.2.2.2.2.1]))]
            have hne : ((m : Int) == (n : Int)) = false := beq_eq_false_iff_ne.2 (by omega)
            clear hel lx ly
            go_enter Try.func31, Try.ntmps31
            go_wp2_with fail
            refine (spec_IsElement_at p x true Hdx.out w).mono ?_
            rintro e w1 ⟨rfl, rfl⟩
            go_wp2_with fail
            refine (l01In_is _ 0 3 true Hdk.out w).mono ?_
            rintro e w1 ⟨rfl, rfl⟩
            go_wp2_with fail
            go_ret
            exact ⟨rfl, Below.refl _ _⟩
        · rw [ctI_no (fun e => h5 (by rw [← lx]; exact e.2.2.2.1))]
          have h5' : (5 : Int) < (n : Int) := by omega
          clear hel lx ly
          go_enter Try.func31, Try.ntmps31
          go_wp2_with fail
          refine (spec_IsElement_at p x true Hdx.out w).mono ?_
          rintro e w1 ⟨rfl, rfl⟩
          go_wp2_with fail
          refine (l01In_is _ 0 3 true Hdk.out w).mono ?_
          rintro e w1 ⟨rfl, rfl⟩
          go_wp2_with fail
          go_ret
          exact ⟨rfl, Below.refl _ _⟩
      · rw [ctI_no (fun e => hp7 e.2.2.1)]
        have hp7' : 7 < p := by omega
        clear hel lx ly
        go_enter Try.func31, Try.ntmps31
        go_wp2_with fail
        refine (spec_IsElement_at p x true Hdx.out w).mono ?_
        rintro e w1 ⟨rfl, rfl⟩
        go_wp2_with fail
        refine (l01In_is _ 0 3 true Hdk.out w).mono ?_
        rintro e w1 ⟨rfl, rfl⟩
        go_wp2_with fail
        go_ret
        exact ⟨rfl, Below.refl _ _⟩
    · rw [ctI_no (fun e => hk e.2.1)]
      have Hdk := Lib.hid (decide_eq_false hk)
      clear hel lx ly
      go_enter Try.func31, Try.ntmps31
      go_wp2_with fail
      refine (spec_IsElement_at p x true Hdx.out w).mono ?_
      rintro e w1 ⟨rfl, rfl⟩
      go_wp2_with fail
      refine (l01In_is _ 0 3 false Hdk.out w).mono ?_
      rintro e w1 ⟨rfl, rfl⟩
      go_wp2_with fail
      go_ret
      exact ⟨rfl, Below.refl _ _⟩
  · rw [ctI_no (fun e => hel e.1)]
    have Hdx := Lib.hid (decide_eq_false hel)
    clear hel lx ly
    go_enter Try.func31, Try.ntmps31
    go_wp2_with fail
    refine (spec_IsElement_at p x false Hdx.out w).mono ?_
    rintro e w1 ⟨rfl, rfl⟩
    go_wp2_with fail
    go_ret
    exact ⟨rfl, Below.refl _ _⟩
end Go.Proofs.Ytcjgoonkdjaccaa

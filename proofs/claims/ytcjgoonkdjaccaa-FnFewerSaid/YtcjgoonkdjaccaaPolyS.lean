/- Polynomials: the model's evaluation, its test of points, its interpolation. -/
import Derived.Test.YtcjgoonkdjaccaaProg
import Derived.Test.YtcjgoonkdjaccaaPolyN
import Derived.Test.YtcjgoonkdjaccaaShareS
namespace Go.Proofs.Ytcjgoonkdjaccaa
open Go Go.RowKit
theorem atI_drop (p x : Int) {xs : List Int} {k : Nat} (h : k < xs.length) : atI p (xs.drop k) x = (atI p (xs.drop (k + 1)) x * x + xs.getD k 0) % p := by
  rw [List.drop_eq_getElem_cons h, atI_cons, List.getD_eq_getElem?_getD, List.getElem?_eq_getElem h]
  rfl
set_option maxRecDepth 100000 in
theorem spec_l07At (p : Int) (A : Option Addr) (n c : Nat) (xs : List Int) (x r : Int) (hr : atI p xs x = r) (w : World) (hxs : Ints w A xs) (hl : xs.length = n) (hn : n ≤ 2000000) (ha : allEl p xs) (hx : isEl p x) :
    Calls Try.prog 55 #[.int .i64 p, .slice A n c, .int .i64 x] w fun e w' => e = .returned (.int .i64 r) ∧ w = w' := by
  subst hr
  have Hl := Lib.hid hl
  have hp := hx.range
  have hp0 : ¬ p = 0 := by omega
  clear hl
  go_enter Try.func55, Try.ntmps55
  go_wp2_with fail
  go_loop [7, 8] (fun v i => ∃ k : Nat, k ≤ n ∧ i = .int .i64 ((k : Int) - 1) ∧ v = .int .i64 (atI p (xs.drop k) x)) (fun _ i => (intOf i + 1).toNat)
  case atStart => exact ⟨n, Nat.le_refl _, rfl, by rw [List.drop_eq_nil_of_le (by rw [Hl.out]; omega)]; rfl⟩
  case round =>
    obtain ⟨k, hk, rfl, rfl⟩ := hrel
    by_cases hlt : 0 < k
    · obtain ⟨j, rfl⟩ : ∃ j, k = j + 1 := ⟨k - 1, by omega⟩
      obtain ⟨b, o, rfl, hbl, hc⟩ := hxs.at_ (j := j) (by rw [Hl.out]; omega)
      have Hs := Lib.hid (atI_drop p x (xs := xs) (k := j) (by rw [Hl.out]; omega))
      have hy : isEl p (xs.getD j 0) := isEl_at ha (by rw [Hl.out]; omega)
      have hv : isEl p (atI p (xs.drop (j + 1)) x) := atI_el hx.1 _ _
      generalize xs.getD j 0 = y at hc Hs hy
      generalize hvv : atI p (xs.drop (j + 1)) x = v at Hs hv
      obtain ⟨m0, m1⟩ := prod_small hv hx
      have y0 := hy.2
      have y1 := hy.range
      have e1 : IntKind.i64.wrap (v * x) = v * x := by rw [IntKind.wrap_i64]; omega
      have e2 : IntKind.i64.wrap (v * x + y) = v * x + y := by rw [IntKind.wrap_i64]; omega
      have e3 : (v * x + y).tmod p = (v * x + y) % p := Int.tmod_eq_emod_of_nonneg (by omega)
      have Hb : Hid (0 ≤ (v * x + y) % p ∧ (v * x + y) % p < p) := ⟨Int.emod_nonneg _ hp0, Int.emod_lt_of_pos _ (by omega)⟩
      have i0 : ((j + 1 : Nat) : Int) - 1 = (j : Int) := by omega
      rw [i0]
      have j0 : (0 : Int) ≤ j := by omega
      have j1 : (j : Int) < n := by omega
      clear hxs ha hy hv hvv y0 m0 m1
      go_wp2_with fail
      go_round
      case rel => exact ⟨j, by omega, by go_num, by rw [Hs.out]⟩
      case measure => simp [intOf]
    · obtain rfl : k = 0 := by omega
      go_wp2_with fail
      go_ret
      exact ⟨rfl, rfl⟩
def polyI (p : Int) (xs : List Int) (x : Int) : Int := if allEl p xs ∧ isEl p x then atI p xs x else -1
theorem spec_PolyAt (p : Int) (A : Option Addr) (n c : Nat) (xs : List Int) (x : Int) (w : World) (hxs : Ints w A xs) (hl : xs.length = n) (hn : n ≤ 2000000) :
    Calls Try.prog 21 #[.int .i64 p, .slice A n c, .int .i64 x] w fun e w' => e = .returned (.int .i64 (polyI p xs x)) ∧ w = w' := by
  by_cases ha : allEl p xs
  · have Hda := Lib.hid (decide_eq_true ha)
    by_cases hx : isEl p x
    · have e0 : polyI p xs x = atI p xs x := if_pos ⟨ha, hx⟩
      rw [e0]
      go_enter Try.func21, Try.ntmps21
      go_wp2_with fail
      refine (l03All_at p A n c xs true Hda.out _ hxs hl (by omega)).mono ?_
      rintro e w1 ⟨rfl, rfl⟩
      go_wp2_with fail
      refine (spec_IsElement_at p x true (decide_eq_true hx) _).mono ?_
      rintro e w1 ⟨rfl, rfl⟩
      go_wp2_with fail
      refine (spec_l07At p A n c xs x _ rfl _ hxs hl hn ha hx).mono ?_
      rintro e w1 ⟨rfl, rfl⟩
      go_wp2_with fail
      go_ret
      exact ⟨rfl, rfl⟩
    · have e0 : polyI p xs x = -1 := if_neg (fun e => hx e.2)
      rw [e0]
      go_enter Try.func21, Try.ntmps21
      go_wp2_with fail
      refine (l03All_at p A n c xs true Hda.out _ hxs hl (by omega)).mono ?_
      rintro e w1 ⟨rfl, rfl⟩
      go_wp2_with fail
      refine (spec_IsElement_at p x false (decide_eq_false hx) _).mono ?_
      rintro e w1 ⟨rfl, rfl⟩
      go_wp2_with fail
      go_ret
      exact ⟨rfl, rfl⟩
  · have e0 : polyI p xs x = -1 := if_neg (fun e => ha e.1)
    have Hda := Lib.hid (decide_eq_false ha)
    rw [e0]
    go_enter Try.func21, Try.ntmps21
    go_wp2_with fail
    refine (l03All_at p A n c xs false Hda.out _ hxs hl (by omega)).mono ?_
    rintro e w1 ⟨rfl, rfl⟩
    go_wp2_with fail
    go_ret
    exact ⟨rfl, rfl⟩
/-- The first i points differ, and are not 0. -/
def ptTo (pts : List Int) (i : Nat) : Prop := (∀ a b, a < b → b < i → pts.getD a 0 ≠ pts.getD b 0) ∧ ∀ j, j < i → pts.getD j 0 ≠ 0
def ptIn (pts : List Int) (i k : Nat) : Prop := ∀ a, a < k → pts.getD a 0 ≠ pts.getD i 0
theorem ptTo_next {pts : List Int} {i : Nat} (h : ptTo pts i) (hi : ptIn pts i i) (h0 : pts.getD i 0 ≠ 0) : ptTo pts (i + 1) := by
  refine ⟨fun a b hab hb => ?_, fun j hj => ?_⟩
  · rcases Nat.lt_or_ge b i with e | e
    · exact h.1 a b hab e
    · obtain rfl : b = i := by omega
      exact hi a hab
  · rcases Nat.lt_or_ge j i with e | e
    · exact h.2 j e
    · obtain rfl : j = i := by omega
      exact h0
def ptOk (pts : List Int) : Prop := distinct pts ∧ ∀ j, j < pts.length → pts.getD j 0 ≠ 0
theorem ptTo_all {pts : List Int} (h : ptTo pts pts.length) : ptOk pts := ⟨fun i j hij hj => h.1 i j hij hj, h.2⟩
theorem ptIn_no {pts : List Int} {i k : Nat} (hk : k < i) (hi : i < pts.length) (e : pts.getD k 0 = pts.getD i 0) : ¬ ptOk pts := fun h => h.1 k i hk hi e
theorem ptTo_no {pts : List Int} {i : Nat} (hi : i < pts.length) (e : pts.getD i 0 = 0) : ¬ ptOk pts := fun h => h.2 i hi e
theorem ptIn_next {pts : List Int} {i k : Nat} (h : ptIn pts i k) (hk : pts.getD k 0 ≠ pts.getD i 0) : ptIn pts i (k + 1) := fun a ha => by
  rcases Nat.lt_or_ge a k with e | e
  · exact h a e
  · obtain rfl : a = k := by omega
    exact hk
theorem pointsOk_iff {p : Int} {pts vals : List Int} : pointsOk p pts vals ↔ (1 ≤ pts.length ∧ pts.length ≤ 5) ∧ vals.length = pts.length ∧ allEl p pts ∧ allEl p vals ∧ ptOk pts :=
  ⟨fun h => ⟨h.1, h.2.1, h.2.2.1, h.2.2.2.1, h.2.2.2.2⟩, fun h => ⟨h.1, h.2.1, h.2.2.1, h.2.2.2.1, h.2.2.2.2⟩⟩
instance (pts : List Int) : Decidable (ptOk pts) := by unfold ptOk; infer_instance
set_option maxRecDepth 100000 in
set_option maxHeartbeats 1000000 in
theorem spec_l07Points_loop (p : Int) (A B : Option Addr) (n c d : Nat) (pts vals : List Int) (w : World) (hx : Ints w A pts) (hy : Ints w B vals) (lx : pts.length = n) (ly : vals.length = n) (h5 : 1 ≤ (n : Int) ∧ (n : Int) ≤ 5) (ha : allEl p pts) (hb : allEl p vals) :
    Calls Try.prog 59 #[.int .i64 p, .slice A n c, .slice B n d] w fun e w' => e = .returned (.bool (decide (ptOk pts))) ∧ Below w.heap.size w w' := by
  have LX := Lib.hid lx
  have LY := Lib.hid ly
  have Hd5 := Lib.hid (decide_eq_true h5)
  have Hda := Lib.hid (decide_eq_true ha)
  have Hdb := Lib.hid (decide_eq_true hb)
  have mn : n ≤ 5 := by omega
  clear lx ly h5 ha hb
  go_enter Try.func59, Try.ntmps59
  go_wp2_with fail
  refine (l01In_is (n : Int) 1 5 true Hd5.out _).mono ?_
  rintro e w1 ⟨rfl, rfl⟩
  go_wp2_with fail
  refine (l03All_at p A n c pts true Hda.out _ hx LX.out (by omega)).mono ?_
  rintro e w1 ⟨rfl, rfl⟩
  go_wp2_with fail
  refine (l03All_at p B n d vals true Hdb.out _ hy LY.out (by omega)).mono ?_
  rintro e w1 ⟨rfl, rfl⟩
  clear hy
  go_wp2_with fail
  go_loopw [7] (fun i wr => ∃ k : Nat, k ≤ n ∧ i = .int .i64 k ∧ Hid (ptTo pts k) ∧ Below w.heap.size w wr) (fun i _ => n - (intOf i).toNat)
  case atStart => exact ⟨0, Nat.zero_le _, rfl, ⟨fun _ _ _ h => by omega, fun _ h => by omega⟩, Below.refl _ _⟩
  case round =>
    obtain ⟨k, hk, rfl, ht, hlow⟩ := hrel
    by_cases hlt : k < n
    · obtain ⟨wo, rfl⟩ : ∃ wo : World, wo = wr := ⟨_, rfl⟩
      go_wp2_with fail
      go_loopw [8] (fun i wr => ∃ j : Nat, j ≤ k ∧ i = .int .i64 j ∧ Hid (ptIn pts k j) ∧ Below w.heap.size w wr) (fun i _ => k - (intOf i).toNat)
      case atStart => exact ⟨0, Nat.zero_le _, rfl, fun _ h => by omega, hlow⟩
      case round =>
        obtain ⟨j, hj, rfl, hin, hlow2⟩ := hrel
        clear hlow
        by_cases hjt : j < k
        · obtain ⟨b, o, rfl, _, c0⟩ := (hx.bound.below hlow2).at_ (j := j) (by rw [LX.out]; omega)
          obtain ⟨b', o', e', _, c1⟩ := (hx.bound.below hlow2).at_ (j := k) (by rw [LX.out]; exact hlt)
          obtain ⟨rfl, rfl⟩ : b = b' ∧ o = o' := by injection e' with e'; injection e' with e1 e2; exact ⟨e1, e2⟩
          have Hno : Hid (pts.getD j 0 = pts.getD k 0 → decide (ptOk pts) = false) := fun e => decide_eq_false (ptIn_no hjt (by rw [LX.out]; exact hlt) e)
          have Hnx : Hid (pts.getD j 0 ≠ pts.getD k 0 → ptIn pts k (j + 1)) := fun e => ptIn_next hin.out e
          generalize pts.getD j 0 = x at c0 Hno Hnx
          generalize pts.getD k 0 = y at c1 Hno Hnx
          have j0 : (0 : Int) ≤ j := by omega
          have j1 : (j : Int) < n := by omega
          have k0 : (0 : Int) ≤ k := by omega
          have k1 : (k : Int) < n := by omega
          clear hx e'
          by_cases hxy : x = y
          · subst hxy
            go_wp2_with fail
            go_quiet (fail)
            go_wp2_with fail
            go_ret
            exact ⟨ret_bool (Hno.out (by simp)).symm, below_drewN hlow2 _⟩
          · have hbeq : (x == y) = false := beq_eq_false_iff_ne.2 hxy
            go_wp2_with fail
            go_quiet (fail)
            go_wp2_with fail
            go_roundw
            case rel => exact ⟨j + 1, by omega, by go_num, Hnx.out hxy, below_drewN hlow2 _⟩
            case measure => simp [intOf]; omega
        · obtain rfl : j = k := by omega
          obtain ⟨b, o, rfl, _, c0⟩ := (hx.bound.below hlow2).at_ (j := j) (by rw [LX.out]; exact hlt)
          have Hno : Hid (pts.getD j 0 = 0 → decide (ptOk pts) = false) := fun e => decide_eq_false (ptTo_no (by rw [LX.out]; exact hlt) e)
          have Hnx : Hid (pts.getD j 0 ≠ 0 → ptTo pts (j + 1)) := fun e => ptTo_next ht.out hin.out e
          generalize pts.getD j 0 = x at c0 Hno Hnx
          have k0 : (0 : Int) ≤ j := by omega
          have k1 : (j : Int) < n := by omega
          clear hx
          by_cases hx0 : x = 0
          · subst hx0
            go_wp2_with fail
            go_ret
            exact ⟨ret_bool (Hno.out (by simp)).symm, hlow2⟩
          · go_wp2_with fail
            go_roundw
            case rel => exact ⟨j + 1, by omega, by go_num, Hnx.out hx0, hlow2⟩
            case measure => simp [intOf]; omega
    · obtain rfl : k = n := by omega
      have Hy := Lib.hid (decide_eq_true (ptTo_all (by rw [LX.out]; exact ht.out)))
      go_wp2_with fail
      go_ret
      exact ⟨ret_bool Hy.out.symm, hlow⟩
theorem spec_l07Points (p : Int) (A B : Option Addr) (n m c d : Nat) (pts vals : List Int) (r : Bool) (hr : decide (pointsOk p pts vals) = r) (w : World) (hx : Ints w A pts) (hy : Ints w B vals) (lx : pts.length = n) (ly : vals.length = m) (mx : n ≤ 2000000) (my : m ≤ 2000000) :
    Calls Try.prog 59 #[.int .i64 p, .slice A n c, .slice B m d] w fun e w' => e = .returned (.bool r) ∧ Below w.heap.size w w' := by
  subst hr
  by_cases h5 : 1 ≤ (n : Int) ∧ (n : Int) ≤ 5
  · have Hd5 := Lib.hid (decide_eq_true h5)
    by_cases hnm : m = n
    · subst hnm
      by_cases ha : allEl p pts
      · have Hda := Lib.hid (decide_eq_true ha)
        by_cases hb : allEl p vals
        · have e0 : decide (pointsOk p pts vals) = decide (ptOk pts) := decide_eq_decide.2 (pointsOk_iff.trans ⟨fun h => h.2.2.2.2, fun h => ⟨by omega, by omega, ha, hb, h⟩⟩)
          rw [e0]
          exact spec_l07Points_loop p A B m c d pts vals w hx hy lx ly h5 ha hb
        · have e0 : decide (pointsOk p pts vals) = false := decide_eq_false (fun h => hb h.2.2.2.1)
          have Hdb := Lib.hid (decide_eq_false hb)
          rw [e0]
          go_enter Try.func59, Try.ntmps59
          go_wp2_with fail
          refine (l01In_is (m : Int) 1 5 true Hd5.out _).mono ?_
          rintro e w1 ⟨rfl, rfl⟩
          go_wp2_with fail
          refine (l03All_at p A m c pts true Hda.out _ hx lx (by omega)).mono ?_
          rintro e w1 ⟨rfl, rfl⟩
          go_wp2_with fail
          refine (l03All_at p B m d vals false Hdb.out _ hy ly (by omega)).mono ?_
          rintro e w1 ⟨rfl, rfl⟩
          go_wp2_with fail
          go_ret
          exact ⟨rfl, Below.refl _ _⟩
      · have e0 : decide (pointsOk p pts vals) = false := decide_eq_false (fun h => ha h.2.2.1)
        have Hda := Lib.hid (decide_eq_false ha)
        rw [e0]
        go_enter Try.func59, Try.ntmps59
        go_wp2_with fail
        refine (l01In_is (m : Int) 1 5 true Hd5.out _).mono ?_
        rintro e w1 ⟨rfl, rfl⟩
        go_wp2_with fail
        refine (l03All_at p A m c pts false Hda.out _ hx lx (by omega)).mono ?_
        rintro e w1 ⟨rfl, rfl⟩
        go_wp2_with fail
        go_ret
        exact ⟨rfl, Below.refl _ _⟩
    · have e0 : decide (pointsOk p pts vals) = false := decide_eq_false (fun h => hnm (by rw [← ly, h.2.1, lx]))
      have hne : ((m : Int) == (n : Int)) = false := beq_eq_false_iff_ne.2 (by omega)
      rw [e0]
      go_enter Try.func59, Try.ntmps59
      go_wp2_with fail
      refine (l01In_is (n : Int) 1 5 true Hd5.out _).mono ?_
      rintro e w1 ⟨rfl, rfl⟩
      go_wp2_with fail
      go_ret
      exact ⟨rfl, Below.refl _ _⟩
  · have e0 : decide (pointsOk p pts vals) = false := decide_eq_false (fun h => h5 (by have := h.1; omega))
    have Hd5 := Lib.hid (decide_eq_false h5)
    rw [e0]
    go_enter Try.func59, Try.ntmps59
    go_wp2_with fail
    refine (l01In_is (n : Int) 1 5 false Hd5.out _).mono ?_
    rintro e w1 ⟨rfl, rfl⟩
    go_wp2_with fail
    go_ret
    exact ⟨rfl, Below.refl _ _⟩
/-- The world but for what was drawn. -/
def Drew (w w' : World) : Prop := ∃ q, w' = w.drewN q
theorem Drew.refl (w : World) : Drew w w := ⟨0, rfl⟩
theorem Drew.next {w wr : World} (h : Drew w wr) (n : Nat) : Drew w (wr.drewN n) := by obtain ⟨q, rfl⟩ := h; exact ⟨q + n, World.drewN_drewN ..⟩
theorem Drew.below {w wr : World} (h : Drew w wr) : Below w.heap.size w wr := by obtain ⟨q, rfl⟩ := h; exact below_drewN (Below.refl _ _) q
theorem Drew.trans {w v u : World} (h : Drew w v) (k : Drew v u) : Drew w u := by obtain ⟨q, rfl⟩ := k; exact h.next q
set_option maxRecDepth 100000 in
set_option maxHeartbeats 1000000 in
theorem spec_l07Through (p : Int) (A B : Option Addr) (n c d : Nat) (pts vals : List Int) (x r : Int) (hr : thruI p pts vals x = r) (w : World) (hx : Ints w A pts) (hy : Ints w B vals) (lx : pts.length = n) (ly : vals.length = n) (mx : n ≤ 2000000) :
    Calls Try.prog 60 #[.int .i64 p, .slice A n c, .slice B n d, .int .i64 x] w fun e w' => e = .returned (.int .i64 r) ∧ Drew w w' := by
  subst hr
  have LX := Lib.hid lx
  have LY := Lib.hid ly
  clear lx ly
  go_enter Try.func60, Try.ntmps60
  go_wp2_with fail
  go_loopw [9, 10] (fun s i wr => ∃ k : Nat, k ≤ n ∧ i = .int .i64 k ∧ s = .int .i64 (thN p pts vals x k) ∧ Drew w wr) (fun _ i _ => n - (intOf i).toNat)
  case atStart => exact ⟨0, Nat.zero_le _, rfl, rfl, Drew.refl _⟩
  case round =>
    obtain ⟨k, hk, rfl, rfl, hdr⟩ := hrel
    have hlow := hdr.below
    by_cases hlt : k < n
    · obtain ⟨wo, rfl⟩ : ∃ wo : World, wo = wr := ⟨_, rfl⟩
      obtain ⟨b, o, rfl, _, c0⟩ := (hy.bound.below hlow).at_ (j := k) (by rw [LY.out]; exact hlt)
      obtain ⟨xi, hxi⟩ : ∃ xi, pts.getD k 0 = xi := ⟨_, rfl⟩
      have hth : thN p pts vals x (k + 1) = faddI p (thN p pts vals x k) (wI p pts (vals.getD k 0) xi k x n) := by rw [← LX.out, ← hxi]; rfl
      have Hth := Lib.hid hth
      have Hxi := Lib.hid hxi
      clear hth hxi
      generalize thN p pts vals x k = s at Hth
      generalize vals.getD k 0 = v at c0 Hth
      have k0 : (0 : Int) ≤ k := by omega
      have k1 : (k : Int) < n := by omega
      obtain ⟨b2, o2, rfl, _, d0⟩ := (hx.bound.below hlow).at_ (j := k) (by rw [LX.out]; exact hlt)
      clear d0
      go_wp2_with fail
      go_loopw [11, 12] (fun v' i wr => ∃ j : Nat, j ≤ n ∧ i = .int .i64 j ∧ v' = .int .i64 (wI p pts v xi k x j) ∧ Drew w wr) (fun _ i _ => n - (intOf i).toNat)
      case atStart => exact ⟨0, Nat.zero_le _, rfl, rfl, hdr⟩
      case round =>
        obtain ⟨j, hj, rfl, rfl, hdr2⟩ := hrel
        have hlow2 := hdr2.below
        clear hlow hdr c0
        by_cases hjt : j < n
        · have j0 : (0 : Int) ≤ j := by omega
          have j1 : (j : Int) < n := by omega
          by_cases hjk : j = k
          · subst hjk
            have Hw := Lib.hid (wI_skip p pts v xi j x)
            go_wp2_with fail
            go_roundw
            case rel => exact ⟨j + 1, by omega, by go_num, by rw [Hw.out], hdr2⟩
            case measure => simp [intOf]; omega
          · obtain ⟨b3, o3, e3, _, d0⟩ := (hx.bound.below hlow2).at_ (j := j) (by rw [LX.out]; exact hjt)
            obtain ⟨b4, o4, e4, _, d1⟩ := (hx.bound.below hlow2).at_ (j := k) (by rw [LX.out]; exact hlt)
            obtain ⟨rfl, rfl⟩ : b2 = b3 ∧ o2 = o3 := by injection e3 with e3; injection e3 with e1 e2; exact ⟨e1, e2⟩
            obtain ⟨rfl, rfl⟩ : b2 = b4 ∧ o2 = o4 := by injection e4 with e4; injection e4 with e1 e2; exact ⟨e1, e2⟩
            have Hw := Lib.hid (wI_next p pts v xi k x hjk)
            generalize wI p pts v xi k x j = u at Hw
            rw [Hxi.out] at d1
            generalize pts.getD j 0 = pj at d0 Hw
            have hne : ((j : Int) == (k : Int)) = false := beq_eq_false_iff_ne.2 (by omega)
            clear hx hy e3 e4
            go_wp2_with fail
            go_quiet (first | (go_at_call 86; refine Calls.quiet_of_same ((spec_FSub _ _ _ _).mono fun _ _ ⟨he, hw⟩ => ⟨he, hw.symm⟩)) | (go_at_call 87; refine Calls.quiet_of_same ((spec_FInv _ _ _).mono fun _ _ ⟨he, hw⟩ => ⟨he, hw.symm⟩)) | (go_at_call 85; refine Calls.quiet_of_same ((spec_FMul _ _ _ _).mono fun _ _ ⟨he, hw⟩ => ⟨he, hw.symm⟩)))
            go_wp2_with fail
            go_roundw
            case rel => exact ⟨j + 1, by omega, by go_num, by rw [Hw.out], hdr2.next _⟩
            case measure => simp [intOf]; omega
        · obtain rfl : j = n := by omega
          go_wp2_with fail
          refine (spec_FAdd p s _ _).mono ?_
          rintro e w1 ⟨rfl, rfl⟩
          go_wp2_with fail
          go_roundw
          case rel => exact ⟨k + 1, by omega, by go_num, by rw [Hth.out], hdr2⟩
          case measure => simp [intOf]; omega
    · obtain rfl : k = n := by omega
      have Hth := Lib.hid (show thN p pts vals x k = thruI p pts vals x by unfold thruI; rw [LX.out])
      go_wp2_with fail
      go_ret
      exact ⟨ret_int Hth.out, hdr⟩
theorem spec_l07Through_q (p : Int) (A B : Option Addr) (n c d : Nat) (pts vals : List Int) (x r : Int) (hr : thruI p pts vals x = r) (w : World) (k : Nat) (hx : Ints w A pts) (hy : Ints w B vals) (lx : pts.length = n) (ly : vals.length = n) (mx : n ≤ 2000000) :
    Calls Try.prog 60 #[.int .i64 p, .slice A n c, .slice B n d, .int .i64 x] (w.drewN k) fun e w' => e = .returned (.int .i64 r) ∧ ∃ m, w' = w.drewN m :=
  (spec_l07Through p A B n c d pts vals x r hr (w.drewN k) hx hy lx ly mx).mono fun _ _ ⟨he, hd⟩ => ⟨he, ((Drew.refl w).next k).trans hd⟩
theorem spec_OpenPoly (p : Int) (A B : Option Addr) (n m c d : Nat) (pts vals : List Int) (w : World) (hx : Ints w A pts) (hy : Ints w B vals) (lx : pts.length = n) (ly : vals.length = m) (mx : n ≤ 2000000) (my : m ≤ 2000000) :
    Calls Try.prog 29 #[.int .i64 p, .slice A n c, .slice B m d] w fun e w' => e = .returned (.int .i64 (openP p pts vals)) ∧ Below w.heap.size w w' := by
  by_cases h : pointsOk p pts vals
  · have e0 : openP p pts vals = thruI p pts vals 0 := if_pos h
    obtain rfl : m = n := by rw [← lx, ← ly]; exact h.2.1
    rw [e0]
    have Hd := Lib.hid (decide_eq_true h)
    clear h
    go_enter Try.func29, Try.ntmps29
    go_wp2_with fail
    refine (spec_l07Points p A B m m c d pts vals true Hd.out w hx hy lx ly mx my).mono ?_
    rintro e w1 ⟨rfl, hb⟩
    go_wp2_with fail
    refine (spec_l07Through p A B m c d pts vals 0 _ rfl w1 (hx.below hb) (hy.below hb) lx ly mx).mono ?_
    rintro e w2 ⟨rfl, hb2⟩
    go_wp2_with fail
    go_ret
    exact ⟨rfl, hb.trans (hb2.below.mono hb.size)⟩
  · have e0 : openP p pts vals = -1 := if_neg h
    rw [e0]
    have Hd := Lib.hid (decide_eq_false h)
    clear h
    go_enter Try.func29, Try.ntmps29
    go_wp2_with fail
    refine (spec_l07Points p A B n m c d pts vals false Hd.out w hx hy lx ly mx my).mono ?_
    rintro e w1 ⟨rfl, hb⟩
    go_wp2_with fail
    go_ret
    exact ⟨rfl, hb⟩
end Go.Proofs.Ytcjgoonkdjaccaa

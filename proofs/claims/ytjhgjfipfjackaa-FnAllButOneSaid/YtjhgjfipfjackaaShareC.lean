/- CountSharings: the program's power and the model's count are the same number. -/
import Derived.Test.YtjhgjfipfjackaaProg
import Derived.Test.YtjhgjfipfjackaaShareS
namespace Go.Proofs.Ytjhgjfipfjackaa
open Go Go.RowKit
def pwI (p : Int) : Nat → Int
  | 0 => 1
  | k + 1 => pwI p k * p
theorem pwI_next (p : Int) (k : Nat) : pwI p (k + 1) = pwI p k * p := by rw [pwI]
theorem pwI_range {p : Int} (h0 : 0 ≤ p) (h1 : p ≤ 13) (k : Nat) : 0 ≤ pwI p k ∧ pwI p k ≤ 13 ^ k := by
  induction k with
  | zero => rw [pwI]; simp
  | succ k ih =>
    rw [pwI_next]
    refine ⟨Int.mul_nonneg ih.1 h0, ?_⟩
    rw [Int.pow_succ]
    exact Int.mul_le_mul ih.2 h1 h0 (Int.le_trans ih.1 ih.2)
theorem pwI_small {p : Int} (h0 : 0 ≤ p) (h1 : p ≤ 13) {k : Nat} (hk : k ≤ 3) : 0 ≤ pwI p k ∧ pwI p k ≤ 2197 := by
  have h := pwI_range h0 h1 k
  refine ⟨h.1, Int.le_trans h.2 ?_⟩
  have : k = 0 ∨ k = 1 ∨ k = 2 ∨ k = 3 := by omega
  rcases this with rfl | rfl | rfl | rfl <;> decide
/-- The number of lists of m elements with the sum x. -/
def cntI (p x : Int) : Nat → Int
  | 0 => if x = 0 then 1 else 0
  | m + 1 => pwI p m
def cntP (p x : Int) (m j : Nat) : Int := match m with
  | 0 => if x < (j : Int) then 1 else 0
  | m + 1 => (j : Int) * pwI p m
theorem fsub_zero {p x y : Int} (hx : isEl p x) (hy : isEl p y) : fsubI p x y = 0 ↔ x = y := by
  have e := field_sub hx hy
  constructor
  · intro h
    rw [h, fadd_comm, field_zero hy] at e
    exact e.symm
  · intro h
    subst h
    rw [fsubI_yes hx hx, Int.sub_self]
    simp
theorem cntP_zero (p x : Int) (hx : isEl p x) (m : Nat) : cntP p x m 0 = 0 := by
  cases m with
  | zero =>
    have h0 := hx.2.1
    show (if x < ((0 : Nat) : Int) then (1 : Int) else 0) = 0
    rw [if_neg (by omega)]
  | succ m => simp [cntP]
theorem cntP_next {p x : Int} (hx : isEl p x) (m j : Nat) (hj : (j : Int) < p) : cntP p x m (j + 1) = cntP p x m j + cntI p (fsubI p x j) m := by
  have hje : isEl p (j : Int) := ⟨hx.1, by omega, hj⟩
  cases m with
  | zero =>
    have hz := fsub_zero hx hje
    show (if x < ((j + 1 : Nat) : Int) then (1 : Int) else 0) = (if x < (j : Int) then 1 else 0) + (if fsubI p x j = 0 then 1 else 0)
    rcases Int.lt_trichotomy x (j : Int) with h | h | h
    · rw [if_pos (by omega), if_pos h, if_neg (fun e => by have := hz.1 e; omega)]; rfl
    · rw [if_pos (by omega), if_neg (by omega), if_pos (hz.2 h)]; rfl
    · rw [if_neg (by omega), if_neg (by omega), if_neg (fun e => by have := hz.1 e; omega)]; rfl
  | succ m =>
    show ((j + 1 : Nat) : Int) * pwI p m = (j : Int) * pwI p m + pwI p m
    rw [Int.natCast_add, Int.add_mul]; simp
theorem cntP_all {p x : Int} (hx : isEl p x) (m q : Nat) (hq : (q : Int) = p) : cntP p x m q = cntI p x (m + 1) := by
  cases m with
  | zero =>
    show (if x < (q : Int) then (1 : Int) else 0) = pwI p 0
    rw [if_pos (by have := hx.2.2; omega)]; rfl
  | succ m =>
    show (q : Int) * pwI p m = pwI p (m + 1)
    rw [pwI_next, hq, Int.mul_comm]
theorem cntI_range {p x : Int} (h0 : 0 ≤ p) (h1 : p ≤ 13) {m : Nat} (hm : m ≤ 4) : 0 ≤ cntI p x m ∧ cntI p x m ≤ 2197 := by
  cases m with
  | zero => show 0 ≤ (if x = 0 then (1 : Int) else 0) ∧ (if x = 0 then (1 : Int) else 0) ≤ 2197; split <;> omega
  | succ m => exact pwI_small h0 h1 (by omega)
theorem cntP_range {p x : Int} (h0 : 0 ≤ p) (h1 : p ≤ 13) {m j : Nat} (hm : m ≤ 3) (hj : j ≤ 13) : 0 ≤ cntP p x m j ∧ cntP p x m j ≤ 28561 := by
  cases m with
  | zero => show 0 ≤ (if x < (j : Int) then (1 : Int) else 0) ∧ (if x < (j : Int) then (1 : Int) else 0) ≤ 28561; split <;> omega
  | succ m =>
    have h := pwI_small h0 h1 (show m ≤ 3 by omega)
    show 0 ≤ (j : Int) * pwI p m ∧ (j : Int) * pwI p m ≤ 28561
    refine ⟨Int.mul_nonneg (by omega) h.1, ?_⟩
    exact Int.mul_le_mul (show (j : Int) ≤ 13 by omega) h.2 h.1 (by omega)
theorem spec_FSub_is (p a b z : Int) (h : fsubI p a b = z) (w : World) :
    Calls Try.prog 51 #[.int .i64 p, .int .i64 a, .int .i64 b] w fun e w' => e = .returned (.int .i64 z) ∧ w = w' := by
  subst h; exact spec_FSub p a b w
theorem spec_l06Count (p : Int) (q : Nat) (hq : (q : Int) = p) (h13 : q ≤ 13) (m : Nat) : m ≤ 4 → ∀ (x n r : Int), isEl p x → n = (m : Int) → cntI p x m = r → ∀ w : World,
    Calls Try.prog 56 #[.int .i64 p, .int .i64 x, .int .i64 n] w fun e w' => e = .returned (.int .i64 r) ∧ w = w' := by
  induction m with
  | zero =>
    intro _ x n r hx hn hr w
    obtain rfl : n = 0 := by omega
    by_cases h0 : x = 0
    · obtain rfl : r = 1 := by rw [← hr]; exact if_pos h0
      subst h0
      clear hx hn hr hq
      go_enter Try.func56, Try.ntmps56
      go_wp2_with fail
      go_ret
      exact ⟨rfl, rfl⟩
    · obtain rfl : r = 0 := by rw [← hr]; exact if_neg h0
      have hne : (x == 0) = false := beq_eq_false_iff_ne.2 h0
      clear hx hn hr hq
      go_enter Try.func56, Try.ntmps56
      go_wp2_with fail
      go_ret
      exact ⟨rfl, rfl⟩
  | succ m ih =>
    intro hm x n r hx hn hr w
    have hn1 : 1 ≤ n := by omega
    have hn4 : n ≤ 4 := by omega
    have hne : (n == 0) = false := beq_eq_false_iff_ne.2 (by omega)
    have hp := hx.1.range
    have Hq := Lib.hid hq
    have Hr := Lib.hid ((cntP_all hx m q hq).trans hr)
    have Hn := Lib.hid hn
    have Hx := Lib.hid hx
    have hq1 : (q : Int) ≤ p := by omega
    have hq2 : p ≤ (q : Int) := by omega
    have Ih := Lib.hid ih
    clear hq hr hn hx ih
    go_enter Try.func56, Try.ntmps56
    go_wp2_with fail
    go_loop [7, 8] (fun s a => ∃ j : Nat, j ≤ q ∧ a = .int .i64 j ∧ s = .int .i64 (cntP p x m j)) (fun _ a => q - (intOf a).toNat)
    case atStart => exact ⟨0, Nat.zero_le _, rfl, by rw [cntP_zero p x Hx.out]⟩
    case round =>
      obtain ⟨j, hj, rfl, rfl⟩ := hrel
      by_cases hlt : j < q
      · have hj1 : (j : Int) < p := by omega
        have Hnext := Lib.hid (cntP_next Hx.out m j hj1)
        have hel : isEl p (fsubI p x j) := fsubI_el Hx.out ⟨Hx.out.1, by omega, hj1⟩
        obtain ⟨y, hy⟩ : ∃ y, fsubI p x j = y := ⟨_, rfl⟩
        rw [hy] at hel
        have Hel := Lib.hid hel
        have Hnx : Hid (cntP p x m (j + 1) = cntP p x m j + cntI p y m) := by rw [← hy]; exact Hnext.out
        have hc1 := cntP_range (x := x) (show 0 ≤ p by omega) (show p ≤ 13 by omega) (show m ≤ 3 by omega) (show j ≤ 13 by omega)
        have hc2 := cntI_range (x := y) (show 0 ≤ p by omega) (show p ≤ 13 by omega) (show m ≤ 4 by omega)
        generalize cntP p x m j = u at *
        obtain ⟨v, hv⟩ : ∃ v, cntI p y m = v := ⟨_, rfl⟩
        rw [hv] at hc2 Hnx
        have Hv := Lib.hid hv
        have Hy := Lib.hid hy
        obtain ⟨hc10, hc11⟩ := hc1
        obtain ⟨hc20, hc21⟩ := hc2
        have hj0 : (0 : Int) ≤ j := by omega
        clear Hnext hel hv hy
        go_wp2_with fail
        refine (spec_FSub_is p x j y Hy.out w).mono ?_
        rintro e w1 ⟨rfl, rfl⟩
        go_wp2_with fail
        refine (Ih.out (by omega) y (n - 1) v Hel.out (by have := Hn.out; omega) Hv.out w).mono ?_
        rintro e w1 ⟨rfl, rfl⟩
        go_wp2_with fail
        go_round
        case rel => exact ⟨j + 1, by omega, by go_num, by rw [Hnx.out]⟩
        case measure => simp [intOf]; omega
      · obtain rfl : j = q := by omega
        rw [Hr.out]
        have hge : p ≤ (j : Int) := by omega
        go_wp2_with fail
        go_ret
        exact ⟨rfl, rfl⟩
def countOk (p x n : Int) (v : List Int) : Prop := isEl p x ∧ (1 ≤ n ∧ n ≤ 4) ∧ (v.length : Int) ≤ n ∧ allEl p v ∧ p ≤ 13
instance (p x n : Int) (v : List Int) : Decidable (countOk p x n v) := by unfold countOk; infer_instance
def countI (p x n : Int) (v : List Int) : Int := if countOk p x n v then cntI p (fsubI p x (fsumI p v)) (n - (v.length : Int)).toNat else 0
theorem countI_no {p x n : Int} {v : List Int} (h : ¬ countOk p x n v) : countI p x n v = 0 := if_neg h
theorem spec_CountSharings (p x n r : Int) (A : Option Addr) (m c : Nat) (v : List Int) (hr : countI p x n v = r) (w : World) (hv : Ints w A v) (lv : v.length = m) (mv : m ≤ 2000000) :
    Calls Try.prog 32 #[.int .i64 p, .int .i64 x, .int .i64 n, .slice A m c] w fun e w' => e = .returned (.int .i64 r) ∧ w = w' := by
  have LV := Lib.hid lv
  by_cases hx : isEl p x
  · have Hdx := Lib.hid (decide_eq_true hx)
    by_cases hn : 1 ≤ n ∧ n ≤ 4
    · have Hdn := Lib.hid (decide_eq_true hn)
      obtain ⟨hn1, hn4⟩ := hn
      by_cases hl : (m : Int) ≤ n
      · by_cases ha : allEl p v
        · have Hda := Lib.hid (decide_eq_true ha)
          by_cases hp : p ≤ 13
          · obtain ⟨s, hs⟩ : ∃ s, fsumI p v = s := ⟨_, rfl⟩
            have hse : isEl p s := by rw [← hs]; exact fsum_el ha
            obtain ⟨y, hy⟩ : ∃ y, fsubI p x s = y := ⟨_, rfl⟩
            have hye : isEl p y := by rw [← hy]; exact fsubI_el hx hse
            have hr' : cntI p y (n - (m : Int)).toNat = r := by
              rw [← hr, ← hy, ← hs, ← lv]; exact (if_pos ⟨hx, ⟨hn1, hn4⟩, by rw [lv]; exact hl, ha, hp⟩).symm
            have hpr := hx.1.range
            have Hc := Lib.hid (fun w => spec_l06Count p p.toNat (by omega) (by omega) (n - (m : Int)).toNat (by omega) y (n - (m : Int)) r hye (by omega) hr' w)
            have Hs := Lib.hid hs
            have Hy := Lib.hid hy
            clear hr lv hx ha hs hy hse hye hr' hpr
            go_enter Try.func32, Try.ntmps32
            go_wp2_with fail
            refine (spec_IsElement_at p x true Hdx.out w).mono ?_
            rintro e w1 ⟨rfl, rfl⟩
            go_wp2_with fail
            refine (l01In_is n 1 4 true Hdn.out w).mono ?_
            rintro e w1 ⟨rfl, rfl⟩
            go_wp2_with fail
            refine (l03All_at p A m c v true Hda.out w hv LV.out (by omega)).mono ?_
            rintro e w1 ⟨rfl, rfl⟩
            go_wp2_with fail
            refine (spec_FSum p A m c v w hv LV.out (by omega)).mono ?_
            rintro e w1 ⟨rfl, rfl⟩
            rw [Hs.out]
            go_wp2_with fail
            refine (spec_FSub_is p x s y Hy.out w).mono ?_
            rintro e w1 ⟨rfl, rfl⟩
            go_wp2_with fail
            refine (Hc.out w).mono ?_
            rintro e w1 ⟨rfl, rfl⟩
            go_wp2_with fail
            go_ret
            exact ⟨rfl, rfl⟩
          · obtain rfl : r = 0 := by rw [← hr]; exact countI_no (fun e => hp e.2.2.2.2)
            clear hr lv hx ha
            go_enter Try.func32, Try.ntmps32
            go_wp2_with fail
            refine (spec_IsElement_at p x true Hdx.out w).mono ?_
            rintro e w1 ⟨rfl, rfl⟩
            go_wp2_with fail
            refine (l01In_is n 1 4 true Hdn.out w).mono ?_
            rintro e w1 ⟨rfl, rfl⟩
            go_wp2_with fail
            refine (l03All_at p A m c v true Hda.out w hv LV.out (by omega)).mono ?_
            rintro e w1 ⟨rfl, rfl⟩
            go_wp2_with fail
            go_ret
            exact ⟨rfl, rfl⟩
        · have Hda := Lib.hid (decide_eq_false ha)
          obtain rfl : r = 0 := by rw [← hr]; exact countI_no (fun e => ha e.2.2.2.1)
          clear hr lv hx ha
          go_enter Try.func32, Try.ntmps32
          go_wp2_with fail
          refine (spec_IsElement_at p x true Hdx.out w).mono ?_
          rintro e w1 ⟨rfl, rfl⟩
          go_wp2_with fail
          refine (l01In_is n 1 4 true Hdn.out w).mono ?_
          rintro e w1 ⟨rfl, rfl⟩
          go_wp2_with fail
          refine (l03All_at p A m c v false Hda.out w hv LV.out (by omega)).mono ?_
          rintro e w1 ⟨rfl, rfl⟩
          go_wp2_with fail
          go_ret
          exact ⟨rfl, rfl⟩
      · obtain rfl : r = 0 := by rw [← hr]; exact countI_no (fun e => hl (by rw [← lv]; exact e.2.2.1))
        clear hr lv hx
        go_enter Try.func32, Try.ntmps32
        go_wp2_with fail
        refine (spec_IsElement_at p x true Hdx.out w).mono ?_
        rintro e w1 ⟨rfl, rfl⟩
        go_wp2_with fail
        refine (l01In_is n 1 4 true Hdn.out w).mono ?_
        rintro e w1 ⟨rfl, rfl⟩
        go_wp2_with fail
        go_ret
        exact ⟨rfl, rfl⟩
    · have Hdn := Lib.hid (decide_eq_false hn)
      obtain rfl : r = 0 := by rw [← hr]; exact countI_no (fun e => hn e.2.1)
      clear hr lv hx hn
      go_enter Try.func32, Try.ntmps32
      go_wp2_with fail
      refine (spec_IsElement_at p x true Hdx.out w).mono ?_
      rintro e w1 ⟨rfl, rfl⟩
      go_wp2_with fail
      refine (l01In_is n 1 4 false Hdn.out w).mono ?_
      rintro e w1 ⟨rfl, rfl⟩
      go_wp2_with fail
      go_ret
      exact ⟨rfl, rfl⟩
  · have Hdx := Lib.hid (decide_eq_false hx)
    obtain rfl : r = 0 := by rw [← hr]; exact countI_no (fun e => hx e.1)
    clear hr lv hx
    go_enter Try.func32, Try.ntmps32
    go_wp2_with fail
    refine (spec_IsElement_at p x false Hdx.out w).mono ?_
    rintro e w1 ⟨rfl, rfl⟩
    go_wp2_with fail
    go_ret
    exact ⟨rfl, rfl⟩
theorem impl_IsElement_at (p a : Int) (b : Bool) (h : decide (isEl p a) = b) (w : World) :
    Calls Try.prog 37 #[.int .i64 p, .int .i64 a] w fun e w' => e = .returned (.bool b) ∧ w = w' := by
  subst h; exact impl_IsElement p a w
theorem impl_CountSharings (p x n r : Int) (A : Option Addr) (m c : Nat) (v : List Int) (hr : countI p x n v = r) (w : World) (hv : Ints w A v) (lv : v.length = m) (mv : m ≤ 2000000) :
    Calls Try.prog 20 #[.int .i64 p, .int .i64 x, .int .i64 n, .slice A m c] w fun e w' => e = .returned (.int .i64 r) ∧ Below w.heap.size w w' := by
  have LV := Lib.hid lv
  by_cases hp : p ≤ 13
  · by_cases hn1 : 1 ≤ n
    · by_cases hn4 : n ≤ 4
      · by_cases hl : (m : Int) ≤ n
        · by_cases hx : isEl p x
          · have Hdx := Lib.hid (decide_eq_true hx)
            by_cases ha : allEl p v
            · have Hda := Lib.hid (decide_eq_true ha)
              have hpr := hx.1.range
              obtain ⟨s, hs⟩ : ∃ s, fsumI p v = s := ⟨_, rfl⟩
              have hse : isEl p s := by rw [← hs]; exact fsum_el ha
              have hr' : cntI p (fsubI p x s) (n - (m : Int)).toNat = r := by
                rw [← hr, ← hs, ← lv]; exact (if_pos ⟨hx, ⟨hn1, hn4⟩, by rw [lv]; exact hl, ha, hp⟩).symm
              by_cases he : (m : Int) = n
              · subst he
                have hop : openI p v = s := by rw [← hs]; unfold openI; rw [if_pos (by omega)]
                have Hop := Lib.hid hop
                rw [Int.sub_self] at hr'
                by_cases hsx : s = x
                · obtain rfl : r = 1 := by rw [← hr']; exact if_pos ((fsub_zero hx hse).2 hsx.symm)
                  subst hsx
                  clear hr lv hx ha hs hse hr' hop
                  go_enter Try.func20, Try.ntmps20
                  go_wp2_with fail
                  refine (impl_IsElement_at p s true Hdx.out w).mono ?_
                  rintro e w1 ⟨rfl, rfl⟩
                  go_wp2_with fail
                  refine (impl_allElements p A m c v true Hda.out w hv LV.out (by omega)).mono ?_
                  rintro e w1 ⟨rfl, k1⟩
                  go_wp2_with fail
                  refine (impl_OpenAdd p A m c v s Hop.out w1 (hv.below k1) LV.out (by omega)).mono ?_
                  rintro e w2 ⟨rfl, hb⟩
                  go_wp2_with fail
                  go_ret
                  exact ⟨rfl, k1.trans (hb.mono k1.size)⟩
                · obtain rfl : r = 0 := by rw [← hr']; exact if_neg (fun e => hsx ((fsub_zero hx hse).1 e).symm)
                  have hne : (s == x) = false := beq_eq_false_iff_ne.2 hsx
                  clear hr lv hx ha hs hse hr' hop
                  go_enter Try.func20, Try.ntmps20
                  go_wp2_with fail
                  refine (impl_IsElement_at p x true Hdx.out w).mono ?_
                  rintro e w1 ⟨rfl, rfl⟩
                  go_wp2_with fail
                  refine (impl_allElements p A m c v true Hda.out w hv LV.out (by omega)).mono ?_
                  rintro e w1 ⟨rfl, k1⟩
                  go_wp2_with fail
                  refine (impl_OpenAdd p A m c v s Hop.out w1 (hv.below k1) LV.out (by omega)).mono ?_
                  rintro e w2 ⟨rfl, hb⟩
                  go_wp2_with fail
                  go_ret
                  exact ⟨rfl, k1.trans (hb.mono k1.size)⟩
              · obtain ⟨q, hq⟩ : ∃ q : Nat, (n - (m : Int)).toNat = q + 1 := ⟨(n - (m : Int)).toNat - 1, by omega⟩
                rw [hq] at hr'
                have hpw : pwI p q = r := hr'
                have hne : ((m : Int) == n) = false := beq_eq_false_iff_ne.2 he
                have Hpw := Lib.hid hpw
                have hq0 : (q : Int) ≤ n - m - 1 := by omega
                have hq1 : n - m - 1 ≤ (q : Int) := by omega
                have hq3 : q ≤ 3 := by omega
                clear hr lv hx ha hs hse hr' hpw hq
                go_enter Try.func20, Try.ntmps20
                go_wp2_with fail
                refine (impl_IsElement_at p x true Hdx.out w).mono ?_
                rintro e w1 ⟨rfl, rfl⟩
                go_wp2_with fail
                refine (impl_allElements p A m c v true Hda.out w hv LV.out (by omega)).mono ?_
                rintro e w1 ⟨rfl, k1⟩
                go_wp2_with fail
                go_loop [9, 50] (fun s i => ∃ k : Nat, k ≤ q ∧ i = .int .i64 k ∧ s = .int .i64 (pwI p k)) (fun _ i => q - (intOf i).toNat)
                case atStart => exact ⟨0, Nat.zero_le _, rfl, rfl⟩
                case round =>
                  obtain ⟨k, hk, rfl, rfl⟩ := hrel
                  by_cases hlt : k < q
                  · have hs1 := pwI_small (show 0 ≤ p by omega) hp (k := k) (by omega)
                    have hs2 := pwI_small (show 0 ≤ p by omega) hp (k := k + 1) (by omega)
                    have Hnx := Lib.hid (pwI_next p k)
                    rw [pwI_next] at hs2
                    generalize pwI p k = u at *
                    have hlt1 : (k : Int) < n - m - 1 := by omega
                    have hk0 : (0 : Int) ≤ k := by omega
                    obtain ⟨ha1, ha2⟩ := hs1
                    obtain ⟨hb1, hb2⟩ := hs2
                    go_wp2_with fail
                    go_round
                    case rel => exact ⟨k + 1, by omega, by go_num, by rw [Hnx.out]⟩
                    case measure => simp [intOf]; omega
                  · obtain rfl : k = q := by omega
                    rw [Hpw.out]
                    have hge : n - m - 1 ≤ (k : Int) := by omega
                    go_wp2_with fail
                    go_ret
                    exact ⟨rfl, k1⟩
            · have Hda := Lib.hid (decide_eq_false ha)
              obtain rfl : r = 0 := by rw [← hr]; exact countI_no (fun e => ha e.2.2.2.1)
              clear hr lv hx ha
              go_enter Try.func20, Try.ntmps20
              go_wp2_with fail
              refine (impl_IsElement_at p x true Hdx.out w).mono ?_
              rintro e w1 ⟨rfl, rfl⟩
              go_wp2_with fail
              refine (impl_allElements p A m c v false Hda.out w hv LV.out (by omega)).mono ?_
              rintro e w1 ⟨rfl, k1⟩
              go_wp2_with fail
              go_ret
              exact ⟨rfl, k1⟩
          · have Hdx := Lib.hid (decide_eq_false hx)
            obtain rfl : r = 0 := by rw [← hr]; exact countI_no (fun e => hx e.1)
            clear hr lv hx
            go_enter Try.func20, Try.ntmps20
            go_wp2_with fail
            refine (impl_IsElement_at p x false Hdx.out w).mono ?_
            rintro e w1 ⟨rfl, rfl⟩
            go_wp2_with fail
            go_ret
            exact ⟨rfl, Below.refl _ _⟩
        · obtain rfl : r = 0 := by rw [← hr]; exact countI_no (fun e => hl (by rw [← lv]; exact e.2.2.1))
          clear hr lv
          go_enter Try.func20, Try.ntmps20
          go_wp2_with fail
          go_ret
          exact ⟨rfl, Below.refl _ _⟩
      · obtain rfl : r = 0 := by rw [← hr]; exact countI_no (fun e => hn4 e.2.1.2)
        clear hr lv
        go_enter Try.func20, Try.ntmps20
        go_wp2_with fail
        go_ret
        exact ⟨rfl, Below.refl _ _⟩
    · obtain rfl : r = 0 := by rw [← hr]; exact countI_no (fun e => hn1 e.2.1.1)
      clear hr lv
      go_enter Try.func20, Try.ntmps20
      go_wp2_with fail
      go_ret
      exact ⟨rfl, Below.refl _ _⟩
  · obtain rfl : r = 0 := by rw [← hr]; exact countI_no (fun e => hp e.2.2.2.2)
    clear hr lv
    go_enter Try.func20, Try.ntmps20
    go_wp2_with fail
    go_ret
    exact ⟨rfl, Below.refl _ _⟩
end Go.Proofs.Ytjhgjfipfjackaa

/- Additive shares: dealing and opening; the program and the model return the same shares in new memory. -/
import Derived.Test.YtjhgjfipfjackaaProg
import Derived.Test.YtjhgjfipfjackaaShareM
import Derived.Test.YtjhgjfipfjackaaFieldC
import Derived.Test.YtjhgjfipfjackaaTapeP
import Derived.Test.YtjhgjfipfjackaaTapeL
import Derived.Test.YtjhgjfipfjackaaSeg
import Derived.Test.YtjhgjfipfjackaaBlk
import Derived.Handy
namespace Go.Proofs.Ytjhgjfipfjackaa
open Go Go.RowKit
theorem impl_partiesOk_is (n : Int) (r : Bool) (hr : decide (1 ≤ n ∧ n ≤ 5) = r) (w : World) :
    Calls Try.prog 38 #[.int .i64 n] w fun e w' => e = .returned (.bool r) ∧ w = w' := by
  subst hr
  go_enter Try.func38, Try.ntmps38
  go_wp2
  all_goals go_ret
  all_goals exact ⟨ret_bool (by simp; omega), rfl⟩
theorem impl_canDeal (s a : Int) (r : Bool) (hr : decide (isTape s a ∧ a ≤ 900000) = r) (w : World) :
    Calls Try.prog 39 #[.agg #[.int .i64 s, .int .i64 a]] w fun e w' => e = .returned (.bool r) ∧ Below w.heap.size w w' := by
  subst hr
  have hx := heap_alloc_new w (.cells #[.int .i64 s, .int .i64 a] 26)
  have k0 : Below w.heap.size w (w.alloc (.cells #[.int .i64 s, .int .i64 a] 26)) := (Below.refl _ _).alloc (Nat.le_refl _) _
  go_enter Try.func39, Try.ntmps39
  go_wp2_with fail
  refine (impl_TapeOk s a _).mono ?_
  rintro e w1 ⟨rfl, hb1⟩
  have hc := box2_below hx hb1
  have hb2 := k0.trans (hb1.mono k0.size)
  obtain ⟨c0, c1, _, _⟩ := box2 hc
  by_cases hs : isTape s a
  · rw [decide_eq_true hs]
    go_wp2
    all_goals go_ret
    all_goals exact ⟨ret_bool (by simp [hs]), hb2⟩
  · rw [decide_eq_false hs]
    go_wp2_with fail
    go_ret
    exact ⟨ret_bool (by simp [hs]), hb2⟩
theorem impl_allElements (p : Int) (A : Option Addr) (n c : Nat) (xs : List Int) (r : Bool) (hr : decide (allEl p xs) = r) (w : World) (hx : Ints w A xs) (hl : xs.length = n) (hn : n ≤ 1000000000) :
    Calls Try.prog 43 #[.int .i64 p, .slice A n c] w fun e w' => e = .returned (.bool r) ∧ Below w.heap.size w w' := by
  by_cases h : allEl p xs
  · have e0 := fsum_el h
    have e1 : fsumI p xs ≠ -1 := by have := e0.2.1; omega
    rw [decide_eq_true h] at hr
    subst hr
    clear e0 h
    go_enter Try.func43, Try.ntmps43
    go_wp2_with fail
    refine (impl_FSum p A n c xs w hx hl hn).mono ?_
    rintro e w1 ⟨rfl, hb1⟩
    generalize fsumI p xs = z at *
    have e2 : (z == -1) = false := beq_eq_false_iff_ne.2 e1
    go_wp2_with fail
    go_ret
    exact ⟨ret_bool (by simpa using e1), hb1⟩
  · rw [decide_eq_false h] at hr
    subst hr
    have e0 := fsumI_no h
    go_enter Try.func43, Try.ntmps43
    go_wp2_with fail
    refine (impl_FSum p A n c xs w hx hl hn).mono ?_
    rintro e w1 ⟨rfl, hb1⟩
    rw [e0]
    go_wp2_with fail
    go_ret
    exact ⟨rfl, hb1⟩
theorem impl_missingShare (p x : Int) (A : Option Addr) (n c : Nat) (xs : List Int) (r : Int) (hr : fsubI p x (fsumI p xs) = r) (w : World) (hx : Ints w A xs) (hl : xs.length = n) (hn : n ≤ 1000000000) :
    Calls Try.prog 41 #[.int .i64 p, .int .i64 x, .slice A n c] w fun e w' => e = .returned (.int .i64 r) ∧ Below w.heap.size w w' := by
  obtain ⟨z, hz⟩ : ∃ z, fsumI p xs = z := ⟨_, rfl⟩
  have Hz := Lib.hid hz
  rw [hz] at hr
  subst hr
  clear hz
  go_enter Try.func41, Try.ntmps41
  go_wp2_with fail
  refine (impl_FSum p A n c xs w hx hl hn).mono ?_
  rintro e w1 ⟨rfl, hb1⟩
  rw [Hz.out]
  go_wp2_with fail
  refine (impl_FSub p x z w1).mono ?_
  rintro e w2 ⟨rfl, hb2⟩
  go_wp2_with fail
  go_ret
  exact ⟨rfl, hb1.trans (hb2.mono hb1.size)⟩
theorem impl_OpenAdd (p : Int) (A : Option Addr) (n c : Nat) (xs : List Int) (r : Int) (hr : openI p xs = r) (w : World) (hx : Ints w A xs) (hl : xs.length = n) (hn : n ≤ 1000000000) :
    Calls Try.prog 16 #[.int .i64 p, .slice A n c] w fun e w' => e = .returned (.int .i64 r) ∧ Below w.heap.size w w' := by
  have hr' : (if 1 ≤ n ∧ n ≤ 5 then fsumI p xs else -1) = r := by rw [← hr, openI, hl]
  clear hr
  have Hl := Lib.hid hl
  clear hl
  by_cases h : (1 : Int) ≤ n ∧ (n : Int) ≤ 5
  · rw [if_pos (by omega)] at hr'
    subst hr'
    have hd := decide_eq_true h
    clear h
    go_enter Try.func16, Try.ntmps16
    go_wp2_with fail
    refine (impl_partiesOk_is n true hd _).mono ?_
    rintro e w1 ⟨rfl, rfl⟩
    go_wp2_with fail
    refine (impl_FSum p A n c xs w hx Hl.out hn).mono ?_
    rintro e w1 ⟨rfl, hb1⟩
    go_wp2_with fail
    go_ret
    exact ⟨rfl, hb1⟩
  · rw [if_neg (by omega)] at hr'
    subst hr'
    have hd := decide_eq_false h
    clear h
    go_enter Try.func16, Try.ntmps16
    go_wp2_with fail
    refine (impl_partiesOk_is n false hd _).mono ?_
    rintro e w1 ⟨rfl, rfl⟩
    go_wp2_with fail
    go_ret
    exact ⟨rfl, Below.refl _ _⟩
theorem spec_OpenAdd (p : Int) (A : Option Addr) (n c : Nat) (xs : List Int) (r : Int) (hr : openI p xs = r) (w : World) (hx : Ints w A xs) (hl : xs.length = n) (hn : n ≤ 1000000000) :
    Calls Try.prog 27 #[.int .i64 p, .slice A n c] w fun e w' => e = .returned (.int .i64 r) ∧ w = w' := by
  have hr' : (if 1 ≤ n ∧ n ≤ 5 then fsumI p xs else -1) = r := by rw [← hr, openI, hl]
  clear hr
  have Hl := Lib.hid hl
  clear hl
  by_cases h : (1 : Int) ≤ n ∧ (n : Int) ≤ 5
  · rw [if_pos (by omega)] at hr'
    subst hr'
    have hd := decide_eq_true h
    clear h
    go_enter Try.func27, Try.ntmps27
    go_wp2_with fail
    refine (l01In_is n 1 5 true hd _).mono ?_
    rintro e w1 ⟨rfl, rfl⟩
    go_wp2_with fail
    refine (spec_FSum p A n c xs w hx Hl.out hn).mono ?_
    rintro e w1 ⟨rfl, rfl⟩
    go_wp2_with fail
    go_ret
    exact ⟨rfl, rfl⟩
  · rw [if_neg (by omega)] at hr'
    subst hr'
    have hd := decide_eq_false h
    clear h
    go_enter Try.func27, Try.ntmps27
    go_wp2_with fail
    refine (l01In_is n 1 5 false hd _).mono ?_
    rintro e w1 ⟨rfl, rfl⟩
    go_wp2_with fail
    go_ret
    exact ⟨rfl, rfl⟩
theorem spec_l06Tape (s a : Int) (r : Bool) (hr : decide (isTape s a ∧ a ≤ 900000) = r) (w : World) :
    Calls Try.prog 49 #[.agg #[.int .i64 s, .int .i64 a]] w fun e w' => e = .returned (.bool r) ∧ Below w.heap.size w w' := by
  subst hr
  have hx := heap_alloc_new w (.cells #[.int .i64 s, .int .i64 a] 26)
  have k0 : Below w.heap.size w (w.alloc (.cells #[.int .i64 s, .int .i64 a] 26)) := (Below.refl _ _).alloc (Nat.le_refl _) _
  go_enter Try.func49, Try.ntmps49
  go_wp2_with fail
  refine (spec_TapeOk s a _).mono ?_
  rintro e w1 ⟨rfl, hb1⟩
  have hc := box2_below hx hb1
  have hb2 := k0.trans (hb1.mono k0.size)
  obtain ⟨c0, c1, _, _⟩ := box2 hc
  by_cases hs : isTape s a
  · rw [decide_eq_true hs]
    go_wp2
    all_goals go_ret
    all_goals exact ⟨ret_bool (by simp [hs]), hb2⟩
  · rw [decide_eq_false hs]
    go_wp2_with fail
    go_ret
    exact ⟨ret_bool (by simp [hs]), hb2⟩
theorem Listed.of {w w' : World} {s b c : Int} {zs ys : List Int} {e : Ending} (h : Listed w s b zs e w') (h1 : b = c) (h2 : zs = ys) : Listed w s c ys e w' := by subst h1 h2; exact h
theorem vals_snoc {w : World} {base n : Nat} {e : TypeId} {v : Value} {zs : List Int} {r : Int} (h : w.ownsRow base e 1 v n (intVals zs ++ (#[Value.int .i64 r] : Array Value).toList)) : w.ownsRow base e 1 v n (intVals (zs ++ [r])) := by
  simpa [intVals] using h
theorem impl_ShareAdd_yes (p x n s a : Int) (h : shareOk p x n s a) (w : World) :
    Calls Try.prog 15 #[.int .i64 p, .int .i64 x, .int .i64 n, .agg #[.int .i64 s, .int .i64 a]] w (Listed w s (a + (n - 1)) (saN p x s a (n - 1).toNat)) := by
  obtain ⟨hx, hn, hs, ha⟩ := h
  have hr := hs.range
  have hp := hx.range
  have hcd : decide (isTape s a ∧ a ≤ 900000) = true := decide_eq_true ⟨hs, ha⟩
  have hpo := decide_eq_true hn
  have hel := decide_eq_true hx
  have hlo : listOk s a p (n - 1) := ⟨hs, hx.1.bound, by omega, by omega, by omega⟩
  have bx := Boxed.start w 26 (.int .i64 s) (.int .i64 a) 26 (.int .i64 0) (.int .i64 0)
  obtain ⟨hn0, hn1⟩ := hn
  have Htl := Lib.hid (show tlI s a p (n - 1) = tlN s a p (n - 1).toNat from if_pos hlo)
  have Hta := Lib.hid (show tlaI s a p (n - 1) = a + (n - 1) from if_pos hlo)
  have Hcd := Lib.hid hcd
  have Hx := Lib.hid hx
  clear hs hcd hx hlo
  go_enter Try.func15, Try.ntmps15
  go_wp2_with fail
  refine (impl_IsElement p x _).mono ?_
  rintro e w1 ⟨rfl, rfl⟩
  rw [hel]
  obtain ⟨t0, t1, _, _⟩ := box2 bx.arg
  go_wp2_with fail
  refine (impl_partiesOk_is _ true hpo _).mono ?_
  rintro e w2 ⟨rfl, rfl⟩
  go_wp2_with fail
  refine (impl_canDeal s a true Hcd.out _).mono ?_
  rintro e w2 ⟨rfl, hb⟩
  replace bx := bx.next hb
  clear hb t0 t1
  obtain ⟨t0, t1, _, _⟩ := box2 bx.arg
  go_wp2_with fail
  have hlt := bx.lt
  refine (impl_TapeList s a p (n - 1) _).mono ?_
  intro e w3 h3
  obtain ⟨A, m, c, rfl, hm, hown, hb⟩ := h3.of Hta.out Htl.out
  replace bx := bx.next hb
  have q2 : w2.heap.size ≤ (w3.alloc (.cells #[.int .i64 s, .int .i64 (a + (n - 1))] 26)).heap.size := by have := hb.size; simp; omega
  have m4 : m ≤ 4 := by rw [← hm, tlN_length]; omega
  clear h3 hb t0 t1
  have b11 := heap_alloc_new w3 (.cells #[.int .i64 s, .int .i64 (a + (n - 1))] 26)
  have h11 : w3.heap.size < (w3.alloc (.cells #[.int .i64 s, .int .i64 (a + (n - 1))] 26)).heap.size := heap_lt b11
  replace bx := bx.alloc (.cells #[.int .i64 s, .int .i64 (a + (n - 1))] 26)
  have oz := (OwnI.of_own hown).alloc (.cells #[.int .i64 s, .int .i64 (a + (n - 1))] 26)
  clear hown
  go_wp2_with fail
  generalize w3.alloc (.cells #[.int .i64 s, .int .i64 (a + (n - 1))] 26) = w4 at *
  generalize w3.heap.size = p11 at *
  obtain ⟨zs, hzs⟩ : ∃ zs, tlN s a p (n - 1).toNat = zs := ⟨_, rfl⟩
  have Hsa := Lib.hid (show saN p x s a (n - 1).toNat = zs ++ [fsubI p x (fsumI p zs)] by rw [← hzs]; rfl)
  rw [hzs] at hm oz
  clear hzs Htl Hta
  obtain ⟨r, hr⟩ : ∃ r, fsubI p x (fsumI p zs) = r := ⟨_, rfl⟩
  have Hr := Lib.hid hr
  rw [hr] at Hsa
  have Hm := Lib.hid hm
  clear hr hm
  have hi4 : Ints w4.drew A zs := oz.ints
  replace oz := oz.drew
  replace bx := bx.drew
  replace b11 : w4.drew.heap[p11]? = some (.cells #[.int .i64 s, .int .i64 (a + (n - 1))] 26 (0, 0)) := b11
  obtain ⟨u0, u1, _, _⟩ := box2 b11
  have q4 : p11 ≤ w4.drew.heap.size := Nat.le_of_lt (heap_lt b11)
  replace q2 : w2.heap.size ≤ w4.drew.heap.size := q2
  go_region_law (first | (refine app_step (e' := 3) elemInt (by rfl) _ _ (by rfl) w2.heap.size _ m (intVals zs) (by rfl) (oz.own.alloc _) w5.heap.size 1 1 _ (0, 0) (by rfl) (heap_alloc_new w5 _) (by rfl) (oneCell_i64 [_]) (by omega) (by unfold maxLen; omega) (by omega) (by simp; omega) (w5.heap.size + 1) (by simp) ?_; intro g6 e6 w6 ho6 hg6 hat6 hl6; replace bx := (bx.alloc (.cells #[.int .i64 r] 3)).own (oz.own.alloc _) hg6 hlt; replace b11 := heap_grown (heap_alloc b11 (.cells #[.int .i64 r] 3)) hg6 (fun e => Nat.lt_irrefl _ (oz.top _ e)); obtain ⟨u0, u1, _, _⟩ := box2 b11; obtain ⟨r0, r1, r2, r3⟩ := box2 bx.res) | (go_simp; go_at_call 41; (with_reducible refine (impl_missingShare p x A m c zs r Hr.out _ hi4 Hm.out (by omega)).mono ?_); rintro e w5 ⟨rfl, hb5⟩; have q5 := hb5.size; replace oz := oz.below hb5; replace bx := bx.next hb5; replace b11 := heap_below b11 hb5; obtain ⟨u0, u1, _, _⟩ := box2 b11; obtain ⟨v0, v1⟩ := cells2 (.cells #[.int .i64 r] 3) b11))
  all_goals
    have hz := bx.set (.int .i64 s) (.int .i64 (a + (n - 1)))
    have ho7 := own_mono (ownsRow_setCell_below (ownsRow_setCell_below (vals_snoc ho6) (a := ⟨w.heap.size + 1, 0, none⟩) hlt (.int .i64 s)) (a := ⟨w.heap.size + 1, 1, none⟩) hlt (.int .i64 (a + (n - 1)))) (by omega : w.heap.size ≤ w2.heap.size)
    have Ho := Lib.hid ho7
    clear ho7 ho6 hg6 oz b11 u0 u1 v0 v1 r0 r1 r2 r3
    go_wp2_with fail
    (try simp only [Exit.inBlock, Exit.then])
    refine bodyPost_ret (results_tmp_cell_row (P := Try.prog) rfl _ _ _ (w.heap.size + 1) 26 _ (0, 0) _ rfl rfl hz.res Try.underlying26 rfl (by kernel_rfl)) rfl ?_
    rw [Hsa.out]
    exact ⟨_, _, _, rfl, by rw [List.length_append, Hm.out]; rfl, Ho.out, hz.low⟩
theorem impl_ShareAdd_no (p x n s a : Int) (h : ¬ shareOk p x n s a) (w : World) :
    Calls Try.prog 15 #[.int .i64 p, .int .i64 x, .int .i64 n, .agg #[.int .i64 s, .int .i64 a]] w (Listed w s a []) := by
  have bx := Boxed.start w 26 (.int .i64 s) (.int .i64 a) 26 (.int .i64 0) (.int .i64 0)
  have hx5 := (Boxed.start w 26 (.int .i64 s) (.int .i64 a) 26 (.int .i64 s) (.int .i64 a)).drew
  by_cases hx : isEl p x
  · have hel := decide_eq_true hx
    by_cases hn : 1 ≤ n ∧ n ≤ 5
    · have hno : ¬ (isTape s a ∧ a ≤ 900000) := fun e => h ⟨hx, hn, e⟩
      have hpo := decide_eq_true hn
      have hcd := decide_eq_false hno
      have Hcd := Lib.hid hcd
      clear h hno hcd hn hx5 hx
      obtain ⟨t0, t1, _, _⟩ := box2 bx.arg
      go_enter Try.func15, Try.ntmps15
      go_wp2_with fail
      refine (impl_IsElement p x _).mono ?_
      rintro e w1 ⟨rfl, rfl⟩
      rw [hel]
      go_wp2_with fail
      refine (impl_partiesOk_is _ true hpo _).mono ?_
      rintro e w2 ⟨rfl, rfl⟩
      go_wp2_with fail
      refine (impl_canDeal s a false Hcd.out _).mono ?_
      rintro e w2 ⟨rfl, hb⟩
      replace bx := bx.next hb
      clear hb t0 t1
      obtain ⟨t0, t1, _, _⟩ := box2 bx.arg
      obtain ⟨r0, r1, r2, r3⟩ := box2 bx.res
      have hz := (bx.set (.int .i64 s) (.int .i64 a)).drew
      go_wp2_with fail
      go_region
      go_wp2_with fail
      (try simp only [Exit.inBlock, Exit.then])
      refine bodyPost_ret (results_tmp_cell_row (P := Try.prog) rfl _ _ _ (w.heap.size + 1) 26 _ (0, 0) _ rfl rfl hz.res Try.underlying26 rfl (by kernel_rfl)) rfl ?_
      exact Listed.nil_ hz.low
    · have hpo := decide_eq_false hn
      clear h hn hx
      go_enter Try.func15, Try.ntmps15
      go_wp2_with fail
      refine (impl_IsElement p x _).mono ?_
      rintro e w1 ⟨rfl, rfl⟩
      rw [hel]
      go_wp2_with fail
      refine (impl_partiesOk_is _ false hpo _).mono ?_
      rintro e w2 ⟨rfl, rfl⟩
      go_wp2_with fail
      go_region
      go_wp2_with fail
      (try simp only [Exit.inBlock, Exit.then])
      refine bodyPost_ret (results_tmp_cell_row (P := Try.prog) rfl _ _ _ (w.heap.size + 1) 26 _ (0, 0) _ rfl rfl hx5.res Try.underlying26 rfl (by kernel_rfl)) rfl ?_
      exact Listed.nil_ hx5.low
  · have hel := decide_eq_false hx
    clear h hx
    go_enter Try.func15, Try.ntmps15
    go_wp2_with fail
    refine (impl_IsElement p x _).mono ?_
    rintro e w1 ⟨rfl, rfl⟩
    rw [hel]
    go_wp2_with fail
    go_region
    go_wp2_with fail
    (try simp only [Exit.inBlock, Exit.then])
    refine bodyPost_ret (results_tmp_cell_row (P := Try.prog) rfl _ _ _ (w.heap.size + 1) 26 _ (0, 0) _ rfl rfl hx5.res Try.underlying26 rfl (by kernel_rfl)) rfl ?_
    exact Listed.nil_ hx5.low
theorem impl_ShareAdd (p x n s a : Int) (w : World) :
    Calls Try.prog 15 #[.int .i64 p, .int .i64 x, .int .i64 n, .agg #[.int .i64 s, .int .i64 a]] w (Listed w s (saaI p x n s a) (saI p x n s a)) := by
  by_cases h : shareOk p x n s a
  · have e1 : saI p x n s a = saN p x s a (n - 1).toNat := if_pos h
    have e2 : saaI p x n s a = a + (n - 1) := if_pos h
    rw [e1, e2]
    exact impl_ShareAdd_yes p x n s a h w
  · have e1 : saI p x n s a = [] := if_neg h
    have e2 : saaI p x n s a = a := if_neg h
    rw [e1, e2]
    exact impl_ShareAdd_no p x n s a h w
end Go.Proofs.Ytjhgjfipfjackaa

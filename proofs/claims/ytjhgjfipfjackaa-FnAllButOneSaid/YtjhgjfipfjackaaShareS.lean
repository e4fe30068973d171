/- Additive shares: the model deals the same shares in new memory. -/
import Derived.Test.YtjhgjfipfjackaaProg
import Derived.Test.YtjhgjfipfjackaaShare
namespace Go.Proofs.Ytjhgjfipfjackaa
open Go Go.RowKit
theorem spec_ShareAdd_yes (p x n s a : Int) (h : shareOk p x n s a) (w : World) :
    Calls Try.prog 21 #[.int .i64 p, .int .i64 x, .int .i64 n, .agg #[.int .i64 s, .int .i64 a]] w (Listed w s (a + (n - 1)) (saN p x s a (n - 1).toNat)) := by
  obtain ⟨hx, hn, hs, ha⟩ := h
  have hr := hs.range
  have hp := hx.range
  have hcd : decide (isTape s a ∧ a ≤ 900000) = true := decide_eq_true ⟨hs, ha⟩
  have hpo := decide_eq_true hn
  have hel := decide_eq_true hx
  have hlo : listOk s a p (n - 1) := ⟨hs, hx.1.bound, by omega, by omega, by omega⟩
  have bx := Boxed.start w 26 (.int .i64 s) (.int .i64 a) 26 (.int .i64 0) (.int .i64 0)
  obtain ⟨hn0, hn1⟩ := hn
  have Htl := Lib.hid (show tlI s a p (n - 1) = tlN s a p (n - 1).toNat from if_pos hlo)
  have Hta := Lib.hid (show tlaI s a p (n - 1) = a + (n - 1) from if_pos hlo)
  have Hcd := Lib.hid hcd
  have Hx := Lib.hid hx
  clear hs hcd hx hlo
  go_enter Try.func21, Try.ntmps21
  go_wp2_with fail
  refine (spec_IsElement p x _).mono ?_
  rintro e w1 ⟨rfl, rfl⟩
  rw [hel]
  obtain ⟨t0, t1, _, _⟩ := box2 bx.arg
  go_wp2_with fail
  refine (l01In_is n 1 5 true hpo _).mono ?_
  rintro e w2 ⟨rfl, rfl⟩
  go_wp2_with fail
  refine (spec_l06Tape s a true Hcd.out _).mono ?_
  rintro e w2 ⟨rfl, hb⟩
  replace bx := bx.next hb
  clear hb t0 t1
  obtain ⟨t0, t1, _, _⟩ := box2 bx.arg
  go_wp2_with fail
  have hlt := bx.lt
  refine (spec_TapeList s a p (n - 1) _).mono ?_
  intro e w3 h3
  obtain ⟨A, m, c, rfl, hm, hown, hb⟩ := h3.of Hta.out Htl.out
  replace bx := bx.next hb
  have q2 : w2.heap.size ≤ (w3.alloc (.cells #[.int .i64 s, .int .i64 (a + (n - 1))] 26)).heap.size := by have := hb.size; simp; omega
  have m4 : m ≤ 4 := by rw [← hm, tlN_length]; omega
  clear h3 hb t0 t1
  have b11 := heap_alloc_new w3 (.cells #[.int .i64 s, .int .i64 (a + (n - 1))] 26)
  have h11 : w3.heap.size < (w3.alloc (.cells #[.int .i64 s, .int .i64 (a + (n - 1))] 26)).heap.size := heap_lt b11
  replace bx := bx.alloc (.cells #[.int .i64 s, .int .i64 (a + (n - 1))] 26)
  have oz := (OwnI.of_own hown).alloc (.cells #[.int .i64 s, .int .i64 (a + (n - 1))] 26)
  clear hown
  go_wp2_with fail
  generalize w3.alloc (.cells #[.int .i64 s, .int .i64 (a + (n - 1))] 26) = w4 at *
  generalize w3.heap.size = p11 at *
  obtain ⟨zs, hzs⟩ : ∃ zs, tlN s a p (n - 1).toNat = zs := ⟨_, rfl⟩
  have Hsa := Lib.hid (show saN p x s a (n - 1).toNat = zs ++ [fsubI p x (fsumI p zs)] by rw [← hzs]; rfl)
  rw [hzs] at hm oz
  clear hzs Htl Hta
  obtain ⟨r, hr⟩ : ∃ r, fsubI p x (fsumI p zs) = r := ⟨_, rfl⟩
  have Hr := Lib.hid hr
  rw [hr] at Hsa
  have Hm := Lib.hid hm
  clear hr hm
  have hi4 : Ints w4.drew A zs := oz.ints
  obtain ⟨u0, u1, _, _⟩ := box2 b11
  obtain ⟨v0, v1⟩ := cells2 (.cells #[.int .i64 r] 3) b11
  have q4 : p11 ≤ w4.heap.size := Nat.le_of_lt (heap_lt b11)
  obtain ⟨y, hy⟩ : ∃ y, fsumI p zs = y := ⟨_, rfl⟩
  have Hy := Lib.hid hy
  have Hr2 : Hid (fsubI p x y = r) := by rw [← hy]; exact Hr.out
  clear hy
  go_region_law (first | (refine app_step (e' := 3) elemInt (by rfl) _ _ (by rfl) w2.heap.size _ m (intVals zs) (by rfl) ((oz.own.alloc _).drew) w4.heap.size 1 1 _ (0, 0) (by rfl) (heap_alloc_new w4 _) (by rfl) (oneCell_i64 [_]) (by omega) (by unfold maxLen; omega) (by omega) (by simp; omega) (w4.heap.size + 1) (by simp) ?_; intro g6 e6 w6 ho6 hg6 hat6 hl6; replace bx := (bx.alloc (.cells #[.int .i64 r] 3)).own (oz.own.alloc _) ⟨hg6.os, hg6.tape, hg6.output, hg6.size, hg6.block⟩ hlt; replace b11 := heap_grown (w := (w4.alloc (.cells #[.int .i64 r] 3))) (heap_alloc b11 (.cells #[.int .i64 r] 3)) ⟨hg6.os, hg6.tape, hg6.output, hg6.size, hg6.block⟩ (fun e => Nat.lt_irrefl _ (oz.top _ e)); obtain ⟨u0, u1, _, _⟩ := box2 b11; obtain ⟨r0, r1, r2, r3⟩ := box2 bx.res) | (go_simp; go_at_call 52; (with_reducible refine (spec_FSum p A m c zs _ hi4 Hm.out (by omega)).mono ?_); rintro e w5 ⟨rfl, rfl⟩; rw [Hy.out]) | (go_simp; go_at_call 51; (with_reducible refine (spec_FSub p x y _).mono ?_); rintro e w5 ⟨rfl, rfl⟩; rw [Hr2.out]))
  all_goals
    have hz := bx.set (.int .i64 s) (.int .i64 (a + (n - 1)))
    have ho7 := own_mono (ownsRow_setCell_below (ownsRow_setCell_below (vals_snoc ho6) (a := ⟨w.heap.size + 1, 0, none⟩) hlt (.int .i64 s)) (a := ⟨w.heap.size + 1, 1, none⟩) hlt (.int .i64 (a + (n - 1)))) (by omega : w.heap.size ≤ w2.heap.size)
    have Ho := Lib.hid ho7
    clear ho7 ho6 hg6 oz b11 u0 u1 v0 v1 r0 r1 r2 r3
    go_wp2_with fail
    (try simp only [Exit.inBlock, Exit.then])
    refine bodyPost_ret (results_tmp_cell_row (P := Try.prog) rfl _ _ _ (w.heap.size + 1) 26 _ (0, 0) _ rfl rfl hz.res Try.underlying26 rfl (by kernel_rfl)) rfl ?_
    rw [Hsa.out]
    exact ⟨_, _, _, rfl, by rw [List.length_append, Hm.out]; rfl, Ho.out, hz.low⟩
theorem Listed.made {w wr : World} {T : TypeId} {x y u v : Value} (bx : Boxed w wr T x y 26 u v) (s a : Int) :
    Listed w s a [] (.returned (.tuple #[.slice (some ⟨wr.heap.size, 0, none⟩) 0 0, .agg #[.int .i64 s, .int .i64 a]])) ((((wr.alloc (.cells #[] 3)).setCell ⟨w.heap.size + 1, 0, none⟩ (.int .i64 s)).setCell ⟨w.heap.size + 1, 1, none⟩ (.int .i64 a)).drew) := by
  have hown := World.ownsRow_made (e := 3) (size := 1) (base := w.heap.size + 1 + 1) wr #[] 0 (by have := bx.lt; omega) (by unfold maxLen; omega) rfl
  exact ⟨_, _, _, rfl, rfl, own_mono (ownsRow_setCell_below (ownsRow_setCell_below hown (a := ⟨w.heap.size + 1, 0, none⟩) (by simp) (.int .i64 s)) (a := ⟨w.heap.size + 1, 1, none⟩) (by simp) (.int .i64 a)) (by omega), ((bx.alloc (.cells #[] 3)).set (.int .i64 s) (.int .i64 a)).drew.low⟩
theorem Listed.made' (w : World) (s a : Int) :
    Listed w s a [] (.returned (.tuple #[.slice (some ⟨w.heap.size + 1 + 1, 0, none⟩) 0 0, .agg #[.int .i64 s, .int .i64 a]])) (((w.alloc (.cells #[.int .i64 s, .int .i64 a] 26)).alloc (.cells #[.int .i64 s, .int .i64 a] 26)).alloc (.cells #[] 3)).drew := by
  have hown := World.ownsRow_made (e := 3) (size := 1) (base := w.heap.size) ((w.alloc (.cells #[.int .i64 s, .int .i64 a] 26)).alloc (.cells #[.int .i64 s, .int .i64 a] 26)) #[] 0 (by simp; omega) (by unfold maxLen; omega) rfl
  simp only [World.size_alloc] at hown
  exact ⟨_, _, _, rfl, rfl, hown, ((Boxed.start w 26 (.int .i64 s) (.int .i64 a) 26 (.int .i64 s) (.int .i64 a)).alloc (.cells #[] 3)).drew.low⟩
theorem spec_ShareAdd_no (p x n s a : Int) (h : ¬ shareOk p x n s a) (w : World) :
    Calls Try.prog 21 #[.int .i64 p, .int .i64 x, .int .i64 n, .agg #[.int .i64 s, .int .i64 a]] w (Listed w s a []) := by
  have bx := Boxed.start w 26 (.int .i64 s) (.int .i64 a) 26 (.int .i64 0) (.int .i64 0)
  have hx5 := ((Boxed.start w 26 (.int .i64 s) (.int .i64 a) 26 (.int .i64 s) (.int .i64 a)).alloc (.cells #[] 3)).drew
  by_cases hx : isEl p x
  · have hel := decide_eq_true hx
    by_cases hn : 1 ≤ n ∧ n ≤ 5
    · have hno : ¬ (isTape s a ∧ a ≤ 900000) := fun e => h ⟨hx, hn, e⟩
      have hpo := decide_eq_true hn
      have hcd := decide_eq_false hno
      have Hcd := Lib.hid hcd
      clear h hno hcd hn hx5 hx
      obtain ⟨t0, t1, _, _⟩ := box2 bx.arg
      go_enter Try.func21, Try.ntmps21
      go_wp2_with fail
      refine (spec_IsElement p x _).mono ?_
      rintro e w1 ⟨rfl, rfl⟩
      rw [hel]
      go_wp2_with fail
      refine (l01In_is n 1 5 true hpo _).mono ?_
      rintro e w2 ⟨rfl, rfl⟩
      go_wp2_with fail
      refine (spec_l06Tape s a false Hcd.out _).mono ?_
      rintro e w2 ⟨rfl, hb⟩
      replace bx := bx.next hb
      clear hb t0 t1
      have hz := ((bx.alloc (.cells #[] 3)).set (.int .i64 s) (.int .i64 a)).drew
      have Hfin := Lib.hid (Listed.made bx s a)
      obtain ⟨t0, t1, _, _⟩ := box2 bx.arg
      obtain ⟨y0, y1, _, _⟩ := box2 (bx.alloc (.cells #[] 3)).arg
      obtain ⟨r0, r1, r2, r3⟩ := box2 (bx.alloc (.cells #[] 3)).res
      clear bx
      go_wp2_with fail
      go_region
      go_wp2_with fail
      (try simp only [Exit.inBlock, Exit.then])
      refine bodyPost_ret (results_tmp_cell_row (P := Try.prog) rfl _ _ _ (w.heap.size + 1) 26 _ (0, 0) _ rfl rfl hz.res Try.underlying26 rfl (by kernel_rfl)) rfl ?_
      exact Hfin.out
    · have hpo := decide_eq_false hn
      clear h hn hx
      go_enter Try.func21, Try.ntmps21
      go_wp2_with fail
      refine (spec_IsElement p x _).mono ?_
      rintro e w1 ⟨rfl, rfl⟩
      rw [hel]
      go_wp2_with fail
      refine (l01In_is n 1 5 false hpo _).mono ?_
      rintro e w2 ⟨rfl, rfl⟩
      go_wp2_with fail
      go_region
      go_wp2_with fail
      (try simp only [Exit.inBlock, Exit.then])
      refine bodyPost_ret (results_tmp_cell_row (P := Try.prog) rfl _ _ _ (w.heap.size + 1) 26 _ (0, 0) _ rfl rfl hx5.res Try.underlying26 rfl (by kernel_rfl)) rfl ?_
      exact Listed.made' w s a
  · have hel := decide_eq_false hx
    clear h hx
    go_enter Try.func21, Try.ntmps21
    go_wp2_with fail
    refine (spec_IsElement p x _).mono ?_
    rintro e w1 ⟨rfl, rfl⟩
    rw [hel]
    go_wp2_with fail
    go_region
    go_wp2_with fail
    (try simp only [Exit.inBlock, Exit.then])
    refine bodyPost_ret (results_tmp_cell_row (P := Try.prog) rfl _ _ _ (w.heap.size + 1) 26 _ (0, 0) _ rfl rfl hx5.res Try.underlying26 rfl (by kernel_rfl)) rfl ?_
    exact Listed.made' w s a
theorem spec_ShareAdd (p x n s a : Int) (w : World) :
    Calls Try.prog 21 #[.int .i64 p, .int .i64 x, .int .i64 n, .agg #[.int .i64 s, .int .i64 a]] w (Listed w s (saaI p x n s a) (saI p x n s a)) := by
  by_cases h : shareOk p x n s a
  · have e1 : saI p x n s a = saN p x s a (n - 1).toNat := if_pos h
    have e2 : saaI p x n s a = a + (n - 1) := if_pos h
    rw [e1, e2]
    exact spec_ShareAdd_yes p x n s a h w
  · have e1 : saI p x n s a = [] := if_neg h
    have e2 : saaI p x n s a = a := if_neg h
    rw [e1, e2]
    exact spec_ShareAdd_no p x n s a h w
end Go.Proofs.Ytjhgjfipfjackaa

/- The model of TapeList: the same results. -/
import Derived.Test.YtcjgoonkdjaccaaProg
import Derived.Test.YtcjgoonkdjaccaaTapeS
import Derived.Test.YtcjgoonkdjaccaaTapeL
namespace Go.Proofs.Ytcjgoonkdjaccaa
open Go Go.RowKit
theorem spec_TapeBelow_is (s a n p q : Int) (hp : tbI s a n = p) (hq : tbaI s a n = q) (w : World) :
    Calls Try.prog 84 #[.agg #[.int .i64 s, .int .i64 a], .int .i64 n] w fun e w' => e = .returned (.tuple #[.int .i64 p, .agg #[.int .i64 s, .int .i64 q]]) ∧ Below w.heap.size w w' := by
  subst hp hq; exact spec_TapeBelow s a n w
theorem spec_TapeList_yes (s a n : Int) (k : Nat) (hs : isTape s a) (hn : isBound n) (hk : k ≤ 1000) (hak : a + k ≤ 1000000) (w : World) :
    Calls Try.prog 58 #[.agg #[.int .i64 s, .int .i64 a], .int .i64 n, .int .i64 k] w (Listed w s (a + k) (tlN s a n k)) := by
  have hbk : decide ((0 : Int) ≤ k ∧ (k : Int) ≤ 1000) = true := decide_eq_true (by omega)
  have hbn : decide (1 ≤ n ∧ n ≤ 65536) = true := decide_eq_true hn
  have hok := decide_eq_true hs
  obtain ⟨h0, h1⟩ := hs.range
  have Hs := Lib.hid hs
  have Hn := Lib.hid hn
  clear hs hn
  go_enter Try.func58, Try.ntmps58
  go_wp2_with fail
  refine (l01In_is k 0 1000 true hbk _).mono ?_
  rintro e w1 ⟨rfl, rfl⟩
  go_wp2_with fail
  refine (l01In_is n 1 65536 true hbn _).mono ?_
  rintro e w1 ⟨rfl, rfl⟩
  go_wp2_with fail
  refine (spec_TapeOk s a _).mono ?_
  rintro e w1 ⟨rfl, hb1⟩
  rw [hok]
  have hx := ((Boxed.start w 27 (.int .i64 s) (.int .i64 a) 27 (.int .i64 0) (.int .i64 0)).alloc (.cells #[] 3)).next hb1
  have hown0 := World.ownsRow_made (e := 3) (size := 1) (base := w.heap.size + 1 + 1) ((w.alloc (.cells #[.int .i64 s, .int .i64 a] 27)).alloc (.cells #[.int .i64 0, .int .i64 0] 27)) #[] 0 (by simp) (by unfold maxLen; omega) rfl
  simp only [World.size_alloc] at hown0
  have hown1 := Lib.hid (own_below hown0 hb1)
  have hs1 := hx.lt
  clear hb1 hown0
  obtain ⟨t0, t1, _, _⟩ := box2 hx.arg
  go_wp2_with fail
  go_loopw [8, 9] (fun v i wr => ∃ j : Nat, j ≤ k ∧ i = .int .i64 j ∧ wr.ownsRow (w.heap.size + 1 + 1) 3 1 v j (intVals (tlN s a n j)) ∧ Boxed w wr 27 (.int .i64 s) (.int .i64 (a + j)) 27 (.int .i64 0) (.int .i64 0)) (fun _ i _ => k - (intOf i).toNat)
  case atStart => exact ⟨0, Nat.zero_le _, rfl, hown1.out, by simpa using hx⟩
  case round =>
    obtain ⟨j, hj, rfl, hown, hxr⟩ := hrel
    by_cases hlt : j < k
    · have Hown := Lib.hid hown
      have hmore : more s (a + j) := ⟨⟨Hs.out.1, by omega, by omega⟩, by omega⟩
      have ep := Lib.hid (show tbI s (a + j) n = redI (keyedI s 7 (a + j)) n from if_pos ⟨Hn.out, hmore⟩)
      have eq := Lib.hid (show tbaI s (a + j) n = a + j + 1 from if_pos ⟨Hn.out, hmore⟩)
      clear hown hown1 hx hmore t0 t1
      obtain ⟨t0, t1, _, _⟩ := box2 hxr.arg
      go_wp2_with fail
      refine (spec_TapeBelow_is s (a + j) n _ _ ep.out eq.out wr).mono ?_
      rintro e w4 ⟨rfl, hb4⟩
      have hown4 := (own_below Hown.out hb4).alloc (.cells #[.int .i64 s, .int .i64 (a + j + 1)] 27)
      have hx4 := (hxr.next hb4).alloc (.cells #[.int .i64 s, .int .i64 (a + j + 1)] 27)
      have hn4 := heap_alloc_new w4 (.cells #[.int .i64 s, .int .i64 (a + j + 1)] 27)
      have hvals := tlN_vals s a n j
      generalize redI (keyedI s 7 (a + j)) n = z at hvals ⊢
      generalize hw5 : w4.alloc (.cells #[.int .i64 s, .int .i64 (a + j + 1)] 27) = w5 at *
      obtain ⟨a0, a1, a2, a3⟩ := box2 hx4.arg
      obtain ⟨n0, n1, _, _⟩ := box2 hn4
      have hx6 := hx4.setArg (.int .i64 s) (.int .i64 (a + j + 1))
      have hown6 := ownsRow_setCell_below (ownsRow_setCell_below hown4 (a := ⟨w.heap.size, 0, none⟩) (by simp; omega) (.int .i64 s)) (a := ⟨w.heap.size, 1, none⟩) (by simp; omega) (.int .i64 (a + j + 1))
      generalize hw6 : (w5.setCell ⟨w.heap.size, 0, none⟩ (.int .i64 s)).setCell ⟨w.heap.size, 1, none⟩ (.int .i64 (a + j + 1)) = w6 at hx6 hown6
      have hs6 := hx6.lt
      clear hb4 hxr Hown t0 t1 hn4 hx4 hown4
      go_wp2_with (first | (at_builtin; refine app_list (e' := 3) elemInt rfl _ _ rfl (w.heap.size + 1 + 1) _ j (intVals (tlN s a n j)) rfl (hown6.alloc _) w6.heap.size 1 1 _ (0, 0) rfl (heap_alloc_new w6 _) rfl (oneCell_i64 [_]) (by omega) (by unfold maxLen; omega) (by omega) (by simp; omega) (w6.heap.size + 1) (by simp) ?_))
      intro g2 cap w7 hown7 hgrow hat hgl2
      (try rw [hvals] at hown7)
      have hx7 := (hx6.alloc (.cells #[.int .i64 z] 3)).own (hown6.alloc _) hgrow (by omega)
      have Hown7 := Lib.hid hown7
      clear hvals hown7 hown6 hx6 hgrow hat hw5 hw6 a0 a1 a2 a3 n0 n1 hs6
      go_wp2_with fail
      go_roundw
      case rel => exact ⟨j + 1, by omega, by go_num, Hown7.out, (by have e : a + ((j + 1 : Nat) : Int) = a + j + 1 := (by omega); rw [e]; exact hx7)⟩
      case measure => simp [intOf]; omega
    · obtain rfl : j = k := by omega
      obtain ⟨A, m, c, rfl, rfl⟩ := ownsRow_slice hown
      have hz := hxr.lt
      have hown5 := Lib.hid (own_mono (ownsRow_setCell_below (ownsRow_setCell_below hown (a := ⟨w.heap.size + 1, 0, none⟩) (by simp) (.int .i64 s)) (a := ⟨w.heap.size + 1, 1, none⟩) (by simp) (.int .i64 (a + j))) (by omega : w.heap.size ≤ w.heap.size + 1 + 1))
      clear hown hown1 hx t0 t1
      obtain ⟨t0, t1, _, _⟩ := box2 hxr.arg
      obtain ⟨r0, r1, r2, r3⟩ := box2 hxr.res
      have hx5 := (hxr.set (.int .i64 s) (.int .i64 (a + j))).drew
      clear hxr
      go_wp2_with fail
      go_region
      go_wp2_with fail
      (try simp only [Exit.inBlock, Exit.then])
      refine bodyPost_ret (results_tmp_cell_row (P := Try.prog) rfl _ _ _ (w.heap.size + 1) 27 _ (0, 0) _ rfl rfl hx5.res Try.underlying27 rfl (by kernel_rfl)) rfl ?_
      exact ⟨_, _, _, rfl, tlN_length _ _ _ _, hown5.out, hx5.low⟩
theorem spec_TapeList_no (s a n k : Int) (h : ¬ listOk s a n k) (w : World) :
    Calls Try.prog 58 #[.agg #[.int .i64 s, .int .i64 a], .int .i64 n, .int .i64 k] w (Listed w s a []) := by
  have hx0 := (Boxed.start w 27 (.int .i64 s) (.int .i64 a) 27 (.int .i64 0) (.int .i64 0)).alloc (.cells #[] 3)
  have hown0 := World.ownsRow_made (e := 3) (size := 1) (base := w.heap.size + 1 + 1) ((w.alloc (.cells #[.int .i64 s, .int .i64 a] 27)).alloc (.cells #[.int .i64 0, .int .i64 0] 27)) #[] 0 (by simp) (by unfold maxLen; omega) rfl
  simp only [World.size_alloc] at hown0
  have fin : ∀ w1, Boxed w w1 27 (.int .i64 s) (.int .i64 a) 27 (.int .i64 0) (.int .i64 0) → w1.ownsRow (w.heap.size + 1 + 1) 3 1 (.slice (some ⟨w.heap.size + 1 + 1, 0, none⟩) 0 0) 0 [] →
      Listed w s a [] (.returned (.tuple #[.slice (some ⟨w.heap.size + 1 + 1, 0, none⟩) 0 0, .agg #[.int .i64 s, .int .i64 a]])) (((w1.setCell ⟨w.heap.size + 1, 0, none⟩ (.int .i64 s)).setCell ⟨w.heap.size + 1, 1, none⟩ (.int .i64 a)).drew) := fun w1 h1 h2 =>
    ⟨_, _, _, rfl, rfl, own_mono (ownsRow_setCell_below (ownsRow_setCell_below h2 (a := ⟨w.heap.size + 1, 0, none⟩) (by simp) (.int .i64 s)) (a := ⟨w.heap.size + 1, 1, none⟩) (by simp) (.int .i64 a)) (by omega : w.heap.size ≤ w.heap.size + 1 + 1), (h1.set _ _).drew.low⟩
  have hy := ((Boxed.start w 27 (.int .i64 s) (.int .i64 a) 27 (.int .i64 s) (.int .i64 a)).alloc (.cells #[] 3)).drew
  have hownz := World.ownsRow_made (e := 3) (size := 1) (base := w.heap.size) ((w.alloc (.cells #[.int .i64 s, .int .i64 a] 27)).alloc (.cells #[.int .i64 s, .int .i64 a] 27)) #[] 0 (by simp; omega) (by unfold maxLen; omega) rfl
  simp only [World.size_alloc] at hownz
  have fin2 : Listed w s a [] (.returned (.tuple #[.slice (some ⟨w.heap.size + 1 + 1, 0, none⟩) 0 0, .agg #[.int .i64 s, .int .i64 a]])) ((((w.alloc (.cells #[.int .i64 s, .int .i64 a] 27)).alloc (.cells #[.int .i64 s, .int .i64 a] 27)).alloc (.cells #[] 3)).drew) :=
    ⟨_, _, _, rfl, rfl, hownz, hy.low⟩
  have Fin2 := Lib.hid fin2
  have Fin := Lib.hid fin
  have Hown0 := Lib.hid hown0
  obtain ⟨t0, t1, _, _⟩ := box2 hx0.arg
  obtain ⟨r0, r1, r2, r3⟩ := box2 hx0.res
  clear fin hown0 fin2 hownz
  by_cases hk : 0 ≤ k ∧ k ≤ 1000
  · by_cases hn : isBound n
    · by_cases hs : isTape s a
      · have hak : 1000000 < a + k := by
          rcases Int.lt_or_le 1000000 (a + k) with e | e
          · exact e
          · exact absurd ⟨hs, hn, hk.1, hk.2, e⟩ h
        have hr := hs.range
        have hbk := decide_eq_true hk
        have hbn : decide (1 ≤ n ∧ n ≤ 65536) = true := decide_eq_true hn
        have hok := decide_eq_true hs
        obtain ⟨hk0, hk1⟩ := hk
        clear h hs hn
        go_enter Try.func58, Try.ntmps58
        go_wp2_with fail
        refine (l01In_is k 0 1000 true hbk _).mono ?_
        rintro e w1 ⟨rfl, rfl⟩
        go_wp2_with fail
        refine (l01In_is n 1 65536 true hbn _).mono ?_
        rintro e w1 ⟨rfl, rfl⟩
        go_wp2_with fail
        refine (spec_TapeOk s a _).mono ?_
        rintro e w1 ⟨rfl, hb1⟩
        rw [hok]
        have hx1 := hx0.next hb1
        have hown1 := Lib.hid (own_below Hown0.out hb1)
        clear hx0 Hown0 hy Fin2 t0 t1 r0 r1 r2 r3 hb1
        obtain ⟨t0, t1, _, _⟩ := box2 hx1.arg
        obtain ⟨r0, r1, r2, r3⟩ := box2 hx1.res
        have hx5 := (hx1.set (.int .i64 s) (.int .i64 a)).drew
        go_wp2_with fail
        go_region
        go_wp2_with fail
        (try simp only [Exit.inBlock, Exit.then])
        refine bodyPost_ret (results_tmp_cell_row (P := Try.prog) rfl _ _ _ (w.heap.size + 1) 27 _ (0, 0) _ rfl rfl hx5.res Try.underlying27 rfl (by kernel_rfl)) rfl ?_
        exact Fin.out _ hx1 hown1.out
      · have hbk := decide_eq_true hk
        have hbn : decide (1 ≤ n ∧ n ≤ 65536) = true := decide_eq_true hn
        have hok := decide_eq_false hs
        clear h hs hn hk
        go_enter Try.func58, Try.ntmps58
        go_wp2_with fail
        refine (l01In_is k 0 1000 true hbk _).mono ?_
        rintro e w1 ⟨rfl, rfl⟩
        go_wp2_with fail
        refine (l01In_is n 1 65536 true hbn _).mono ?_
        rintro e w1 ⟨rfl, rfl⟩
        go_wp2_with fail
        refine (spec_TapeOk s a _).mono ?_
        rintro e w1 ⟨rfl, hb1⟩
        rw [hok]
        have hx1 := hx0.next hb1
        have hown1 := Lib.hid (own_below Hown0.out hb1)
        clear hx0 Hown0 hy Fin2 t0 t1 r0 r1 r2 r3 hb1
        obtain ⟨t0, t1, _, _⟩ := box2 hx1.arg
        obtain ⟨r0, r1, r2, r3⟩ := box2 hx1.res
        have hx5 := (hx1.set (.int .i64 s) (.int .i64 a)).drew
        go_wp2_with fail
        go_region
        go_wp2_with fail
        (try simp only [Exit.inBlock, Exit.then])
        refine bodyPost_ret (results_tmp_cell_row (P := Try.prog) rfl _ _ _ (w.heap.size + 1) 27 _ (0, 0) _ rfl rfl hx5.res Try.underlying27 rfl (by kernel_rfl)) rfl ?_
        exact Fin.out _ hx1 hown1.out
    · have hbk := decide_eq_true hk
      have hbn : decide (1 ≤ n ∧ n ≤ 65536) = false := decide_eq_false hn
      clear h hn hk
      go_enter Try.func58, Try.ntmps58
      go_wp2_with fail
      refine (l01In_is k 0 1000 true hbk _).mono ?_
      rintro e w1 ⟨rfl, rfl⟩
      go_wp2_with fail
      refine (l01In_is n 1 65536 false hbn _).mono ?_
      rintro e w1 ⟨rfl, rfl⟩
      go_wp2_with fail
      go_region
      go_wp2_with fail
      (try simp only [Exit.inBlock, Exit.then])
      refine bodyPost_ret (results_tmp_cell_row (P := Try.prog) rfl _ _ _ (w.heap.size + 1) 27 _ (0, 0) _ rfl rfl hy.res Try.underlying27 rfl (by kernel_rfl)) rfl ?_
      exact Fin2.out
  · have hbk := decide_eq_false hk
    clear h hk
    go_enter Try.func58, Try.ntmps58
    go_wp2_with fail
    refine (l01In_is k 0 1000 false hbk _).mono ?_
    rintro e w1 ⟨rfl, rfl⟩
    go_wp2_with fail
    go_region
    go_wp2_with fail
    (try simp only [Exit.inBlock, Exit.then])
    refine bodyPost_ret (results_tmp_cell_row (P := Try.prog) rfl _ _ _ (w.heap.size + 1) 27 _ (0, 0) _ rfl rfl hy.res Try.underlying27 rfl (by kernel_rfl)) rfl ?_
    exact Fin2.out
theorem spec_TapeList (s a n k : Int) (w : World) :
    Calls Try.prog 58 #[.agg #[.int .i64 s, .int .i64 a], .int .i64 n, .int .i64 k] w (Listed w s (tlaI s a n k) (tlI s a n k)) := by
  by_cases h : listOk s a n k
  · have e1 : tlI s a n k = tlN s a n k.toNat := if_pos h
    have e2 : tlaI s a n k = a + k := if_pos h
    rw [e1, e2]
    obtain ⟨hs, hn, hk0, hk1, hak⟩ := h
    obtain ⟨m, rfl⟩ := Int.eq_ofNat_of_zero_le hk0
    exact spec_TapeList_yes s a n m hs hn (by omega) hak w
  · have e1 : tlI s a n k = [] := if_neg h
    have e2 : tlaI s a n k = a := if_neg h
    rw [e1, e2]
    exact spec_TapeList_no s a n k h w
end Go.Proofs.Ytcjgoonkdjaccaa

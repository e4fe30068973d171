/- TapeList: the results. -/
import Derived.Test.YtcjgoonkdjaccaaProg
import Derived.Test.YtcjgoonkdjaccaaTape
import Derived.Test.YtcjgoonkdjaccaaInts
namespace Go.Proofs.Ytcjgoonkdjaccaa
open Go Go.RowKit
/-- A list of numbers in new memory, and the tape behind them. -/
def Listed (w : World) (s b : Int) (zs : List Int) (e : Ending) (w' : World) : Prop :=
  ∃ (A : Option Addr) (m c : Nat), e = .returned (.tuple #[.slice A m c, .agg #[.int .i64 s, .int .i64 b]]) ∧ zs.length = m ∧ w'.ownsRow w.heap.size 3 1 (.slice A m c) m (intVals zs) ∧ Below w.heap.size w w'
theorem Listed.nil_ {w w' : World} {s b : Int} (hb : Below w.heap.size w w') : Listed w s b [] (.returned (.tuple #[.slice none 0 0, .agg #[.int .i64 s, .int .i64 b]])) w' :=
  ⟨none, 0, 0, rfl, rfl, ⟨rfl, .inl ⟨rfl, rfl⟩⟩, hb⟩
theorem Reader.own {w1 w2 : World} {gt ga : Nat} {s a0 a : Int} (h : Reader w1 gt ga s a0 a) {base n size : Nat} {e : TypeId} {z : Value} {xs : List Value} (hown : w1.ownsRow base e size z n xs) (hg : w1.grownBy w2 z.ownBlock) (h1 : gt < base) (h2 : ga < base) : Reader w2 gt ga s a0 a :=
  ⟨(keep_own hown hg h1 (Array.getElem?_eq_some_iff.1 h.tape).1).trans h.tape, (keep_own hown hg h2 (Array.getElem?_eq_some_iff.1 h.pos).1).trans h.pos⟩
theorem Reader.lt {w : World} {gt ga : Nat} {s a0 a : Int} (h : Reader w gt ga s a0 a) : gt < w.heap.size ∧ ga < w.heap.size := ⟨(Array.getElem?_eq_some_iff.1 h.tape).1, (Array.getElem?_eq_some_iff.1 h.pos).1⟩
theorem tlN_vals (s a n : Int) (j : Nat) : intVals (tlN s a n j) ++ (#[Value.int .i64 (redI (keyedI s 7 (a + (j : Int))) n)] : Array Value).toList = intVals (tlN s a n (j + 1)) := by
  rw [tlN_next]; simp [intVals]
theorem impl_TapeList_yes (s a n : Int) (k : Nat) (hs : isTape s a) (hn : isBound n) (hk : k ≤ 1000) (hak : a + k ≤ 1000000) (w : World) :
    Calls Try.prog 37 #[.agg #[.int .i64 s, .int .i64 a], .int .i64 n, .int .i64 k] w (Listed w s (a + k) (tlN s a n k)) := by
  have hcan : decide (isTape s a ∧ a + (k : Int) ≤ 1000000) = true := decide_eq_true ⟨hs, hak⟩
  have hbn : decide (isBound n) = true := decide_eq_true hn
  obtain ⟨h0, h1⟩ := hs.range
  have Hn := Lib.hid hn
  clear hs hn
  go_enter Try.func37, Try.ntmps37
  go_wp2_with fail
  refine (impl_belowOk n _).mono ?_
  rintro e w1 ⟨rfl, rfl⟩
  rw [hbn]
  go_wp2_with fail
  refine (impl_canRead s a k _).mono ?_
  rintro e w1 ⟨rfl, hb1⟩
  rw [hcan]
  have hx := (Boxed.start w 27 (.int .i64 s) (.int .i64 a) 27 (.int .i64 0) (.int .i64 0)).next hb1
  clear hb1
  obtain ⟨t0, t1, _, _⟩ := box2 hx.arg
  go_wp2_with fail
  refine (impl_readTape s a w1).mono ?_
  rintro e w2 ⟨gt, ga, rfl, hr, hgt, hga, hb2⟩
  have hx2 := hx.next hb2
  have hl := hx.lt
  have hl2 := hx2.lt
  obtain ⟨hg1, hg2⟩ := hr.lt
  clear hx hb2 t0 t1
  go_wp2_with (first | (refine make_list elemInt rfl _ _ rfl w2.heap.size _ _ k k rfl rfl rfl (by omega) (by unfold maxLen; omega) (Nat.le_refl _) ?_))
  intro w3 hown3 hg3
  have hb3 : Below w2.heap.size w2 w3 := (Below.refl _ _).grown hg3 (Nat.le_refl _) (fun k h => by cases h)
  have hr3 := hr.below hb3
  have hs3 := hb3.size
  have hx3 := hx2.next hb3
  have Hown3 := Lib.hid hown3
  clear hown3 hg3 hb3 hr hx2
  go_wp2_with fail
  go_loopw [10, 37] (fun v i wr => ∃ j : Nat, j ≤ k ∧ i = .int .i64 j ∧ wr.ownsRow w2.heap.size 3 1 v j (intVals (tlN s a n j)) ∧ Reader wr gt ga s a (a + j) ∧ Boxed w wr 27 (.int .i64 s) (.int .i64 a) 27 (.int .i64 0) (.int .i64 0) ∧ w2.heap.size ≤ wr.heap.size) (fun _ i _ => k - (intOf i).toNat)
  case atStart => exact ⟨0, Nat.zero_le _, rfl, Hown3.out, by simpa using hr3, hx3, hs3⟩
  case round =>
    obtain ⟨j, hj, rfl, hown, hrr, hxr, hsr⟩ := hrel
    by_cases hlt : j < k
    · have Hown := Lib.hid hown
      clear hown Hown3 hr3 hx3
      go_wp2_with fail
      refine (impl_next s a (a + j) gt ga wr hrr (by omega) (by omega)).mono ?_
      rintro e w4 ⟨rfl, rfl⟩
      have hr4 := hrr.set (a + j + 1)
      have hx4 := hxr.other (g := ga) (by omega) 0 (.int .i64 (a + j + 1))
      have hown4 := own_cur Hown.out (grownBy_set wr ga 0 (.int .i64 (a + j + 1))) hg2
      clear hrr hxr
      go_wp2_with fail
      refine (impl_below (keyedI s 7 (a + j)) n (keyedI_word _ _ _) Hn.out _).mono ?_
      rintro e w4 ⟨rfl, rfl⟩
      have hs4 : w2.heap.size ≤ (wr.setCell ⟨ga, 0, none⟩ (.int .i64 (a + j + 1))).heap.size := by simpa using hsr
      generalize hw4 : wr.setCell ⟨ga, 0, none⟩ (.int .i64 (a + j + 1)) = w4 at *
      clear hw4 hsr
      have hvals := tlN_vals s a n j
      generalize redI (keyedI s 7 (a + j)) n = z at hvals ⊢
      go_wp2_with (first | (at_builtin; refine app_list (e' := 3) elemInt rfl _ _ rfl w2.heap.size _ j (intVals (tlN s a n j)) rfl (hown4.alloc _) w4.heap.size 1 1 _ (0, 0) rfl (heap_alloc_new w4 _) rfl (oneCell_i64 [_]) (by omega) (by unfold maxLen; omega) (by omega) (by simp; omega) (w4.heap.size + 1) (by simp) ?_))
      intro g2 cap w5 hown5 hgrow hat hgl2
      (try rw [hvals] at hown5)
      have hal := (Below.refl w4.heap.size w4).alloc (Nat.le_refl _) (.cells #[.int .i64 z] 3)
      have hr5 := (hr4.below hal).own (hown4.alloc _) hgrow hg1 hg2
      have hx5 := (hx4.alloc (.cells #[.int .i64 z] 3)).own (hown4.alloc _) hgrow hl2
      have hs5 : w2.heap.size ≤ w5.heap.size := by have := hgrow.size; simp at this; omega
      have Hown5 := Lib.hid hown5
      clear hvals hown5 hown4 hr4 hx4 hs4 hgrow hal hat Hown
      go_wp2_with fail
      go_roundw
      case rel => exact ⟨j + 1, by omega, by go_num, Hown5.out, (by have e : a + ((j + 1 : Nat) : Int) = a + j + 1 := (by omega); rw [e]; exact hr5), hx5, hs5⟩
      case measure => simp [intOf]; omega
    · obtain rfl : j = k := by omega
      obtain ⟨A, m, c, rfl, rfl⟩ := ownsRow_slice hown
      have Hown := Lib.hid hown
      clear hown Hown3 hr3 hx3
      go_wp2_with fail
      refine (impl_after s a (a + j) gt ga wr hrr).mono ?_
      rintro e w4 ⟨rfl, hb4⟩
      have hx4 := hxr.next hb4
      obtain ⟨r0, r1, r2, r3⟩ := box2 hx4.res
      have hx5 := hx4.set (.int .i64 s) (.int .i64 (a + j))
      have hown4 := Lib.hid (own_below Hown.out hb4)
      have hown5 := Lib.hid (own_mono (ownsRow_setCell_below (ownsRow_setCell_below hown4.out (a := ⟨w.heap.size + 1, 0, none⟩) hl2 (.int .i64 s)) (a := ⟨w.heap.size + 1, 1, none⟩) hl2 (.int .i64 (a + j))) (by omega : w.heap.size ≤ w2.heap.size))
      clear Hown hb4 hrr hxr hown4
      go_wp2_with fail
      (try simp only [Exit.inBlock, Exit.then])
      refine bodyPost_ret (results_tmp_cell_row (P := Try.prog) rfl _ _ _ (w.heap.size + 1) 27 _ (0, 0) _ rfl rfl hx5.res Try.underlying27 rfl (by kernel_rfl)) rfl ?_
      exact ⟨_, _, _, rfl, tlN_length _ _ _ _, hown5.out, hx5.low⟩
theorem impl_TapeList_no (s a n k : Int) (h : ¬ listOk s a n k) (w : World) :
    Calls Try.prog 37 #[.agg #[.int .i64 s, .int .i64 a], .int .i64 n, .int .i64 k] w (Listed w s a []) := by
  have hx5 := (Boxed.start w 27 (.int .i64 s) (.int .i64 a) 27 (.int .i64 s) (.int .i64 a)).drew
  by_cases h0 : k < 0
  · clear h
    go_enter Try.func37, Try.ntmps37
    go_wp2_with fail
    go_region
    go_wp2_with fail
    (try simp only [Exit.inBlock, Exit.then])
    refine bodyPost_ret (results_tmp_cell_row (P := Try.prog) rfl _ _ _ (w.heap.size + 1) 27 _ (0, 0) _ rfl rfl hx5.res Try.underlying27 rfl (by kernel_rfl)) rfl ?_
    exact Listed.nil_ hx5.low
  · by_cases h1 : 1000 < k
    · clear h
      go_enter Try.func37, Try.ntmps37
      go_wp2_with fail
      go_region
      go_wp2_with fail
      (try simp only [Exit.inBlock, Exit.then])
      refine bodyPost_ret (results_tmp_cell_row (P := Try.prog) rfl _ _ _ (w.heap.size + 1) 27 _ (0, 0) _ rfl rfl hx5.res Try.underlying27 rfl (by kernel_rfl)) rfl ?_
      exact Listed.nil_ hx5.low
    · by_cases hn : isBound n
      · have hbn := decide_eq_true hn
        have hcan : decide (isTape s a ∧ a + k ≤ 1000000) = false := decide_eq_false (fun e => h ⟨e.1, hn, by omega, by omega, e.2⟩)
        clear h hn hx5
        go_enter Try.func37, Try.ntmps37
        go_wp2_with fail
        refine (impl_belowOk n _).mono ?_
        rintro e w1 ⟨rfl, rfl⟩
        rw [hbn]
        go_wp2_with fail
        refine (impl_canRead s a k _).mono ?_
        rintro e w1 ⟨rfl, hb1⟩
        rw [hcan]
        have hx := (Boxed.start w 27 (.int .i64 s) (.int .i64 a) 27 (.int .i64 0) (.int .i64 0)).next hb1
        clear hb1
        obtain ⟨t0, t1, _, _⟩ := box2 hx.arg
        obtain ⟨r0, r1, r2, r3⟩ := box2 hx.res
        have hx5 := (hx.set (.int .i64 s) (.int .i64 a)).drew
        go_wp2_with fail
        go_region
        go_wp2_with fail
        (try simp only [Exit.inBlock, Exit.then])
        refine bodyPost_ret (results_tmp_cell_row (P := Try.prog) rfl _ _ _ (w.heap.size + 1) 27 _ (0, 0) _ rfl rfl hx5.res Try.underlying27 rfl (by kernel_rfl)) rfl ?_
        exact Listed.nil_ hx5.low
      · have hbn := decide_eq_false hn
        clear h hn
        go_enter Try.func37, Try.ntmps37
        go_wp2_with fail
        refine (impl_belowOk n _).mono ?_
        rintro e w1 ⟨rfl, rfl⟩
        rw [hbn]
        go_wp2_with fail
        go_region
        go_wp2_with fail
        (try simp only [Exit.inBlock, Exit.then])
        refine bodyPost_ret (results_tmp_cell_row (P := Try.prog) rfl _ _ _ (w.heap.size + 1) 27 _ (0, 0) _ rfl rfl hx5.res Try.underlying27 rfl (by kernel_rfl)) rfl ?_
        exact Listed.nil_ hx5.low
theorem impl_TapeList (s a n k : Int) (w : World) :
    Calls Try.prog 37 #[.agg #[.int .i64 s, .int .i64 a], .int .i64 n, .int .i64 k] w (Listed w s (tlaI s a n k) (tlI s a n k)) := by
  by_cases h : listOk s a n k
  · have e1 : tlI s a n k = tlN s a n k.toNat := if_pos h
    have e2 : tlaI s a n k = a + k := if_pos h
    rw [e1, e2]
    obtain ⟨hs, hn, hk0, hk1, hak⟩ := h
    obtain ⟨m, rfl⟩ := Int.eq_ofNat_of_zero_le hk0
    exact impl_TapeList_yes s a n m hs hn (by omega) hak w
  · have e1 : tlI s a n k = [] := if_neg h
    have e2 : tlaI s a n k = a := if_neg h
    rw [e1, e2]
    exact impl_TapeList_no s a n k h w
end Go.Proofs.Ytcjgoonkdjaccaa

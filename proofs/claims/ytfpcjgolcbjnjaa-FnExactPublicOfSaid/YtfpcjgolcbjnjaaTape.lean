/- TapeOk, TapeWord, TapeBelow, TapeFork: the results; the reader that the closures share. -/
import Derived.Test.YtfpcjgolcbjnjaaProg
import Derived.Test.YtfpcjgolcbjnjaaWords
import Derived.Test.YtfpcjgolcbjnjaaTapeM
import Derived.Test.YtfpcjgolcbjnjaaBox
import Derived.BigRegion
namespace Go.Proofs.Ytfpcjgolcbjnjaa
open Go Go.RowKit
theorem impl_TapeOk (s a : Int) (w : World) :
    Calls Try.prog 56 #[.agg #[.int .i64 s, .int .i64 a]] w fun e w' => e = .returned (.bool (decide (isTape s a))) ∧ Below w.heap.size w w' := by
  go_enter Try.func56, Try.ntmps56
  go_wp2_with fail
  refine (impl_IsWord s _).mono ?_
  rintro e w1 ⟨rfl, rfl⟩
  by_cases hs : isWord s
  · rw [decide_eq_true hs]
    go_wp2
    all_goals go_ret
    all_goals exact ⟨ret_bool (by simp [isTape, hs]; omega), (Below.refl _ _).alloc (Nat.le_refl _) _⟩
  · rw [decide_eq_false hs]
    go_wp2_with fail
    go_ret
    exact ⟨ret_bool (by simp [isTape, hs]), (Below.refl _ _).alloc (Nat.le_refl _) _⟩
theorem impl_canRead (s a k : Int) (w : World) :
    Calls Try.prog 95 #[.agg #[.int .i64 s, .int .i64 a], .int .i64 k] w fun e w' => e = .returned (.bool (decide (isTape s a ∧ a + k ≤ 1000000))) ∧ Below w.heap.size w w' := by
  go_enter Try.func95, Try.ntmps95
  go_wp2_with fail
  refine (impl_TapeOk s a _).mono ?_
  rintro e w1 ⟨rfl, hb1⟩
  have hc := box2_below (heap_alloc_new w _) hb1
  have hb2 := ((Below.refl w.heap.size w).alloc (Nat.le_refl _) _).trans (hb1.mono (by simp))
  obtain ⟨c0, c1, _, _⟩ := box2 hc
  by_cases hs : isTape s a
  · obtain ⟨h0, h1⟩ := hs.range
    rw [decide_eq_true hs]
    go_wp2
    all_goals go_ret
    all_goals exact ⟨ret_bool (by simp [hs]; omega), hb2⟩
  · rw [decide_eq_false hs]
    go_wp2_with fail
    go_ret
    exact ⟨ret_bool (by simp [hs]), hb2⟩
theorem impl_belowOk (n : Int) (w : World) :
    Calls Try.prog 94 #[.int .i64 n] w fun e w' => e = .returned (.bool (decide (isBound n))) ∧ w = w' := by
  go_enter Try.func94, Try.ntmps94
  go_wp2
  all_goals go_ret
  all_goals exact ⟨ret_bool (by symm; first | (exact decide_eq_decide.2 (by unfold isBound; omega)) | (apply decide_eq_true; unfold isBound; omega) | (apply decide_eq_false; unfold isBound; omega)), rfl⟩
theorem impl_below (x n : Int) (hx : isWord x) (hn : isBound n) (w : World) :
    Calls Try.prog 97 #[.int .i64 x, .int .i64 n] w fun e w' => e = .returned (.int .i64 (redI x n)) ∧ w = w' := by
  obtain ⟨x0, x1⟩ := hx
  obtain ⟨n0, n1⟩ := hn
  go_enter Try.func97, Try.ntmps97
  go_wp2_with fail
  go_ret
  exact ⟨ret_int (by simp [redI]), rfl⟩
/-- A tape of which words are read: the struct in block gt, its position in block ga. -/
structure Reader (w : World) (gt ga : Nat) (s a0 a : Int) : Prop where
  tape : w.heap[gt]? = some (.cells #[.int .i64 s, .int .i64 a0] 29 (0, 0))
  pos : w.heap[ga]? = some (.cells #[.int .i64 a] 3 (0, 0))
theorem Reader.ne {w : World} {gt ga : Nat} {s a0 a : Int} (h : Reader w gt ga s a0 a) : gt ≠ ga := by
  rintro rfl
  have := h.tape.symm.trans h.pos
  simp at this
theorem Reader.below {w w' : World} {gt ga : Nat} {s a0 a : Int} (h : Reader w gt ga s a0 a) (hb : Below w.heap.size w w') : Reader w' gt ga s a0 a :=
  ⟨box2_below h.tape hb, (hb.block _ (Array.getElem?_eq_some_iff.1 h.pos).1).trans h.pos⟩
theorem Reader.set {w : World} {gt ga : Nat} {s a0 a : Int} (h : Reader w gt ga s a0 a) (b : Int) : Reader (w.setCell ⟨ga, 0, none⟩ (.int .i64 b)) gt ga s a0 b :=
  ⟨by rw [Below.heap_setCell _ _ _ _ h.ne]; exact h.tape, one_setCell h.pos⟩
abbrev nextV (gt ga : Nat) : Value := .func (.func 111) #[] #[.pointer (some ⟨gt, 0, none⟩), .pointer (some ⟨ga, 0, none⟩)]
abbrev afterV (gt ga : Nat) : Value := .func (.func 112) #[] #[.pointer (some ⟨gt, 0, none⟩), .pointer (some ⟨ga, 0, none⟩)]
theorem impl_readTape (s a : Int) (w : World) :
    Calls Try.prog 96 #[.agg #[.int .i64 s, .int .i64 a]] w fun e w' => ∃ gt ga, e = .returned (.tuple #[nextV gt ga, afterV gt ga]) ∧ Reader w' gt ga s a a ∧ w.heap.size ≤ gt ∧ w.heap.size ≤ ga ∧ Below w.heap.size w w' := by
  go_enter Try.func96, Try.ntmps96
  go_wp2_with fail
  go_returns
  refine ⟨_, _, rfl, ⟨?_, ?_⟩, Nat.le_refl _, Nat.le_succ _, ((Below.refl _ _).alloc (Nat.le_refl _) _).alloc (by simp) _⟩
  · rw [Below.heap_alloc _ _ _ (by simp)]
    exact heap_alloc_new w _
  · have h := heap_alloc_new (w.alloc (.cells #[.int .i64 s, .int .i64 a] 29)) (.cells #[.int .i64 a] 3)
    simpa using h
theorem impl_next (s a0 a : Int) (gt ga : Nat) (w : World) (h : Reader w gt ga s a0 a) (h0 : 0 ≤ a) (h1 : a < 1000000) :
    Calls Try.prog 111 #[.pointer (some ⟨gt, 0, none⟩), .pointer (some ⟨ga, 0, none⟩)] w fun e w' => e = .returned (.int .i64 (keyedI s 7 a)) ∧ w' = w.setCell ⟨ga, 0, none⟩ (.int .i64 (a + 1)) := by
  obtain ⟨t0, t1, _, _⟩ := box2 h.tape
  have p0 := cell_of_one h.pos
  have p1 := free_of_one h.pos
  go_enter Try.func111, Try.ntmps111
  go_wp2_with fail
  refine (impl_Keyed s 7 a w).mono ?_
  rintro e w1 ⟨rfl, rfl⟩
  go_wp2_with fail
  go_ret
  exact ⟨rfl, rfl⟩
theorem impl_after (s a0 a : Int) (gt ga : Nat) (w : World) (h : Reader w gt ga s a0 a) :
    Calls Try.prog 112 #[.pointer (some ⟨gt, 0, none⟩), .pointer (some ⟨ga, 0, none⟩)] w fun e w' => e = .returned (.agg #[.int .i64 s, .int .i64 a]) ∧ Below w.heap.size w w' := by
  have h' := h.below ((Below.refl _ _).alloc (Nat.le_refl _) (.cells #[.int .i64 0, .int .i64 0] 29))
  obtain ⟨t0, t1, _, _⟩ := box2 h'.tape
  have p0 := cell_of_one h'.pos
  go_enter Try.func112, Try.ntmps112
  go_wp2_with fail
  go_returns
  exact ⟨rfl, (Below.refl _ _).alloc (Nat.le_refl _) _⟩
theorem impl_TapeBelow (s a n : Int) (w : World) :
    Calls Try.prog 58 #[.agg #[.int .i64 s, .int .i64 a], .int .i64 n] w fun e w' => e = .returned (.tuple #[.int .i64 (tbI s a n), .agg #[.int .i64 s, .int .i64 (tbaI s a n)]]) ∧ Below w.heap.size w w' := by
  by_cases hn : isBound n
  · by_cases h : more s a
    · have e1 : tbI s a n = redI (keyedI s 7 a) n := if_pos ⟨hn, h⟩
      have e2 : tbaI s a n = a + 1 := if_pos ⟨hn, h⟩
      rw [e1, e2]
      obtain ⟨hs, ha⟩ := h
      obtain ⟨h0, h1⟩ := hs.range
      have hcan : decide (isTape s a ∧ a + 1 ≤ 1000000) = true := decide_eq_true ⟨hs, by omega⟩
      have hbn : decide (isBound n) = true := decide_eq_true hn
      have Hn := Lib.hid hn
      clear hs e1 e2 hn
      go_enter Try.func58, Try.ntmps58
      go_wp2_with fail
      refine (impl_belowOk n _).mono ?_
      rintro e w1 ⟨rfl, rfl⟩
      rw [hbn]
      go_wp2_with fail
      refine (impl_canRead s a 1 _).mono ?_
      rintro e w1 ⟨rfl, hb1⟩
      rw [hcan]
      have hx := (Boxed.start w 29 (.int .i64 s) (.int .i64 a) 29 (.int .i64 0) (.int .i64 0)).next hb1
      clear hb1
      obtain ⟨t0, t1, _, _⟩ := box2 hx.arg
      go_wp2_with fail
      refine (impl_readTape s a w1).mono ?_
      rintro e w2 ⟨gt, ga, rfl, hr, hgt, hga, hb2⟩
      have hx2 := hx.next hb2
      have hl := hx.lt
      clear hx hb2 t0 t1
      go_wp2_with fail
      refine (impl_next s a a gt ga w2 hr h0 ha).mono ?_
      rintro e w3 ⟨rfl, rfl⟩
      have hr3 := hr.set (a + 1)
      have hx3 := hx2.other (g := ga) (by omega) 0 (.int .i64 (a + 1))
      clear hx2 hr hl
      go_wp2_with fail
      refine (impl_below (keyedI s 7 a) n (keyedI_word _ _ _) Hn.out _).mono ?_
      rintro e w3 ⟨rfl, rfl⟩
      go_wp2_with fail
      refine (impl_after s a (a + 1) gt ga _ hr3).mono ?_
      rintro e w4 ⟨rfl, hb4⟩
      have hx4 := hx3.next hb4
      clear hx3 hr3 hb4
      obtain ⟨r0, r1, r2, r3⟩ := box2 hx4.res
      have hx5 := hx4.set (.int .i64 s) (.int .i64 (a + 1))
      go_wp2_with fail
      (try simp only [Exit.inBlock, Exit.then])
      refine bodyPost_ret (results_tmp_cell_row (P := Try.prog) rfl _ _ _ (w.heap.size + 1) 29 _ (0, 0) _ rfl rfl hx5.res Try.underlying29 rfl (by kernel_rfl)) rfl ?_
      exact ⟨rfl, hx5.low⟩
    · have e1 : tbI s a n = 0 := if_neg (fun k => h k.2)
      have e2 : tbaI s a n = a := if_neg (fun k => h k.2)
      rw [e1, e2]
      have hcan : decide (isTape s a ∧ a + 1 ≤ 1000000) = false := decide_eq_false (fun k => h ⟨k.1, by omega⟩)
      have hbn : decide (isBound n) = true := decide_eq_true hn
      clear e1 e2 h hn
      go_enter Try.func58, Try.ntmps58
      go_wp2_with fail
      refine (impl_belowOk n _).mono ?_
      rintro e w1 ⟨rfl, rfl⟩
      rw [hbn]
      go_wp2_with fail
      refine (impl_canRead s a 1 _).mono ?_
      rintro e w1 ⟨rfl, hb1⟩
      rw [hcan]
      have hx := (Boxed.start w 29 (.int .i64 s) (.int .i64 a) 29 (.int .i64 0) (.int .i64 0)).next hb1
      clear hb1
      obtain ⟨t0, t1, _, _⟩ := box2 hx.arg
      obtain ⟨r0, r1, r2, r3⟩ := box2 hx.res
      have hx5 := (hx.set (.int .i64 s) (.int .i64 a)).drew
      go_wp2_with fail
      go_region
      go_wp2_with fail
      (try simp only [Exit.inBlock, Exit.then])
      refine bodyPost_ret (results_tmp_cell_row (P := Try.prog) rfl _ _ _ (w.heap.size + 1) 29 _ (0, 0) _ rfl rfl hx5.res Try.underlying29 rfl (by kernel_rfl)) rfl ?_
      exact ⟨rfl, hx5.low⟩
  · have e1 : tbI s a n = 0 := if_neg (fun k => hn k.1)
    have e2 : tbaI s a n = a := if_neg (fun k => hn k.1)
    rw [e1, e2]
    have hbn : decide (isBound n) = false := decide_eq_false hn
    have hx := Boxed.start w 29 (.int .i64 s) (.int .i64 a) 29 (.int .i64 0) (.int .i64 0)
    obtain ⟨t0, t1, _, _⟩ := box2 hx.arg
    obtain ⟨r0, r1, r2, r3⟩ := box2 hx.res
    have hx5 := (Boxed.start w 29 (.int .i64 s) (.int .i64 a) 29 (.int .i64 s) (.int .i64 a)).drew
    clear e1 e2 hn
    go_enter Try.func58, Try.ntmps58
    go_wp2_with fail
    refine (impl_belowOk n _).mono ?_
    rintro e w1 ⟨rfl, rfl⟩
    rw [hbn]
    go_wp2_with fail
    go_region
    go_wp2_with fail
    (try simp only [Exit.inBlock, Exit.then])
    refine bodyPost_ret (results_tmp_cell_row (P := Try.prog) rfl _ _ _ (w.heap.size + 1) 29 _ (0, 0) _ rfl rfl hx5.res Try.underlying29 rfl (by kernel_rfl)) rfl ?_
    exact ⟨rfl, hx5.low⟩
theorem impl_TapeFork (s a n : Int) (w : World) :
    Calls Try.prog 59 #[.agg #[.int .i64 s, .int .i64 a], .int .i64 n] w fun e w' => e = .returned (.agg #[.int .i64 (tfI s a n), .int .i64 0]) ∧ Below w.heap.size w w' := by
  by_cases h : forkOk s a n
  · have e1 : tfI s a n = keyedI s 9 n := if_pos h
    rw [e1]
    obtain ⟨hs, n0, n1⟩ := h
    have hok := decide_eq_true hs
    clear e1 hs
    go_enter Try.func59, Try.ntmps59
    go_wp2_with fail
    refine (impl_TapeOk s a _).mono ?_
    rintro e w1 ⟨rfl, hb1⟩
    rw [hok]
    have hx := (Boxed.start w 29 (.int .i64 s) (.int .i64 a) 29 (.int .i64 0) (.int .i64 0)).next hb1
    clear hb1
    obtain ⟨t0, t1, _, _⟩ := box2 hx.arg
    obtain ⟨r0, r1, r2, r3⟩ := box2 hx.res
    have hx5 := hx.set (.int .i64 (keyedI s 9 n)) (.int .i64 0)
    go_wp2_with fail
    refine (impl_Keyed s 9 n w1).mono ?_
    rintro e w2 ⟨rfl, rfl⟩
    go_wp2_with fail
    (try simp only [Exit.inBlock, Exit.then])
    refine bodyPost_ret (results_cell_row (P := Try.prog) rfl _ _ (w.heap.size + 1) 29 _ (0, 0) _ rfl hx5.res Try.underlying29 rfl (by kernel_rfl)) rfl ?_
    exact ⟨rfl, hx5.low⟩
  · have e1 : tfI s a n = 0 := if_neg h
    rw [e1]
    clear e1
    go_enter Try.func59, Try.ntmps59
    go_wp2_with fail
    refine (impl_TapeOk s a _).mono ?_
    rintro e w1 ⟨rfl, hb1⟩
    have hx := (Boxed.start w 29 (.int .i64 s) (.int .i64 a) 29 (.int .i64 0) (.int .i64 0)).next hb1
    clear hb1
    obtain ⟨t0, t1, _, _⟩ := box2 hx.arg
    obtain ⟨r0, r1, r2, r3⟩ := box2 hx.res
    have hx5 := hx.set (.int .i64 0) (.int .i64 0)
    by_cases hs : isTape s a
    · have hn : ¬ (0 ≤ n ∧ n ≤ 1000000) := fun k => h ⟨hs, k⟩
      rw [decide_eq_true hs]
      clear h hs
      by_cases h0 : n < 0
      · go_wp2_with fail
        (try simp only [Exit.inBlock, Exit.then])
        refine bodyPost_ret (results_cell_row (P := Try.prog) rfl _ _ (w.heap.size + 1) 29 _ (0, 0) _ rfl hx5.res Try.underlying29 rfl (by kernel_rfl)) rfl ?_
        exact ⟨rfl, hx5.low⟩
      · have h1 : 1000000 < n := by omega
        go_wp2_with fail
        (try simp only [Exit.inBlock, Exit.then])
        refine bodyPost_ret (results_cell_row (P := Try.prog) rfl _ _ (w.heap.size + 1) 29 _ (0, 0) _ rfl hx5.res Try.underlying29 rfl (by kernel_rfl)) rfl ?_
        exact ⟨rfl, hx5.low⟩
    · rw [decide_eq_false hs]
      go_wp2_with fail
      (try simp only [Exit.inBlock, Exit.then])
      refine bodyPost_ret (results_cell_row (P := Try.prog) rfl _ _ (w.heap.size + 1) 29 _ (0, 0) _ rfl hx5.res Try.underlying29 rfl (by kernel_rfl)) rfl ?_
      exact ⟨rfl, hx5.low⟩
end Go.Proofs.Ytfpcjgolcbjnjaa

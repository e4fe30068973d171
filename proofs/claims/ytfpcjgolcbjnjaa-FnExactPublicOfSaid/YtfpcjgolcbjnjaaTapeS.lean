/- The models of TapeOk, TapeWord, TapeBelow, TapeFork: the same results. -/
import Derived.Test.YtfpcjgolcbjnjaaProg
import Derived.Test.YtfpcjgolcbjnjaaTape
namespace Go.Proofs.Ytfpcjgolcbjnjaa
open Go Go.RowKit
theorem spec_TapeOk (s a : Int) (w : World) :
    Calls Try.prog 62 #[.agg #[.int .i64 s, .int .i64 a]] w fun e w' => e = .returned (.bool (decide (isTape s a))) ∧ Below w.heap.size w w' := by
  go_enter Try.func62, Try.ntmps62
  go_wp2_with fail
  refine (spec_IsWord s _).mono ?_
  rintro e w1 ⟨rfl, rfl⟩
  by_cases hs : isWord s
  · rw [decide_eq_true hs]
    go_wp2_with fail
    refine (l01In_is a 0 1000000 (decide (isTape s a)) (decide_eq_decide.2 (by simp [isTape, hs])) _).mono ?_
    rintro e w1 ⟨rfl, rfl⟩
    go_wp2_with fail
    go_ret
    exact ⟨rfl, (Below.refl _ _).alloc (Nat.le_refl _) _⟩
  · rw [decide_eq_false hs]
    go_wp2_with fail
    go_ret
    exact ⟨ret_bool (by simp [isTape, hs]), (Below.refl _ _).alloc (Nat.le_refl _) _⟩
theorem spec_TapeWord (s a : Int) (w : World) :
    Calls Try.prog 100 #[.agg #[.int .i64 s, .int .i64 a]] w fun e w' => e = .returned (.tuple #[.int .i64 (twI s a), .agg #[.int .i64 s, .int .i64 (taI s a)]]) ∧ Below w.heap.size w w' := by
  by_cases h : more s a
  · have e1 : twI s a = keyedI s 7 a := if_pos h
    have e2 : taI s a = a + 1 := if_pos h
    rw [e1, e2]
    obtain ⟨hs, ha⟩ := h
    obtain ⟨h0, h1⟩ := hs.range
    have hok := decide_eq_true hs
    have hne : (a == 1000000) = false := beq_eq_false_iff_ne.2 (by omega)
    clear hs e1 e2
    go_enter Try.func100, Try.ntmps100
    go_wp2_with fail
    refine (spec_TapeOk s a _).mono ?_
    rintro e w1 ⟨rfl, hb1⟩
    rw [hok]
    have hx := (Boxed.start w 29 (.int .i64 s) (.int .i64 a) 29 (.int .i64 0) (.int .i64 0)).next hb1
    clear hb1
    obtain ⟨t0, t1, _, _⟩ := box2 hx.arg
    obtain ⟨r0, r1, r2, r3⟩ := box2 hx.res
    have hxd := hx.drew
    obtain ⟨t0d, t1d, _, _⟩ := box2 hxd.arg
    obtain ⟨r0d, r1d, r2d, r3d⟩ := box2 hxd.res
    go_wp2_with fail
    have hw : IntKind.i64.wrap (a + 1) = a + 1 := by rw [IntKind.wrap_i64]; omega
    have hx5 := (hx.set (.int .i64 s) (.int .i64 (a + 1))).drew
    go_region_held3 (fun w' => w'.cell? ⟨w.heap.size, 0, none⟩ = some (.int .i64 s) ∧ w'.cell? ⟨w.heap.size, 1, none⟩ = some (.int .i64 a)) (first | (refine ⟨?_, ?_⟩ <;> assumption) | go_keep) (first | (go_at_call 101; (with_reducible refine (spec_Keyed s 7 a _).mono ?_); rintro e w' ⟨rfl, rfl⟩))
    all_goals
      (try rw [hw])
      go_wp2_with fail
      (try simp only [Exit.inBlock, Exit.then])
      refine bodyPost_ret (results_tmp_cell_row (P := Try.prog) rfl _ _ _ (w.heap.size + 1) 29 _ (0, 0) _ rfl rfl hx5.res Try.underlying29 rfl (by kernel_rfl)) rfl ?_
      exact ⟨rfl, hx5.low⟩
  · have e1 : twI s a = 0 := if_neg h
    have e2 : taI s a = a := if_neg h
    rw [e1, e2]
    clear e1 e2
    go_enter Try.func100, Try.ntmps100
    go_wp2_with fail
    refine (spec_TapeOk s a _).mono ?_
    rintro e w1 ⟨rfl, hb1⟩
    have hx := (Boxed.start w 29 (.int .i64 s) (.int .i64 a) 29 (.int .i64 0) (.int .i64 0)).next hb1
    clear hb1
    obtain ⟨t0, t1, _, _⟩ := box2 hx.arg
    obtain ⟨r0, r1, r2, r3⟩ := box2 hx.res
    have hx5 := (hx.set (.int .i64 s) (.int .i64 a)).drew
    by_cases hs : isTape s a
    · obtain rfl : a = 1000000 := by have := hs.range; unfold more at h; have : ¬ a < 1000000 := fun k => h ⟨hs, k⟩; omega
      rw [decide_eq_true hs]
      clear h hs
      go_wp2_with fail
      go_region
      go_wp2_with fail
      (try simp only [Exit.inBlock, Exit.then])
      refine bodyPost_ret (results_tmp_cell_row (P := Try.prog) rfl _ _ _ (w.heap.size + 1) 29 _ (0, 0) _ rfl rfl hx5.res Try.underlying29 rfl (by kernel_rfl)) rfl ?_
      exact ⟨rfl, hx5.low⟩
    · rw [decide_eq_false hs]
      clear h
      go_wp2_with fail
      go_region
      go_wp2_with fail
      (try simp only [Exit.inBlock, Exit.then])
      refine bodyPost_ret (results_tmp_cell_row (P := Try.prog) rfl _ _ _ (w.heap.size + 1) 29 _ (0, 0) _ rfl rfl hx5.res Try.underlying29 rfl (by kernel_rfl)) rfl ?_
      exact ⟨rfl, hx5.low⟩
theorem spec_TapeBelow (s a n : Int) (w : World) :
    Calls Try.prog 63 #[.agg #[.int .i64 s, .int .i64 a], .int .i64 n] w fun e w' => e = .returned (.tuple #[.int .i64 (tbI s a n), .agg #[.int .i64 s, .int .i64 (tbaI s a n)]]) ∧ Below w.heap.size w w' := by
  by_cases hn : isBound n
  · have hx := Boxed.start w 29 (.int .i64 s) (.int .i64 a) 29 (.int .i64 0) (.int .i64 0)
    obtain ⟨t0, t1, _, _⟩ := box2 hx.arg
    have e1 : tbI s a n = redI (twI s a) n := by
      unfold tbI twI
      by_cases h : more s a
      · rw [if_pos ⟨hn, h⟩, if_pos h]
      · rw [if_neg (fun k => h k.2), if_neg h]; simp [redI]
    have e2 : tbaI s a n = taI s a := by
      unfold tbaI taI
      by_cases h : more s a
      · rw [if_pos ⟨hn, h⟩, if_pos h]
      · rw [if_neg (fun k => h k.2), if_neg h]
    rw [e1, e2]
    have hx1 : isWord (twI s a) := by
      unfold twI
      split
      · exact keyedI_word _ _ _
      · unfold isWord; omega
    generalize hp : twI s a = p at hx1
    generalize hq : taI s a = q
    have Hp := Lib.hid hp
    have Hq := Lib.hid hq
    obtain ⟨x0, x1⟩ := hx1
    have hbn : decide (1 ≤ n ∧ n ≤ 65536) = true := decide_eq_true hn
    obtain ⟨n0, n1⟩ := hn
    clear e1 e2 hp hq
    have hne : n ≠ 0 := by omega
    go_enter Try.func63, Try.ntmps63
    go_wp2_with fail
    refine (l01In_is n 1 65536 true hbn _).mono ?_
    rintro e w1 ⟨rfl, rfl⟩
    go_wp2_with fail
    refine ((spec_TapeWord s a _).mono ?_)
    rw [Hp.out, Hq.out]
    rintro e w1 ⟨rfl, hb1⟩
    have hx2 := hx.next hb1
    clear hb1 t0 t1 hx
    have hb3 := heap_alloc_new w1 (.cells #[.int .i64 s, .int .i64 q] 29)
    have hx3 := hx2.alloc (.cells #[.int .i64 s, .int .i64 q] 29)
    obtain ⟨b0, b1, _, _⟩ := box2 hb3
    obtain ⟨r0, r1, r2, r3⟩ := box2 hx3.res
    have hx5 := (hx3.set (.int .i64 s) (.int .i64 q)).drew
    go_wp2_with fail
    go_region
    go_wp2_with fail
    (try simp only [Exit.inBlock, Exit.then])
    refine bodyPost_ret (results_tmp_cell_row (P := Try.prog) rfl _ _ _ (w.heap.size + 1) 29 _ (0, 0) _ rfl rfl hx5.res Try.underlying29 rfl (by kernel_rfl)) rfl ?_
    exact ⟨by simp [redI], hx5.low⟩
  · have e1 : tbI s a n = 0 := if_neg (fun k => hn k.1)
    have e2 : tbaI s a n = a := if_neg (fun k => hn k.1)
    rw [e1, e2]
    have hbn : decide (1 ≤ n ∧ n ≤ 65536) = false := decide_eq_false hn
    have hx5 := (Boxed.start w 29 (.int .i64 s) (.int .i64 a) 29 (.int .i64 s) (.int .i64 a)).drew
    clear e1 e2 hn
    go_enter Try.func63, Try.ntmps63
    go_wp2_with fail
    refine (l01In_is n 1 65536 false hbn _).mono ?_
    rintro e w1 ⟨rfl, rfl⟩
    go_wp2_with fail
    go_region
    go_wp2_with fail
    (try simp only [Exit.inBlock, Exit.then])
    refine bodyPost_ret (results_tmp_cell_row (P := Try.prog) rfl _ _ _ (w.heap.size + 1) 29 _ (0, 0) _ rfl rfl hx5.res Try.underlying29 rfl (by kernel_rfl)) rfl ?_
    exact ⟨rfl, hx5.low⟩
theorem spec_TapeFork (s a n : Int) (w : World) :
    Calls Try.prog 64 #[.agg #[.int .i64 s, .int .i64 a], .int .i64 n] w fun e w' => e = .returned (.agg #[.int .i64 (tfI s a n), .int .i64 0]) ∧ Below w.heap.size w w' := by
  by_cases hs : isTape s a
  · have hok := decide_eq_true hs
    by_cases hn : 0 ≤ n ∧ n ≤ 1000000
    · have e1 : tfI s a n = keyedI s 9 n := if_pos ⟨hs, hn⟩
      rw [e1]
      have hbn := decide_eq_true hn
      clear e1 hs
      go_enter Try.func64, Try.ntmps64
      go_wp2_with fail
      refine (spec_TapeOk s a _).mono ?_
      rintro e w1 ⟨rfl, hb1⟩
      rw [hok]
      have hx := (Boxed.start w 29 (.int .i64 s) (.int .i64 a) 29 (.int .i64 0) (.int .i64 0)).next hb1
      clear hb1
      obtain ⟨t0, t1, _, _⟩ := box2 hx.arg
      obtain ⟨r0, r1, r2, r3⟩ := box2 hx.res
      have hx5 := hx.set (.int .i64 (keyedI s 9 n)) (.int .i64 0)
      go_wp2_with fail
      refine (l01In_is n 0 1000000 true hbn _).mono ?_
      rintro e w2 ⟨rfl, rfl⟩
      go_wp2_with fail
      refine (spec_Keyed s 9 n w1).mono ?_
      rintro e w2 ⟨rfl, rfl⟩
      go_wp2_with fail
      (try simp only [Exit.inBlock, Exit.then])
      refine bodyPost_ret (results_cell_row (P := Try.prog) rfl _ _ (w.heap.size + 1) 29 _ (0, 0) _ rfl hx5.res Try.underlying29 rfl (by kernel_rfl)) rfl ?_
      exact ⟨rfl, hx5.low⟩
    · have e1 : tfI s a n = 0 := if_neg (fun k => hn k.2)
      rw [e1]
      have hbn := decide_eq_false hn
      clear e1 hs hn
      go_enter Try.func64, Try.ntmps64
      go_wp2_with fail
      refine (spec_TapeOk s a _).mono ?_
      rintro e w1 ⟨rfl, hb1⟩
      rw [hok]
      have hx := (Boxed.start w 29 (.int .i64 s) (.int .i64 a) 29 (.int .i64 0) (.int .i64 0)).next hb1
      clear hb1
      obtain ⟨t0, t1, _, _⟩ := box2 hx.arg
      obtain ⟨r0, r1, r2, r3⟩ := box2 hx.res
      have hx5 := hx.set (.int .i64 0) (.int .i64 0)
      go_wp2_with fail
      refine (l01In_is n 0 1000000 false hbn _).mono ?_
      rintro e w2 ⟨rfl, rfl⟩
      go_wp2_with fail
      (try simp only [Exit.inBlock, Exit.then])
      refine bodyPost_ret (results_cell_row (P := Try.prog) rfl _ _ (w.heap.size + 1) 29 _ (0, 0) _ rfl hx5.res Try.underlying29 rfl (by kernel_rfl)) rfl ?_
      exact ⟨rfl, hx5.low⟩
  · have e1 : tfI s a n = 0 := if_neg (fun k => hs k.1)
    rw [e1]
    have hok := decide_eq_false hs
    clear e1 hs
    go_enter Try.func64, Try.ntmps64
    go_wp2_with fail
    refine (spec_TapeOk s a _).mono ?_
    rintro e w1 ⟨rfl, hb1⟩
    rw [hok]
    have hx := (Boxed.start w 29 (.int .i64 s) (.int .i64 a) 29 (.int .i64 0) (.int .i64 0)).next hb1
    clear hb1
    obtain ⟨t0, t1, _, _⟩ := box2 hx.arg
    obtain ⟨r0, r1, r2, r3⟩ := box2 hx.res
    have hx5 := hx.set (.int .i64 0) (.int .i64 0)
    go_wp2_with fail
    (try simp only [Exit.inBlock, Exit.then])
    refine bodyPost_ret (results_cell_row (P := Try.prog) rfl _ _ (w.heap.size + 1) 29 _ (0, 0) _ rfl hx5.res Try.underlying29 rfl (by kernel_rfl)) rfl ?_
    exact ⟨rfl, hx5.low⟩
end Go.Proofs.Ytfpcjgolcbjnjaa

/- FAdd, FSub, FMul: the results. -/
import Derived.Test.YtcjgoonkdjaccaaProg
import Derived.Test.YtcjgoonkdjaccaaFieldI
namespace Go.Proofs.Ytcjgoonkdjaccaa
open Go Go.RowKit
theorem impl_combine_plus (p a b : Int) (ha : isEl p a) (hb : isEl p b) (w : World) :
    Calls Try.prog 72 #[.int .i64 p, .int .i64 a, .int .i64 b, .func (.func 73) #[] #[]] w fun e w' => e = .returned (.int .i64 ((a + b) % p)) ∧ Below w.heap.size w w' := by
  go_enter Try.func72, Try.ntmps72
  go_wp2_with fail
  refine (impl_newElement_yes p a ha w).mono ?_
  rintro e w1 ⟨rfl, hb1⟩
  go_wp2_with fail
  refine (impl_newElement_yes p b hb _).mono ?_
  rintro e w2 ⟨rfl, hb2⟩
  have hb3 := (hb1.alloc hb1.size _).trans (hb2.mono (by have := hb1.size; simp; omega))
  have hc : w2.heap[w1.heap.size]? = some (.cells #[.int .i64 p, .int .i64 a] 59) := (hb2.block w1.heap.size (by simp)).trans (heap_alloc_new w1 _)
  have hcs := cells2 (Obj.cells #[.int .i64 p, .int .i64 b] 59) hc
  have hl1 : w1.heap.size < w2.heap.size := (Array.getElem?_eq_some_iff.1 hc).1
  generalize w1.heap.size = g1 at hcs hl1
  obtain ⟨hc0, hc1⟩ := hcs
  clear hc
  go_wp2_with fail
  refine (impl_plus p a b ha hb _).mono ?_
  rintro e w3 ⟨rfl, hb4⟩
  have hfld := run_value
  have hb5 := (hb3.alloc hb3.size _).trans (hb4.mono (by have := hb3.size; simp; omega))
  go_wp2_with fail
  go_ret
  exact ⟨rfl, hb5⟩
theorem impl_combine_minus (p a b : Int) (ha : isEl p a) (hb : isEl p b) (w : World) :
    Calls Try.prog 72 #[.int .i64 p, .int .i64 a, .int .i64 b, .func (.func 95) #[] #[]] w fun e w' => e = .returned (.int .i64 ((a - b) % p)) ∧ Below w.heap.size w w' := by
  go_enter Try.func72, Try.ntmps72
  go_wp2_with fail
  refine (impl_newElement_yes p a ha w).mono ?_
  rintro e w1 ⟨rfl, hb1⟩
  go_wp2_with fail
  refine (impl_newElement_yes p b hb _).mono ?_
  rintro e w2 ⟨rfl, hb2⟩
  have hb3 := (hb1.alloc hb1.size _).trans (hb2.mono (by have := hb1.size; simp; omega))
  have hc : w2.heap[w1.heap.size]? = some (.cells #[.int .i64 p, .int .i64 a] 59) := (hb2.block w1.heap.size (by simp)).trans (heap_alloc_new w1 _)
  have hcs := cells2 (Obj.cells #[.int .i64 p, .int .i64 b] 59) hc
  have hl1 : w1.heap.size < w2.heap.size := (Array.getElem?_eq_some_iff.1 hc).1
  generalize w1.heap.size = g1 at hcs hl1
  obtain ⟨hc0, hc1⟩ := hcs
  clear hc
  go_wp2_with fail
  refine (impl_minus p a b ha hb _).mono ?_
  rintro e w3 ⟨rfl, hb4⟩
  have hfld := run_value
  have hb5 := (hb3.alloc hb3.size _).trans (hb4.mono (by have := hb3.size; simp; omega))
  go_wp2_with fail
  go_ret
  exact ⟨rfl, hb5⟩
theorem impl_combine_times (p a b : Int) (ha : isEl p a) (hb : isEl p b) (w : World) :
    Calls Try.prog 72 #[.int .i64 p, .int .i64 a, .int .i64 b, .func (.func 74) #[] #[]] w fun e w' => e = .returned (.int .i64 ((a * b) % p)) ∧ Below w.heap.size w w' := by
  go_enter Try.func72, Try.ntmps72
  go_wp2_with fail
  refine (impl_newElement_yes p a ha w).mono ?_
  rintro e w1 ⟨rfl, hb1⟩
  go_wp2_with fail
  refine (impl_newElement_yes p b hb _).mono ?_
  rintro e w2 ⟨rfl, hb2⟩
  have hb3 := (hb1.alloc hb1.size _).trans (hb2.mono (by have := hb1.size; simp; omega))
  have hc : w2.heap[w1.heap.size]? = some (.cells #[.int .i64 p, .int .i64 a] 59) := (hb2.block w1.heap.size (by simp)).trans (heap_alloc_new w1 _)
  have hcs := cells2 (Obj.cells #[.int .i64 p, .int .i64 b] 59) hc
  have hl1 : w1.heap.size < w2.heap.size := (Array.getElem?_eq_some_iff.1 hc).1
  generalize w1.heap.size = g1 at hcs hl1
  obtain ⟨hc0, hc1⟩ := hcs
  clear hc
  go_wp2_with fail
  refine (impl_times p a b ha hb _).mono ?_
  rintro e w3 ⟨rfl, hb4⟩
  have hfld := run_value
  have hb5 := (hb3.alloc hb3.size _).trans (hb4.mono (by have := hb3.size; simp; omega))
  go_wp2_with fail
  go_ret
  exact ⟨rfl, hb5⟩
theorem impl_combine_no (p a b : Int) (h : ¬ (isEl p a ∧ isEl p b)) (k : Nat) (w : World) :
    Calls Try.prog 72 #[.int .i64 p, .int .i64 a, .int .i64 b, .func (.func k) #[] #[]] w fun e w' => e = .returned (.int .i64 (-1)) ∧ Below w.heap.size w w' := by
  by_cases ha : isEl p a
  · have hb : ¬ isEl p b := fun e => h ⟨ha, e⟩
    go_enter Try.func72, Try.ntmps72
    go_wp2_with fail
    refine (impl_newElement_yes p a ha w).mono ?_
    rintro e w1 ⟨rfl, hb1⟩
    go_wp2_with fail
    refine (impl_newElement_no p b hb _).mono ?_
    rintro e w2 ⟨rfl, hb2⟩
    have hb3 := (hb1.alloc hb1.size _).trans (hb2.mono (by have := hb1.size; simp; omega))
    go_wp2_with fail
    go_ret
    exact ⟨rfl, hb3.alloc hb3.size _⟩
  · by_cases hb : isEl p b
    · go_enter Try.func72, Try.ntmps72
      go_wp2_with fail
      refine (impl_newElement_no p a ha w).mono ?_
      rintro e w1 ⟨rfl, hb1⟩
      go_wp2_with fail
      refine (impl_newElement_yes p b hb _).mono ?_
      rintro e w2 ⟨rfl, hb2⟩
      have hb3 := (hb1.alloc hb1.size _).trans (hb2.mono (by have := hb1.size; simp; omega))
      go_wp2_with fail
      go_ret
      exact ⟨rfl, hb3.alloc hb3.size _⟩
    · go_enter Try.func72, Try.ntmps72
      go_wp2_with fail
      refine (impl_newElement_no p a ha w).mono ?_
      rintro e w1 ⟨rfl, hb1⟩
      go_wp2_with fail
      refine (impl_newElement_no p b hb _).mono ?_
      rintro e w2 ⟨rfl, hb2⟩
      have hb3 := (hb1.alloc hb1.size _).trans (hb2.mono (by have := hb1.size; simp; omega))
      go_wp2_with fail
      go_ret
      exact ⟨rfl, hb3.alloc hb3.size _⟩
theorem impl_FAdd (p a b : Int) (w : World) :
    Calls Try.prog 41 #[.int .i64 p, .int .i64 a, .int .i64 b] w fun e w' => e = .returned (.int .i64 (faddI p a b)) ∧ Below w.heap.size w w' := by
  by_cases h : isEl p a ∧ isEl p b
  · rw [faddI_yes h.1 h.2]
    go_enter Try.func41, Try.ntmps41
    go_wp2_with fail
    refine (impl_combine_plus p a b h.1 h.2 w).mono ?_
    rintro e w1 ⟨rfl, hb1⟩
    go_wp2_with fail
    go_ret
    exact ⟨rfl, hb1⟩
  · have e0 : faddI p a b = -1 := by unfold faddI; rw [if_neg h]
    rw [e0]
    go_enter Try.func41, Try.ntmps41
    go_wp2_with fail
    refine (impl_combine_no p a b h _ w).mono ?_
    rintro e w1 ⟨rfl, hb1⟩
    go_wp2_with fail
    go_ret
    exact ⟨rfl, hb1⟩
theorem impl_FSub (p a b : Int) (w : World) :
    Calls Try.prog 76 #[.int .i64 p, .int .i64 a, .int .i64 b] w fun e w' => e = .returned (.int .i64 (fsubI p a b)) ∧ Below w.heap.size w w' := by
  by_cases h : isEl p a ∧ isEl p b
  · rw [fsubI_yes h.1 h.2]
    go_enter Try.func76, Try.ntmps76
    go_wp2_with fail
    refine (impl_combine_minus p a b h.1 h.2 w).mono ?_
    rintro e w1 ⟨rfl, hb1⟩
    go_wp2_with fail
    go_ret
    exact ⟨rfl, hb1⟩
  · have e0 : fsubI p a b = -1 := by unfold fsubI; rw [if_neg h]
    rw [e0]
    go_enter Try.func76, Try.ntmps76
    go_wp2_with fail
    refine (impl_combine_no p a b h _ w).mono ?_
    rintro e w1 ⟨rfl, hb1⟩
    go_wp2_with fail
    go_ret
    exact ⟨rfl, hb1⟩
theorem impl_FMul (p a b : Int) (w : World) :
    Calls Try.prog 42 #[.int .i64 p, .int .i64 a, .int .i64 b] w fun e w' => e = .returned (.int .i64 (fmulI p a b)) ∧ Below w.heap.size w w' := by
  by_cases h : isEl p a ∧ isEl p b
  · rw [fmulI_yes h.1 h.2]
    go_enter Try.func42, Try.ntmps42
    go_wp2_with fail
    refine (impl_combine_times p a b h.1 h.2 w).mono ?_
    rintro e w1 ⟨rfl, hb1⟩
    go_wp2_with fail
    go_ret
    exact ⟨rfl, hb1⟩
  · have e0 : fmulI p a b = -1 := by unfold fmulI; rw [if_neg h]
    rw [e0]
    go_enter Try.func42, Try.ntmps42
    go_wp2_with fail
    refine (impl_combine_no p a b h _ w).mono ?_
    rintro e w1 ⟨rfl, hb1⟩
    go_wp2_with fail
    go_ret
    exact ⟨rfl, hb1⟩
theorem l03Both_at (p a b : Int) (r : Bool) (h : decide (isEl p a ∧ isEl p b) = r) (w : World) :
    Calls Try.prog 82 #[.int .i64 p, .int .i64 a, .int .i64 b] w fun e w' => e = .returned (.bool r) ∧ w = w' := by
  subst h
  go_enter Try.func82, Try.ntmps82
  go_wp2_with fail
  refine (spec_IsElement p a w).mono ?_
  rintro e w1 ⟨rfl, rfl⟩
  by_cases ha : isEl p a
  · rw [decide_eq_true ha]
    go_wp2_with fail
    refine (spec_IsElement p b w).mono ?_
    rintro e w1 ⟨rfl, rfl⟩
    go_wp2_with fail
    go_ret
    exact ⟨ret_bool (by simp [ha]), rfl⟩
  · rw [decide_eq_false ha]
    go_wp2_with fail
    go_ret
    exact ⟨ret_bool (by simp [ha]), rfl⟩
theorem spec_FAdd (p a b : Int) (w : World) :
    Calls Try.prog 53 #[.int .i64 p, .int .i64 a, .int .i64 b] w fun e w' => e = .returned (.int .i64 (faddI p a b)) ∧ w = w' := by
  by_cases h : isEl p a ∧ isEl p b
  · rw [faddI_yes h.1 h.2]
    have := h.1.range
    have := h.2.range
    go_enter Try.func53, Try.ntmps53
    go_wp2_with fail
    refine (l03Both_at p a b true (decide_eq_true h) w).mono ?_
    rintro e w1 ⟨rfl, rfl⟩
    go_wp2_with fail
    go_ret
    exact ⟨rfl, rfl⟩
  · have e0 : faddI p a b = -1 := by unfold faddI; rw [if_neg h]
    rw [e0]
    go_enter Try.func53, Try.ntmps53
    go_wp2_with fail
    refine (l03Both_at p a b false (decide_eq_false h) w).mono ?_
    rintro e w1 ⟨rfl, rfl⟩
    go_wp2_with fail
    go_ret
    exact ⟨rfl, rfl⟩
theorem spec_FSub (p a b : Int) (w : World) :
    Calls Try.prog 86 #[.int .i64 p, .int .i64 a, .int .i64 b] w fun e w' => e = .returned (.int .i64 (fsubI p a b)) ∧ w = w' := by
  by_cases h : isEl p a ∧ isEl p b
  · rw [fsubI_yes h.1 h.2]
    have := h.1.range
    have := h.2.range
    rw [show (a - b) % p = (a + p - b) % p by rw [show a + p - b = a - b + p by omega]; simp]
    go_enter Try.func86, Try.ntmps86
    go_wp2_with fail
    refine (l03Both_at p a b true (decide_eq_true h) w).mono ?_
    rintro e w1 ⟨rfl, rfl⟩
    go_wp2_with fail
    go_ret
    exact ⟨rfl, rfl⟩
  · have e0 : fsubI p a b = -1 := by unfold fsubI; rw [if_neg h]
    rw [e0]
    go_enter Try.func86, Try.ntmps86
    go_wp2_with fail
    refine (l03Both_at p a b false (decide_eq_false h) w).mono ?_
    rintro e w1 ⟨rfl, rfl⟩
    go_wp2_with fail
    go_ret
    exact ⟨rfl, rfl⟩
theorem spec_FMul (p a b : Int) (w : World) :
    Calls Try.prog 85 #[.int .i64 p, .int .i64 a, .int .i64 b] w fun e w' => e = .returned (.int .i64 (fmulI p a b)) ∧ w = w' := by
  by_cases h : isEl p a ∧ isEl p b
  · rw [fmulI_yes h.1 h.2]
    have := h.1.range
    have := h.2.range
    obtain ⟨hs0, hs1⟩ := prod_small h.1 h.2
    go_enter Try.func85, Try.ntmps85
    go_wp2_with fail
    refine (l03Both_at p a b true (decide_eq_true h) w).mono ?_
    rintro e w1 ⟨rfl, rfl⟩
    go_wp2_with fail
    go_ret
    exact ⟨rfl, rfl⟩
  · have e0 : fmulI p a b = -1 := by unfold fmulI; rw [if_neg h]
    rw [e0]
    go_enter Try.func85, Try.ntmps85
    go_wp2_with fail
    refine (l03Both_at p a b false (decide_eq_false h) w).mono ?_
    rintro e w1 ⟨rfl, rfl⟩
    go_wp2_with fail
    go_ret
    exact ⟨rfl, rfl⟩
end Go.Proofs.Ytcjgoonkdjaccaa

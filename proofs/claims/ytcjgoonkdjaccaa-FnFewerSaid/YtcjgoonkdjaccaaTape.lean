/- TapeOk, TapeWord, TapeBelow, TapeFork: the results; the reader that the closures share. -/
import Derived.Test.YtcjgoonkdjaccaaProg
import Derived.Test.YtcjgoonkdjaccaaWords
import Derived.Test.YtcjgoonkdjaccaaTapeM
import Derived.Test.YtcjgoonkdjaccaaBox
import Derived.BigRegion
namespace Go.Proofs.Ytcjgoonkdjaccaa
open Go Go.RowKit
theorem impl_TapeOk (s a : Int) (w : World) :
    Calls Try.prog 64 #[.agg #[.int .i64 s, .int .i64 a]] w fun e w' => e = .returned (.bool (decide (isTape s a))) ∧ Below w.heap.size w w' := by
  go_enter Try.func64, Try.ntmps64
  go_wp2_with fail
  refine (impl_IsWord s _).mono ?_
  rintro e w1 ⟨rfl, rfl⟩
  by_cases hs : isWord s
  · rw [decide_eq_true hs]
    go_wp2
    all_goals go_ret
    all_goals exact ⟨ret_bool (by simp [isTape, hs]; omega), (Below.refl _ _).alloc (Nat.le_refl _) _⟩
  · rw [decide_eq_false hs]
    go_wp2_with fail
    go_ret
    exact ⟨ret_bool (by simp [isTape, hs]), (Below.refl _ _).alloc (Nat.le_refl _) _⟩
theorem impl_canRead (s a k : Int) (w : World) :
    Calls Try.prog 66 #[.agg #[.int .i64 s, .int .i64 a], .int .i64 k] w fun e w' => e = .returned (.bool (decide (isTape s a ∧ a + k ≤ 1000000))) ∧ Below w.heap.size w w' := by
  go_enter Try.func66, Try.ntmps66
  go_wp2_with fail
  refine (impl_TapeOk s a _).mono ?_
  rintro e w1 ⟨rfl, hb1⟩
  have hc := box2_below (heap_alloc_new w _) hb1
  have hb2 := ((Below.refl w.heap.size w).alloc (Nat.le_refl _) _).trans (hb1.mono (by simp))
  obtain ⟨c0, c1, _, _⟩ := box2 hc
  by_cases hs : isTape s a
  · obtain ⟨h0, h1⟩ := hs.range
    rw [decide_eq_true hs]
    go_wp2
    all_goals go_ret
    all_goals exact ⟨ret_bool (by simp [hs]; omega), hb2⟩
  · rw [decide_eq_false hs]
    go_wp2_with fail
    go_ret
    exact ⟨ret_bool (by simp [hs]), hb2⟩
theorem impl_belowOk (n : Int) (w : World) :
    Calls Try.prog 65 #[.int .i64 n] w fun e w' => e = .returned (.bool (decide (isBound n))) ∧ w = w' := by
  go_enter Try.func65, Try.ntmps65
  go_wp2
  all_goals go_ret
  all_goals exact ⟨ret_bool (by symm; first | (exact decide_eq_decide.2 (by unfold isBound; omega)) | (apply decide_eq_true; unfold isBound; omega) | (apply decide_eq_false; unfold isBound; omega)), rfl⟩
theorem impl_below (x n : Int) (hx : isWord x) (hn : isBound n) (w : World) :
    Calls Try.prog 68 #[.int .i64 x, .int .i64 n] w fun e w' => e = .returned (.int .i64 (redI x n)) ∧ w = w' := by
  obtain ⟨x0, x1⟩ := hx
  obtain ⟨n0, n1⟩ := hn
  go_enter Try.func68, Try.ntmps68
  go_wp2_with fail
  go_ret
  exact ⟨ret_int (by simp [redI]), rfl⟩
/-- A tape of which words are read: the struct in block gt, its position in block ga. -/
structure Reader (w : World) (gt ga : Nat) (s a0 a : Int) : Prop where
  tape : w.heap[gt]? = some (.cells #[.int .i64 s, .int .i64 a0] 27 (0, 0))
  pos : w.heap[ga]? = some (.cells #[.int .i64 a] 3 (0, 0))
theorem Reader.ne {w : World} {gt ga : Nat} {s a0 a : Int} (h : Reader w gt ga s a0 a) : gt ≠ ga := by
  rintro rfl
  have := h.tape.symm.trans h.pos
  simp at this
theorem Reader.below {w w' : World} {gt ga : Nat} {s a0 a : Int} (h : Reader w gt ga s a0 a) (hb : Below w.heap.size w w') : Reader w' gt ga s a0 a :=
  ⟨box2_below h.tape hb, (hb.block _ (Array.getElem?_eq_some_iff.1 h.pos).1).trans h.pos⟩
theorem Reader.set {w : World} {gt ga : Nat} {s a0 a : Int} (h : Reader w gt ga s a0 a) (b : Int) : Reader (w.setCell ⟨ga, 0, none⟩ (.int .i64 b)) gt ga s a0 b :=
  ⟨by rw [Below.heap_setCell _ _ _ _ h.ne]; exact h.tape, one_setCell h.pos⟩
abbrev nextV (gt ga : Nat) : Value := .func (.func 89) #[] #[.pointer (some ⟨gt, 0, none⟩), .pointer (some ⟨ga, 0, none⟩)]
abbrev afterV (gt ga : Nat) : Value := .func (.func 91) #[] #[.pointer (some ⟨gt, 0, none⟩), .pointer (some ⟨ga, 0, none⟩)]
theorem impl_readTape (s a : Int) (w : World) :
    Calls Try.prog 67 #[.agg #[.int .i64 s, .int .i64 a]] w fun e w' => ∃ gt ga, e = .returned (.tuple #[nextV gt ga, afterV gt ga]) ∧ Reader w' gt ga s a a ∧ w.heap.size ≤ gt ∧ w.heap.size ≤ ga ∧ Below w.heap.size w w' := by
  go_enter Try.func67, Try.ntmps67
  go_wp2_with fail
  go_returns
  refine ⟨_, _, rfl, ⟨?_, ?_⟩, Nat.le_refl _, Nat.le_succ _, ((Below.refl _ _).alloc (Nat.le_refl _) _).alloc (by simp) _⟩
  · rw [Below.heap_alloc _ _ _ (by simp)]
    exact heap_alloc_new w _
  · have h := heap_alloc_new (w.alloc (.cells #[.int .i64 s, .int .i64 a] 27)) (.cells #[.int .i64 a] 3)
    simpa using h
theorem impl_next (s a0 a : Int) (gt ga : Nat) (w : World) (h : Reader w gt ga s a0 a) (h0 : 0 ≤ a) (h1 : a < 1000000) :
    Calls Try.prog 89 #[.pointer (some ⟨gt, 0, none⟩), .pointer (some ⟨ga, 0, none⟩)] w fun e w' => e = .returned (.int .i64 (keyedI s 7 a)) ∧ w' = w.setCell ⟨ga, 0, none⟩ (.int .i64 (a + 1)) := by
  obtain ⟨t0, t1, _, _⟩ := box2 h.tape
  have p0 := cell_of_one h.pos
  have p1 := free_of_one h.pos
  go_enter Try.func89, Try.ntmps89
  go_wp2_with fail
  refine (impl_Keyed s 7 a w).mono ?_
  rintro e w1 ⟨rfl, rfl⟩
  go_wp2_with fail
  go_ret
  exact ⟨rfl, rfl⟩
theorem impl_after (s a0 a : Int) (gt ga : Nat) (w : World) (h : Reader w gt ga s a0 a) :
    Calls Try.prog 91 #[.pointer (some ⟨gt, 0, none⟩), .pointer (some ⟨ga, 0, none⟩)] w fun e w' => e = .returned (.agg #[.int .i64 s, .int .i64 a]) ∧ Below w.heap.size w w' := by
  have h' := h.below ((Below.refl _ _).alloc (Nat.le_refl _) (.cells #[.int .i64 0, .int .i64 0] 27))
  obtain ⟨t0, t1, _, _⟩ := box2 h'.tape
  have p0 := cell_of_one h'.pos
  go_enter Try.func91, Try.ntmps91
  go_wp2_with fail
  go_returns
  exact ⟨rfl, (Below.refl _ _).alloc (Nat.le_refl _) _⟩
end Go.Proofs.Ytcjgoonkdjaccaa

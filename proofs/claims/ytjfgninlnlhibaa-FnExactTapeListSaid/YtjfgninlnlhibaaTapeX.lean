/- The laws FnExactTapeOk, FnExactTapeWord, FnExactTapeBelow, FnExactTapeFork. -/
import Derived.Test.YtjfgninlnlhibaaProg
import Derived.Test.YtjfgninlnlhibaaTapeS
namespace Go.Proofs.Ytjfgninlnlhibaa
open Go Go.RowKit
theorem toTape_any (s a : Int) (w : World) :
    Calls Try.prog 20 #[.agg #[.int .i64 s, .int .i64 a]] w fun e w' => e = .returned (.agg #[.int .i64 s, .int .i64 a]) ∧ Below w.heap.size w w' := by
  go_enter Try.func20, Try.ntmps20
  go_wp2_with fail
  go_returns
  exact ⟨rfl, (((Below.refl _ _).alloc (Nat.le_refl _) _).alloc (by simp) _).alloc (by simp; omega) _⟩
theorem eqTape_any (s a : Int) (w : World) :
    Calls Try.prog 22 #[.agg #[.int .i64 s, .int .i64 a], .agg #[.int .i64 s, .int .i64 a]] w fun e w' => e = .returned (.bool true) ∧ Below w.heap.size w w' := by
  go_enter Try.func22, Try.ntmps22
  go_wp2_with fail
  go_ret
  exact ⟨rfl, ((Below.refl _ _).alloc (Nat.le_refl _) _).alloc (by simp) _⟩
/-- A box that came in, and what has turned since: new blocks alone. -/
structure Kept (w wr : World) (T : TypeId) (x y : Value) : Prop where
  arg : wr.heap[w.heap.size]? = some (.cells #[x, y] T (0, 0))
  low : Below w.heap.size w wr
theorem Kept.start (w : World) (T : TypeId) (x y : Value) : Kept w (w.alloc (.cells #[x, y] T)) T x y := ⟨heap_alloc_new w _, (Below.refl _ _).alloc (Nat.le_refl _) _⟩
theorem Kept.next {w wr w1 : World} {T : TypeId} {x y : Value} (h : Kept w wr T x y) (hb : Below wr.heap.size wr w1) : Kept w w1 T x y := ⟨box2_below h.arg hb, h.low.trans (hb.mono h.low.size)⟩
theorem Kept.alloc {w wr : World} {T : TypeId} {x y : Value} (h : Kept w wr T x y) (o : Obj) : Kept w (wr.alloc o) T x y := h.next ((Below.refl _ _).alloc (Nat.le_refl _) _)
theorem FnExactTapeOk_walk (s a : Int) (w : World) (_h0 : (Lit.int .i64 s).wf = true) (_h1 : (Lit.int .i64 a).wf = true) :
    Calls Try.prog 5 #[.agg #[.int .i64 s, .int .i64 a]] w fun e w' => e = .returned (.bool true) ∧ Below w.heap.size w w' := by
  have k0 := Kept.start w 37 (.int .i64 s) (.int .i64 a)
  go_enter Try.func5, Try.ntmps5
  go_wp2_with fail
  refine (toTape_any s a _).mono ?_
  rintro e w1 ⟨rfl, hb1⟩
  have k1 := k0.next hb1
  clear hb1 k0
  go_wp2_with fail
  refine (spec_TapeOk s a w1).mono ?_
  rintro e w2 ⟨rfl, hb2⟩
  have k2 := k1.next hb2
  clear hb2 k1
  obtain ⟨c0, c1, _, _⟩ := box2 k2.arg
  go_wp2_with fail
  refine (toTape_any s a w2).mono ?_
  rintro e w3 ⟨rfl, hb3⟩
  have k3 := k2.next hb3
  clear hb3 k2 c0 c1
  go_wp2_with fail
  refine (impl_TapeOk s a w3).mono ?_
  rintro e w4 ⟨rfl, hb4⟩
  have k4 := k3.next hb4
  clear hb4 k3
  go_wp2_with fail
  go_ret
  exact ⟨ret_bool (by simp), k4.low⟩
theorem FnExactTapeWord_walk (s a : Int) (w : World) (_h0 : (Lit.int .i64 s).wf = true) (_h1 : (Lit.int .i64 a).wf = true) :
    Calls Try.prog 6 #[.agg #[.int .i64 s, .int .i64 a]] w fun e w' => e = .returned (.bool true) ∧ Below w.heap.size w w' := by
  have k0 := Kept.start w 37 (.int .i64 s) (.int .i64 a)
  obtain ⟨p, hp⟩ : ∃ p, twI s a = p := ⟨_, rfl⟩
  obtain ⟨q, hq⟩ : ∃ q, taI s a = q := ⟨_, rfl⟩
  have Hp := Lib.hid hp
  have Hq := Lib.hid hq
  clear hp hq
  go_enter Try.func6, Try.ntmps6
  go_wp2_with fail
  refine (toTape_any s a _).mono ?_
  rintro e w1 ⟨rfl, hb1⟩
  have k1 := k0.next hb1
  clear hb1 k0
  go_wp2_with fail
  refine (spec_TapeWord s a w1).mono ?_
  rw [Hp.out, Hq.out]
  rintro e w2 ⟨rfl, hb2⟩
  have k2 := (k1.next hb2).alloc (.cells #[.int .i64 s, .int .i64 q] 25)
  have m2 := heap_alloc_new w2 (.cells #[.int .i64 s, .int .i64 q] 25)
  clear hb2 k1
  obtain ⟨c0, c1, _, _⟩ := box2 k2.arg
  go_wp2_with fail
  refine (toTape_any s a _).mono ?_
  rintro e w3 ⟨rfl, hb3⟩
  have k3 := k2.next hb3
  have m3 := box2_below m2 hb3
  clear hb3 k2 c0 c1 m2
  go_wp2_with fail
  refine (impl_TapeWord s a w3).mono ?_
  rw [Hp.out, Hq.out]
  rintro e w4 ⟨rfl, hb4⟩
  have k4 := (k3.next hb4).alloc (.cells #[.int .i64 s, .int .i64 q] 25)
  have m4 := box2_below (box2_below m3 hb4) ((Below.refl _ _).alloc (Nat.le_refl _) (.cells #[.int .i64 s, .int .i64 q] 25))
  obtain ⟨d0, d1, _, _⟩ := box2 m4
  generalize w2.heap.size = g2 at d0 d1
  clear hb4 k3 m3 m4
  go_wp2_with fail
  refine (eqTape_any s q _).mono ?_
  rintro e w5 ⟨rfl, hb5⟩
  have k5 := k4.next hb5
  clear hb5 k4 d0 d1
  go_wp2_with fail
  go_ret
  exact ⟨rfl, k5.low⟩
theorem FnExactTapeBelow_walk (s a n : Int) (w : World) (_h0 : (Lit.int .i64 s).wf = true) (_h1 : (Lit.int .i64 a).wf = true) (_h2 : (Lit.int .i64 n).wf = true) :
    Calls Try.prog 7 #[.agg #[.int .i64 s, .int .i64 a], .int .i64 n] w fun e w' => e = .returned (.bool true) ∧ Below w.heap.size w w' := by
  have k0 := Kept.start w 37 (.int .i64 s) (.int .i64 a)
  obtain ⟨p, hp⟩ : ∃ p, tbI s a n = p := ⟨_, rfl⟩
  obtain ⟨q, hq⟩ : ∃ q, tbaI s a n = q := ⟨_, rfl⟩
  have Hp := Lib.hid hp
  have Hq := Lib.hid hq
  clear hp hq
  go_enter Try.func7, Try.ntmps7
  go_wp2_with fail
  refine (toTape_any s a _).mono ?_
  rintro e w1 ⟨rfl, hb1⟩
  have k1 := k0.next hb1
  clear hb1 k0
  go_wp2_with fail
  refine (spec_TapeBelow s a n w1).mono ?_
  rw [Hp.out, Hq.out]
  rintro e w2 ⟨rfl, hb2⟩
  have k2 := (k1.next hb2).alloc (.cells #[.int .i64 s, .int .i64 q] 25)
  have m2 := heap_alloc_new w2 (.cells #[.int .i64 s, .int .i64 q] 25)
  clear hb2 k1
  obtain ⟨c0, c1, _, _⟩ := box2 k2.arg
  go_wp2_with fail
  refine (toTape_any s a _).mono ?_
  rintro e w3 ⟨rfl, hb3⟩
  have k3 := k2.next hb3
  have m3 := box2_below m2 hb3
  clear hb3 k2 c0 c1 m2
  go_wp2_with fail
  refine (impl_TapeBelow s a n w3).mono ?_
  rw [Hp.out, Hq.out]
  rintro e w4 ⟨rfl, hb4⟩
  have k4 := (k3.next hb4).alloc (.cells #[.int .i64 s, .int .i64 q] 25)
  have m4 := box2_below (box2_below m3 hb4) ((Below.refl _ _).alloc (Nat.le_refl _) (.cells #[.int .i64 s, .int .i64 q] 25))
  obtain ⟨d0, d1, _, _⟩ := box2 m4
  generalize w2.heap.size = g2 at d0 d1
  clear hb4 k3 m3 m4
  go_wp2_with fail
  refine (eqTape_any s q _).mono ?_
  rintro e w5 ⟨rfl, hb5⟩
  have k5 := k4.next hb5
  clear hb5 k4 d0 d1
  go_wp2_with fail
  go_ret
  exact ⟨rfl, k5.low⟩
theorem FnExactTapeFork_walk (s a n : Int) (w : World) (_h0 : (Lit.int .i64 s).wf = true) (_h1 : (Lit.int .i64 a).wf = true) (_h2 : (Lit.int .i64 n).wf = true) :
    Calls Try.prog 9 #[.agg #[.int .i64 s, .int .i64 a], .int .i64 n] w fun e w' => e = .returned (.bool true) ∧ Below w.heap.size w w' := by
  have k0 := Kept.start w 37 (.int .i64 s) (.int .i64 a)
  obtain ⟨p, hp⟩ : ∃ p, tfI s a n = p := ⟨_, rfl⟩
  have Hp := Lib.hid hp
  clear hp
  go_enter Try.func9, Try.ntmps9
  go_wp2_with fail
  refine (toTape_any s a _).mono ?_
  rintro e w1 ⟨rfl, hb1⟩
  have k1 := k0.next hb1
  clear hb1 k0
  go_wp2_with fail
  refine (spec_TapeFork s a n w1).mono ?_
  rw [Hp.out]
  rintro e w2 ⟨rfl, hb2⟩
  have k2 := (k1.next hb2).alloc (.cells #[.int .i64 p, .int .i64 0] 25)
  have m2 := heap_alloc_new w2 (.cells #[.int .i64 p, .int .i64 0] 25)
  clear hb2 k1
  obtain ⟨c0, c1, _, _⟩ := box2 k2.arg
  go_wp2_with fail
  refine (toTape_any s a _).mono ?_
  rintro e w3 ⟨rfl, hb3⟩
  have k3 := k2.next hb3
  have m3 := box2_below m2 hb3
  clear hb3 k2 c0 c1 m2
  go_wp2_with fail
  refine (impl_TapeFork s a n w3).mono ?_
  rw [Hp.out]
  rintro e w4 ⟨rfl, hb4⟩
  have k4 := (k3.next hb4).alloc (.cells #[.int .i64 p, .int .i64 0] 25)
  have m4 := box2_below (box2_below m3 hb4) ((Below.refl _ _).alloc (Nat.le_refl _) (.cells #[.int .i64 p, .int .i64 0] 25))
  obtain ⟨d0, d1, _, _⟩ := box2 m4
  generalize w2.heap.size = g2 at d0 d1
  clear hb4 k3 m3 m4
  go_wp2_with fail
  refine (eqTape_any p 0 _).mono ?_
  rintro e w5 ⟨rfl, hb5⟩
  have k5 := k4.next hb5
  clear hb5 k4 d0 d1
  go_wp2_with fail
  go_ret
  exact ⟨rfl, k5.low⟩
end Go.Proofs.Ytjfgninlnlhibaa
